/- Rows of the call's own, one shorter; a queue's user, its path turned in place. -/
import Derived.Test.YtigfoghkndoakaaDoorMakeP
namespace Go.Proofs.YtigfoghkndoakaaDoor
open Go.RowKit

theorem own_take {w : World} {B : Nat} {e : TypeId} {k n c : Nat} {g : Nat} {xs : List Value} (h : w.ownsRow B e k (.slice (some ⟨g, 0, none⟩) n c) n xs) (m : Nat) (hm : m ≤ n) : w.ownsRow B e k (.slice (some ⟨g, 0, none⟩) m c) m (xs.take (m * k)) := by
  have hk : m * k ≤ n * k := Nat.mul_le_mul_right k hm
  refine ⟨by rw [List.length_take, h.1]; omega, .inr ?_⟩
  rcases h.2 with ⟨h0, _⟩ | ⟨g', cap, cur, h0, hb, hg, hc, hx, hs, ht⟩
  · cases h0
  · simp only [Value.slice.injEq, Option.some.injEq, Addr.mk.injEq] at h0
    obtain ⟨⟨rfl, _⟩, _, rfl⟩ := h0
    exact ⟨g, c, cur, rfl, hb, hg, by omega, hx, hs, by rw [← ht, List.take_take, Nat.min_eq_left hk]⟩
theorem OwnQs.take {w : World} {B g c : Nat} {ds : List QD} {qs : List QC} (h : OwnQs w B (.slice (some ⟨g, 0, none⟩) ds.length c) ds qs) (m : Nat) (hm : m ≤ ds.length) : OwnQs w B (.slice (some ⟨g, 0, none⟩) m c) (ds.take m) (qs.take m) := by
  refine ⟨?_, ?_, fun k q hk hq => ?_, fun i j qi qj hij hi hj => ?_⟩
  · rw [qcells_take, List.length_take, Nat.min_eq_left hm]
    exact own_take h.row m hm
  · rw [List.length_take, List.length_take, h.len]
  · rw [List.length_take] at hk
    rw [List.getElem?_take_of_lt (by omega)] at hq
    have := h.each k q (by omega) hq
    rwa [List.getElem_take]
  · have f : ∀ (l : List QC) (a : Nat) (x : QC), (l.take m)[a]? = some x → l[a]? = some x := by
      intro l a x hx
      rw [List.getElem?_take] at hx
      split at hx
      · exact hx
      · cases hx
    exact h.apart i j qi qj hij (f qs i qi hi) (f qs j qj hj)
theorem qcells_user : ∀ (qs : List QC) (k : Nat) (u : Int), k < qs.length → qcells (qs.modify k fun q => ⟨q.p, q.A, q.n, q.c, u⟩) = (qcells qs).set (k * 3 + 2) (.int .i64 u)
  | [], k, _, h => by simp at h
  | q :: qs, 0, u, _ => rfl
  | q :: qs, k + 1, u, h => by
    have e : ∀ (p : QC) (l : List QC), qcells (p :: l) = .string p.p :: .slice p.A p.n p.c :: .int .i64 p.u :: qcells l := fun _ _ => rfl
    rw [List.modify_succ_cons, e, e, qcells_user qs k u (by simpa using h), show (k + 1) * 3 + 2 = k * 3 + 2 + 1 + 1 + 1 by omega]
    rfl
theorem qcells_path : ∀ (qs : List QC) (k : Nat) (P : ByteArray), k < qs.length → qcells (qs.modify k fun q => ⟨P, q.A, q.n, q.c, q.u⟩) = (qcells qs).set (k * 3) (.string P)
  | [], k, _, h => by simp at h
  | q :: qs, 0, P, _ => rfl
  | q :: qs, k + 1, P, h => by
    have e : ∀ (p : QC) (l : List QC), qcells (p :: l) = .string p.p :: .slice p.A p.n p.c :: .int .i64 p.u :: qcells l := fun _ _ => rfl
    rw [List.modify_succ_cons, e, e, qcells_path qs k P (by simpa using h), show (k + 1) * 3 = k * 3 + 1 + 1 + 1 by omega]
    rfl
/-- A queue of the row is turned in place, its parts left where they are. -/
theorem OwnQs.turn {w w' : World} {B g c : Nat} {ds : List QD} {qs : List QC} (h : OwnQs w B (.slice (some ⟨g, 0, none⟩) ds.length c) ds qs) {k : Nat} (f : QC → QC) (fd : QD → QD)
    (hA : ∀ q, (f q).A = q.A ∧ (f q).n = q.n ∧ (f q).c = q.c) (hc : ∀ d, (fd d).caps = d.caps) (hf : ∀ q d, q.p.data.toList = d.path → q.u = d.user → (f q).p.data.toList = (fd d).path ∧ (f q).u = (fd d).user)
    (hrow : w'.ownsRow B 36 3 (.slice (some ⟨g, 0, none⟩) ds.length c) ds.length (qcells (qs.modify k f))) (hg : w.grownBy w' (some g)) : OwnQs w' B (.slice (some ⟨g, 0, none⟩) ds.length c) (ds.modify k fd) (qs.modify k f) := by
  have hgb : ∃ cur, w.heap[g]? = some (.cells cur 36 (0, 0)) := by
    rcases h.row.2 with ⟨h0, _⟩ | ⟨g', cap, cur, h0, _, hg', _⟩
    · cases h0
    · simp only [Value.slice.injEq, Option.some.injEq, Addr.mk.injEq] at h0
      obtain ⟨⟨rfl, _⟩, _, _⟩ := h0
      exact ⟨cur, hg'⟩
  obtain ⟨cur, hgb⟩ := hgb
  have hcb : ∀ q, cb (f q) = cb q := fun q => by unfold cb; rw [(hA q).1, (hA q).2.1, (hA q).2.2]
  have hone : ∀ (i : Nat) (q : QC) (hi : i < ds.length), qs[i]? = some q → OwnQ1 w' B q ds[i] := fun i q hi hq => (h.each i q hi hq).kept hg (.inr (own_other (h.each i q hi hq).2.2.2 hgb (by decide)))
  have hget : ∀ (i : Nat) (q : QC), (qs.modify k f)[i]? = some q → ∃ q0, qs[i]? = some q0 ∧ q = (if k = i then f q0 else q0) := by
    intro i q hq
    rw [List.getElem?_modify] at hq
    cases h0 : qs[i]? with
    | none => rw [h0] at hq; cases hq
    | some q0 =>
      rw [h0] at hq
      refine ⟨q0, rfl, ?_⟩
      simp at hq
      split at hq
      · rename_i e; rw [if_pos e]; exact hq.symm
      · rename_i e; rw [if_neg e]; exact hq.symm
  refine ⟨by rw [List.length_modify]; exact hrow, by rw [List.length_modify, List.length_modify]; exact h.len, fun i q hi hq => ?_, fun i j qi qj hij hi hj => ?_⟩
  · rw [List.length_modify] at hi
    obtain ⟨q0, h0, rfl⟩ := hget i q hq
    have h1 := hone i q0 hi h0
    simp only [List.getElem_modify]
    by_cases e : k = i
    · rw [if_pos e, if_pos e]
      refine ⟨(hf q0 _ h1.1 h1.2.1).1, (hf q0 _ h1.1 h1.2.1).2, by rw [(hA q0).2.1, hc]; exact h1.2.2.1, ?_⟩
      rw [(hA q0).1, (hA q0).2.1, (hA q0).2.2, hc]
      exact h1.2.2.2
    · rw [if_neg e, if_neg e]
      exact h1
  · obtain ⟨q1, h1, rfl⟩ := hget i qi hi
    obtain ⟨q2, h2, rfl⟩ := hget j qj hj
    have a := h.apart i j q1 q2 hij h1 h2
    intro g' hg'
    have e1 : cb (if k = i then f q1 else q1) = cb q1 := by split <;> simp [hcb]
    have e2 : cb (if k = j then f q2 else q2) = cb q2 := by split <;> simp [hcb]
    rw [e1] at hg'
    rw [e2]
    exact a g' hg'
end Go.Proofs.YtigfoghkndoakaaDoor
