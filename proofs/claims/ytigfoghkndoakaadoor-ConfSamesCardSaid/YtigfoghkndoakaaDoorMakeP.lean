/- dispatchlaw5.put, Make: plain words; rows of queues of the call's own, with one put in. -/
import Derived.Test.YtigfoghkndoakaaDoorOwnC
import Derived.Test.YtigfoghkndoakaaDoorOrd5
namespace Go.Proofs.YtigfoghkndoakaaDoor
open Go.RowKit

/-- How many stand ahead of p. -/
def lead (p : Tx) : List QD → Nat
  | [] => 0
  | x :: l => if lt8 x.path p = true then lead p l + 1 else 0
theorem lead_le (p : Tx) : ∀ l : List QD, lead p l ≤ l.length
  | [] => Nat.le_refl _
  | x :: l => by
    rw [lead]
    split
    · have := lead_le p l; simp; omega
    · simp
theorem lead_on (p : Tx) : ∀ (l : List QD) (k : Nat), k < lead p l → ∃ h : k < l.length, lt8 l[k].path p = true
  | [], k, h => by simp [lead] at h
  | x :: l, k, h => by
    rw [lead] at h
    split at h
    · rename_i hx
      cases k with
      | zero => exact ⟨by simp, hx⟩
      | succ k =>
        obtain ⟨h1, h2⟩ := lead_on p l k (by omega)
        exact ⟨by simpa using h1, h2⟩
    · omega
theorem lead_at (p : Tx) : ∀ (l : List QD) (h : lead p l < l.length), lt8 l[lead p l].path p = false
  | [], h => by simp [lead] at h
  | x :: l, h => by
    by_cases hx : lt8 x.path p = true
    · have e : lead p (x :: l) = lead p l + 1 := by rw [lead, if_pos hx]
      have h' : lead p l < l.length := by rw [e] at h; simpa using h
      have := lead_at p l h'
      simp only [e, List.getElem_cons_succ]
      exact this
    · have e : lead p (x :: l) = 0 := by rw [lead, if_neg hx]
      simp only [e, List.getElem_cons_zero]
      simpa using hx
/-- k rounds have found no end: then the k-th tells. -/
theorem lead_more {p : Tx} {l : List QD} {k : Nat} (h : k ≤ lead p l) (hk : k < l.length) (hlt : lt8 l[k].path p = true) : k + 1 ≤ lead p l := by
  rcases Nat.lt_or_ge k (lead p l) with h1 | h1
  · exact h1
  · obtain rfl : k = lead p l := by omega
    rw [lead_at p l hk] at hlt
    cases hlt
theorem lead_stop {p : Tx} {l : List QD} {k : Nat} (h : k ≤ lead p l) (hk : k < l.length) (hlt : lt8 l[k].path p = false) : lead p l = k := by
  rcases Nat.lt_or_ge k (lead p l) with h1 | h1
  · obtain ⟨_, h2⟩ := lead_on p l k h1
    rw [h2] at hlt
    cases hlt
  · omega
def isAt (p : Tx) (l : List QD) (k : Nat) : Bool := match l[k]? with | none => false | some x => decide (x.path = p)
theorem isAt_eq {p : Tx} {l : List QD} {k : Nat} (h : k < l.length) : isAt p l k = decide (l[k].path = p) := by unfold isAt; rw [List.getElem?_eq_getElem h]
def putD (d : QD) (l : List QD) : List QD := if isAt d.path l (lead d.path l) then l else l.take (lead d.path l) ++ d :: l.drop (lead d.path l)
theorem putD_len (d : QD) (l : List QD) : (putD d l).length ≤ l.length + 1 := by
  have := lead_le d.path l
  unfold putD
  split
  · omega
  · simp; omega

theorem ins_get {α : Type} (l : List α) (x : α) (k j : Nat) (hk : k ≤ l.length) : (l.take k ++ x :: l.drop k)[j]? = if j < k then l[j]? else if j = k then some x else l[j - 1]? := by
  by_cases h1 : j < k
  · rw [if_pos h1, List.getElem?_append_left (by simp; omega), List.getElem?_take_of_lt h1]
  · rw [if_neg h1, List.getElem?_append_right (by simp; omega)]
    have hl : (l.take k).length = k := by simp; omega
    rw [hl]
    by_cases h2 : j = k
    · subst h2; simp
    · rw [if_neg h2, show j - k = (j - k - 1) + 1 by omega, List.getElem?_cons_succ, List.getElem?_drop]
      congr 1
      omega
theorem qcells_ins (a b : List QC) (q : QC) : qcells (a ++ q :: b) = qcells a ++ qenc q ++ qcells b := by simp [qcells]
theorem qcells_take (qs : List QC) (k : Nat) : qcells (qs.take k) = (qcells qs).take (k * 3) := by
  induction qs generalizing k with
  | nil => simp [qcells]
  | cons q qs ih =>
    cases k with
    | zero => simp [qcells]
    | succ k =>
      have e : qcells (q :: qs) = qenc q ++ qcells qs := rfl
      rw [List.take_succ_cons, e, show (k + 1) * 3 = (qenc q).length + k * 3 by simp [qenc]; omega, List.take_length_add_append, ← ih]
      rfl
theorem qcells_drop (qs : List QC) (k : Nat) : qcells (qs.drop k) = (qcells qs).drop (k * 3) := by
  induction qs generalizing k with
  | nil => simp [qcells]
  | cons q qs ih =>
    cases k with
    | zero => simp
    | succ k =>
      have e : qcells (q :: qs) = qenc q ++ qcells qs := rfl
      rw [List.drop_succ_cons, e, show (k + 1) * 3 = (qenc q).length + k * 3 by simp [qenc]; omega, List.drop_length_add_append, ← ih]
theorem qcells_one (qs : List QC) : ∀ u ∈ qcells qs, u.oneCell' = true := by
  intro u hu
  unfold qcells at hu
  rw [List.mem_flatMap] at hu
  obtain ⟨q, _, hu⟩ := hu
  simp only [qenc, List.mem_cons, List.mem_nil_iff, or_false] at hu
  rcases hu with rfl | rfl | rfl <;> rfl

/-- One queue put in. -/
theorem OwnQs.ins {w w' : World} {B : Nat} {v v' : Value} {ds : List QD} {qs : List QC} {q : QC} {d : QD} {k : Nat} (h : OwnQs w B v ds qs) (hq : OwnQ1 w B q d)
    (hf : ∀ g, cb q = some g → ∀ (i : Nat) (qi : QC), qs[i]? = some qi → cb qi ≠ some g) (x : Ext w w') (hk : k ≤ ds.length)
    (ho : w'.ownsRow B 36 3 v' (ds.length + 1) (qcells (qs.take k ++ q :: qs.drop k))) : OwnQs w' B v' (ds.take k ++ d :: ds.drop k) (qs.take k ++ q :: qs.drop k) := by
  have hl := h.len
  have hkq : k ≤ qs.length := by omega
  refine ⟨?_, by simp; omega, fun j q' hj hq' => ?_, fun i j qi qj hij hi hj g hg => ?_⟩
  · rw [show (ds.take k ++ d :: ds.drop k).length = ds.length + 1 by simp; omega]
    exact ho
  · rw [ins_get _ _ _ _ hkq] at hq'
    have hd : (ds.take k ++ d :: ds.drop k)[j]? = some ((ds.take k ++ d :: ds.drop k)[j]) := List.getElem?_eq_getElem hj
    rw [ins_get _ _ _ _ hk] at hd
    split at hq'
    · rename_i h1
      rw [if_pos h1, List.getElem?_eq_getElem (by omega)] at hd
      injection hd with hd
      rw [← hd]
      exact (h.each j q' (by omega) hq').ext x
    · rename_i h1
      rw [if_neg h1] at hd
      split at hq'
      · rename_i h2
        rw [if_pos h2] at hd
        injection hd with hd
        injection hq' with hq'
        rw [← hd, ← hq']
        exact hq.ext x
      · rename_i h2
        have hlt := (List.getElem?_eq_some_iff.1 hq').1
        rw [if_neg h2, List.getElem?_eq_getElem (by omega)] at hd
        injection hd with hd
        rw [← hd]
        exact (h.each (j - 1) q' (by omega) hq').ext x
  · rw [ins_get _ _ _ _ hkq] at hi hj
    by_cases i1 : i < k
    · rw [if_pos i1] at hi
      by_cases j1 : j < k
      · rw [if_pos j1] at hj
        exact h.apart i j qi qj hij hi hj g hg
      · rw [if_neg j1] at hj
        by_cases j2 : j = k
        · rw [if_pos j2] at hj
          injection hj with hj
          subst hj
          intro e
          exact hf g e i qi hi hg
        · rw [if_neg j2] at hj
          exact h.apart i (j - 1) qi qj (by omega) hi hj g hg
    · rw [if_neg i1] at hi
      by_cases i2 : i = k
      · rw [if_pos i2] at hi
        injection hi with hi
        subst hi
        by_cases j1 : j < k
        · rw [if_pos j1] at hj
          exact hf g hg j qj hj
        · rw [if_neg j1, if_neg (by omega)] at hj
          exact hf g hg (j - 1) qj hj
      · rw [if_neg i2] at hi
        by_cases j1 : j < k
        · rw [if_pos j1] at hj
          exact h.apart (i - 1) j qi qj (by omega) hi hj g hg
        · rw [if_neg j1] at hj
          by_cases j2 : j = k
          · rw [if_pos j2] at hj
            injection hj with hj
            subst hj
            intro e
            exact hf g e (i - 1) qi hi hg
          · rw [if_neg j2] at hj
            exact h.apart (i - 1) (j - 1) qi qj (by omega) hi hj g hg
end Go.Proofs.YtigfoghkndoakaaDoor
