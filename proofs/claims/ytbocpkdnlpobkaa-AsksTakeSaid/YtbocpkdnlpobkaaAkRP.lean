/- What dispatchref9's loops make of a list: plain. -/
import Derived.Test.YtbocpkdnlpobkaaAkP
namespace Go.Proofs.Ytbocpkdnlpobkaa
open Go.RowKit

theorem snoc_ind {α : Type} {P : List α → Prop} (h0 : P []) (h1 : ∀ l d, P l → P (l ++ [d])) (l : List α) : P l := by
  have h : ∀ r : List α, P r.reverse := by
    intro r
    induction r with
    | nil => exact h0
    | cons x r ih => rw [List.reverse_cons]; exact h1 _ _ ih
  have := h l.reverse
  rwa [List.reverse_reverse] at this
/-- Set's loop: what stands there, and whether a is laid. -/
def stepS (a : AD) (o : List AD × Bool) (d : AD) : List AD × Bool :=
  let q := if o.2 = false ∧ a.prio < d.prio then (o.1 ++ [{ a with missed := 0 }], true) else o
  (if d.prio ≠ a.prio then q.1 ++ [d] else q.1, q.2)
def outS (a : AD) (l : List AD) : List AD × Bool := l.foldl (stepS a) ([], a.count == 0)
def endS (a : AD) (l : List AD) : List AD := if (outS a l).2 then (outS a l).1 else (outS a l).1 ++ [{ a with missed := 0 }]
theorem outS_snoc (a : AD) (l : List AD) (d : AD) : outS a (l ++ [d]) = stepS a (outS a l) d := by simp [outS]
theorem outS_len (a : AD) (l : List AD) : (outS a l).1.length ≤ l.length + 1 ∧ ((outS a l).2 = false → (outS a l).1.length ≤ l.length) := by
  induction l using snoc_ind with
  | h0 => simp [outS]
  | h1 l d ih =>
    rw [outS_snoc]
    unfold stepS
    cases h : (outS a l).2
    · have h2 := ih.2 h
      by_cases h3 : a.prio < d.prio
      · simp only [h, h3, and_self, if_true, List.length_append, List.length_singleton]
        split <;> simp <;> omega
      · simp only [h3, and_false, if_false, h, List.length_append, List.length_singleton]
        split <;> simp <;> omega
    · have h1 := ih.1
      simp only [h, Bool.true_eq_false, false_and, if_false, List.length_append, List.length_singleton]
      split <;> simp <;> omega
/-- Behind all: as the document says. -/
theorem outS_is (a : AD) : ∀ (l : List AD), SrtA l → (∀ x ∈ l, a.prio < x.prio → False) → outS a l = (lowA a.prio l, a.count == 0) := by
  intro l
  induction l using snoc_ind with
  | h0 => intro _ _; rfl
  | h1 l d ih =>
    intro hs hn
    rw [outS_snoc, ih (List.pairwise_append.1 hs).1 (fun x hx => hn x (by simp [hx]))]
    have hd : ¬ a.prio < d.prio := hn d (by simp)
    unfold stepS
    rw [if_neg (fun h => hd h.2), lowA_app]
    show ((if d.prio ≠ a.prio then lowA a.prio l ++ [d] else lowA a.prio l), (a.count == 0)) = _
    by_cases h : d.prio = a.prio
    · rw [if_neg (by simpa using h), show lowA a.prio [d] = [] from lowA_none (by simp; omega), List.append_nil]
    · rw [if_pos h, show lowA a.prio [d] = [d] from lowA_all (by simp; omega)]
theorem outS_high (a : AD) : ∀ (m l : List AD), (∀ x ∈ l, a.prio < x.prio) → ∀ q : List AD, l.foldl (stepS a) (q, true) = (q ++ l, true)
  | _, [], _, q => by simp
  | m, d :: l, h, q => by
    have hd := h d (by simp)
    rw [List.foldl_cons]
    have : stepS a (q, true) d = (q ++ [d], true) := by unfold stepS; simp; intro e; omega
    rw [this, outS_high a m l (fun x hx => h x (by simp [hx]))]
    simp
theorem endS_is (a : AD) (l : List AD) (hs : SrtA l) : endS a l = setA l a := by
  have hsp : l = l.filter (fun x => decide (x.prio ≤ a.prio)) ++ highA a.prio l := by
    have : ∀ l : List AD, SrtA l → l = l.filter (fun x => decide (x.prio ≤ a.prio)) ++ highA a.prio l := by
      intro l
      induction l with
      | nil => intro _; rfl
      | cons x l ih =>
        intro hs
        have hs := List.pairwise_cons.1 hs
        by_cases h : x.prio ≤ a.prio
        · rw [List.filter_cons_of_pos (by simpa using h), show highA a.prio (x :: l) = highA a.prio l by unfold highA; rw [List.filter_cons_of_neg (by simp; omega)], List.cons_append, ← ih hs.2]
        · rw [List.filter_eq_nil_iff.2 (fun y hy => (List.mem_cons.1 hy).elim (fun e => by subst e; simpa using h) (fun hy => by have := hs.1 y hy; simp; omega)), highA_all (ds := x :: l) (fun y hy => (List.mem_cons.1 hy).elim (fun e => by subst e; omega) (fun hy => by have := hs.1 y hy; omega))]
          rfl
    exact this l hs
  obtain ⟨lo, hlo⟩ : ∃ lo, lo = l.filter (fun x => decide (x.prio ≤ a.prio)) := ⟨_, rfl⟩
  rw [← hlo] at hsp
  have hle : ∀ x ∈ lo, x.prio ≤ a.prio := fun x hx => by rw [hlo] at hx; simpa using (List.mem_filter.1 hx).2
  have hlow : lowA a.prio l = lowA a.prio lo := by
    conv => lhs; rw [hsp]
    rw [lowA_app, show lowA a.prio (highA a.prio l) = [] from lowA_none (fun x hx => by have := (List.mem_filter.1 hx).2; simp at this; omega), List.append_nil]
  have hslo : SrtA lo := by rw [hlo]; exact List.Pairwise.filter _ hs
  have ho : outS a l = (highA a.prio l).foldl (stepS a) (lowA a.prio lo, a.count == 0) := by
    have e : outS a l = (highA a.prio l).foldl (stepS a) (outS a lo) := by
      conv => lhs; rw [hsp]
      unfold outS
      rw [List.foldl_append]
    rw [e, outS_is a lo hslo (fun x hx h => by have := hle x hx; omega)]
  have hh : ∀ x ∈ highA a.prio l, a.prio < x.prio := fun x hx => by simpa using (List.mem_filter.1 hx).2
  unfold endS setA putA midA setOne
  rw [ho, hlow]
  simp only
  by_cases hc : a.count = 0
  · have e : (a.count == 0) = true := by simpa using hc
    rw [e, outS_high a [] _ hh, if_pos rfl, if_pos hc, List.append_nil]
  · have e : (a.count == 0) = false := by simpa using hc
    rw [e, if_neg hc]
    cases hx : highA a.prio l with
    | nil => simp
    | cons x r =>
      rw [hx] at hh
      have h1 := hh x (by simp)
      rw [List.foldl_cons, show stepS a (lowA a.prio lo, false) x = (lowA a.prio lo ++ [{ a with missed := 0 }] ++ [x], true) by unfold stepS; simp [h1]; intro e; omega, outS_high a [] r (fun y hy => hh y (by simp [hy]))]
      simp

/-- Take's loop. -/
def stepT (p : Int) (o : List AD × Bool) (d : AD) : List AD × Bool :=
  if d.prio = p then (if d.count - 1 ≤ 0 then o.1 else o.1 ++ [{ d with count := d.count - 1, missed := 0 }], true) else (o.1 ++ [d], o.2)
def outT (p : Int) (l : List AD) : List AD × Bool := l.foldl (stepT p) ([], false)
theorem outT_snoc (p : Int) (l : List AD) (d : AD) : outT p (l ++ [d]) = stepT p (outT p l) d := by simp [outT]
theorem outT_len (p : Int) (l : List AD) : (outT p l).1.length ≤ l.length := by
  induction l using snoc_ind with
  | h0 => simp [outT]
  | h1 l d ih =>
    rw [outT_snoc]
    unfold stepT
    split
    · split <;> simp <;> omega
    · simp; omega
theorem outT_none (p : Int) : ∀ (l : List AD), (∀ x ∈ l, x.prio ≠ p) → ∀ q b, l.foldl (stepT p) (q, b) = (q ++ l, b)
  | [], _, q, b => by simp
  | d :: l, h, q, b => by
    rw [List.foldl_cons, show stepT p (q, b) d = (q ++ [d], b) by unfold stepT; rw [if_neg (h d (by simp))], outT_none p l (fun x hx => h x (by simp [hx]))]
    simp
theorem outT_is (p : Int) (l : List AD) (hs : SrtA l) (hk : OkA l) : outT p l = (takeA l p, hasA p l) := by
  cases hh : hasA p l with
  | false =>
    unfold takeA outT
    rw [hh, outT_none p l (hasA_no hh)]
    rfl
  | true =>
    obtain ⟨k, hkd, rfl⟩ := hasA_idx hh
    obtain ⟨h1, h2⟩ := hs.parts k hkd
    have hg := getA_at hs k hkd
    have hc := hk _ (List.getElem_mem hkd)
    unfold takeA
    rw [hh, if_pos rfl, hg]
    unfold putA midA
    rw [show ({ l[k] with count := l[k].count - 1, missed := 0 } : AD).prio = l[k].prio from rfl, lowA_at hs k hkd, highA_at hs k hkd]
    obtain ⟨p, hp⟩ : ∃ p, p = l[k].prio := ⟨_, rfl⟩
    rw [← hp] at h1 h2 ⊢
    have e : outT p l = outT p (l.take k ++ l[k] :: l.drop (k + 1)) := by rw [← split_at k hkd]
    rw [e]
    unfold outT
    rw [List.foldl_append, outT_none p (l.take k) (fun x hx => by have := h1 x hx; omega), List.foldl_cons]
    have e2 : stepT p ([] ++ l.take k, false) l[k] = (l.take k ++ setOne { l[k] with count := l[k].count - 1, missed := 0 }, true) := by
      unfold stepT setOne
      rw [if_pos hp.symm]
      by_cases h : l[k].count - 1 = 0
      · rw [if_pos (by omega), if_pos h]; simp
      · rw [if_neg (by omega), if_neg h]; simp
    rw [e2, outT_none p (l.drop (k + 1)) (fun x hx => by have := h2 x hx; omega)]
end Go.Proofs.Ytbocpkdnlpobkaa
