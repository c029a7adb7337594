/- Queues in memory; the reader's state. -/
import Derived.Test.YtigfoghkndoakaaDoorShares
import Derived.Test.YtigfoghkndoakaaDoorRdK
import Derived.RangeFuncNested
import Derived.Laws.CopyOwn
namespace Go.Proofs.YtigfoghkndoakaaDoor
open Go.RowKit

/-- What the next line is read by. -/
def takeFn (s : CD) : Nat := if s.labels = [] then 32 else 52
/-- The reader at block R; all that it has laid itself lies from block B on. -/
structure RdrAt (R B : Nat) (w : World) (s : CD) : Prop where
  ex : ∃ vl vq, w.heap[R]? = some (.cells #[vl, vq, .func (.func (takeFn s)) #[.pointer (some ⟨R, 0, none⟩)] #[]] 64 (0, 0)) ∧
    w.ownsRow B 9 1 vl s.labels.length (s.labels.map sv) ∧ QsAt w B vq s.queues
  lt : R < B
  le : B ≤ w.heap.size
theorem RdrAt.ext {R B : Nat} {w w' : World} {s : CD} (h : RdrAt R B w s) (x : Ext w w') : RdrAt R B w' s := by
  obtain ⟨⟨vl, vq, h1, h2, h3⟩, h4, h5⟩ := h
  exact ⟨⟨vl, vq, (x.block R (Array.getElem?_eq_some_iff.1 h1).1).trans h1, own_ExtK h2 x, h3.ext x⟩, h4, Nat.le_trans h5 x.size⟩
theorem RdrAt.turned {R B : Nat} {w w' : World} {s : CD} {row : Option Nat} (h : RdrAt R B w s) (x : w.grownBy w' row) (hr : ∀ r, row = some r → ∃ o : Obj, w.heap[r]? = some o ∧ o.isCells = false) : RdrAt R B w' s := by
  obtain ⟨⟨vl, vq, h1, h2, h3⟩, h4, h5⟩ := h
  refine ⟨⟨vl, vq, ?_, own_turned h2 x hr, h3.turned x hr⟩, h4, Nat.le_trans h5 x.size⟩
  rw [x.block R (Array.getElem?_eq_some_iff.1 h1).1 (fun e => by
      obtain ⟨o, ho, hc⟩ := hr R e.symm
      rw [h1] at ho
      injection ho with ho
      subst ho
      cases hc)]
  exact h1
/-- A turn of a block that lies below B and is not the reader. -/
theorem RdrAt.low {R B b : Nat} {w w' : World} {s : CD} (h : RdrAt R B w s) (x : w.grownBy w' (some b)) (hb : b < B) (hne : b ≠ R) : RdrAt R B w' s := by
  obtain ⟨⟨vl, vq, h1, h2, h3⟩, h4, h5⟩ := h
  refine ⟨⟨vl, vq, ?_, h2.kept x (.inr fun e => by have := (h2.lt b e).1; omega), h3.low x hb⟩, h4, Nat.le_trans h5 x.size⟩
  rw [x.block R (Array.getElem?_eq_some_iff.1 h1).1 (fun e => hne (by injection e with e; exact e.symm))]
  exact h1

/-- What a method of the reader leaves: what lies below R; what lies below B, but for the reader; whatever is no cells. -/
structure Fr (R B : Nat) (w w' : World) : Prop where
  low : Below R w w'
  size : w.heap.size ≤ w'.heap.size
  keep : ∀ (k : Nat) (o : Obj), w.heap[k]? = some o → k ≠ R → (k < B ∨ o.isCells = false) → w'.heap[k]? = some o
theorem Fr.ext {R B : Nat} {w w' : World} (h : Ext w w') (hR : R ≤ w.heap.size) : Fr R B w w' := ⟨Below.mono h hR, h.size, fun k o hk _ _ => (h.block k (Array.getElem?_eq_some_iff.1 hk).1).trans hk⟩
theorem Fr.trans {R B : Nat} {a b c : World} (h : Fr R B a b) (k : Fr R B b c) : Fr R B a c := ⟨h.low.trans k.low, Nat.le_trans h.size k.size, fun i o hi hr ho => k.keep i o (h.keep i o hi hr ho) hr ho⟩
theorem Fr.of_grown {R B : Nat} {w w' : World} (h : w.grownBy w' (some R)) (hR : R ≤ w.heap.size) : Fr R B w w' :=
  ⟨grown_below h hR (fun k e => by injection e with e; omega), h.size, fun k o hk hr _ => (h.block k (Array.getElem?_eq_some_iff.1 hk).1 (fun e => hr (by injection e))).trans hk⟩
theorem Fr.set {R B o : Nat} {w w' : World} (h : Fr R B w w') (v : Value) (hR : R ≤ w'.heap.size) : Fr R B w (w'.setCell ⟨R, o, none⟩ v) :=
  h.trans (Fr.of_grown ⟨rfl, rfl, rfl, by simp, fun k _ hne => heap_setCell_other w' ⟨R, o, none⟩ k v (fun e => hne (by rw [e]))⟩ hR)
theorem Fr.grown {R B : Nat} {w w' w'' : World} {row : Option Nat} (h : Fr R B w w') (k : w'.grownBy w'' row) (hR : R ≤ w'.heap.size) (hr : ∀ g, row = some g → R ≤ g ∧ B ≤ g ∧ ∃ o : Obj, w'.heap[g]? = some o ∧ o.isCells = true) : Fr R B w w'' :=
  h.trans ⟨grown_below k hR (fun g e => (hr g e).1), k.size, fun i o hi _ ho => by
    rw [k.block i (Array.getElem?_eq_some_iff.1 hi).1 (fun e => by
      obtain ⟨_, hB, o', ho', hc⟩ := hr i e.symm
      rw [hi] at ho'
      injection ho' with ho'
      subst ho'
      rcases ho with ho | ho
      · omega
      · rw [ho] at hc; cases hc)]
    exact hi⟩
theorem Fr.new {R B o b : Nat} {w w' : World} (h : Fr R B w w') (v : Value) (hR : R ≤ w.heap.size) (hb : w.heap.size ≤ b) : Fr R B w (w'.setCell ⟨b, o, none⟩ v) :=
  ⟨Below.setCell h.low (p := ⟨b, o, none⟩) (by simp; omega) v, Nat.le_trans h.size (by simp), fun k ob hk hr ho => by
    have hlt := (Array.getElem?_eq_some_iff.1 hk).1
    rw [heap_setCell_other w' ⟨b, o, none⟩ k v (fun e => by have e : k = b := e; omega)]
    exact h.keep k ob hk hr ho⟩
theorem Fr.then {R B : Nat} {a b c : World} (h : Fr R B a b) (k : Ext b c) (hR : R ≤ b.heap.size) : Fr R B a c := h.trans (Fr.ext k hR)
theorem Fr.others {R B : Nat} {w w' : World} (h : Fr R B w w') {s : CD} (hR : RdrAt R B w s) : KeepsOthers w w' := ⟨h.size, fun k o hk ho => h.keep k o hk (fun e => by
  obtain ⟨_, _, h1, _⟩ := hR.ex
  subst e
  rw [h1] at hk
  injection hk with hk
  subst hk
  cases ho) (.inr ho)⟩

/-- What a method of the reader answers. -/
def StepPost (R B : Nat) (s : CD) (ws : List Tx) (w : World) (e : Ending) (w' : World) : Prop := e = .returned (.int .i64 (step s ws).1) ∧ RdrAt R B w' (step s ws).2 ∧ Fr R B w w'
end Go.Proofs.YtigfoghkndoakaaDoor
