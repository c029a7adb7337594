/- Queues in memory; the reader's state. -/
import Derived.Test.YtonbplofbcnijaaDoorShares
import Derived.RangeFuncNested
import Derived.Laws.CopyOwn
namespace Go.Proofs.YtonbplofbcnijaaDoor
open Go.RowKit

/-- v reads as n elements of k cells each: xs. -/
def RdK (k : Nat) (w : World) (v : Value) (n : Nat) (xs : List Value) : Prop :=
  ∃ A c, v = .slice A n c ∧ n ≤ c ∧ c ≤ maxLen ∧ xs.length = n * k ∧ (0 < xs.length → ∃ a, A = some a ∧ a.block < w.heap.size ∧ ∀ j u, xs[j]? = some u → w.cell? (a.add j) = some u)
theorem RdK.ext {k : Nat} {w w' : World} {v : Value} {n : Nat} {xs : List Value} (h : RdK k w v n xs) (x : Ext w w') : RdK k w' v n xs := by
  obtain ⟨A, c, rfl, h1, h2, h3, h4⟩ := h
  refine ⟨A, c, rfl, h1, h2, h3, fun hn => ?_⟩
  obtain ⟨a, rfl, hb, hc⟩ := h4 hn
  exact ⟨a, rfl, Nat.lt_of_lt_of_le hb x.size, fun j u hu => (Below.cell x (p := a.add j) (by rw [add_block]; exact hb)).trans (hc j u hu)⟩
theorem RdK.of_own {k : Nat} {w : World} {base : Nat} {e : TypeId} {v : Value} {n : Nat} {xs : List Value} (h : w.ownsRow base e k v n xs) : RdK k w v n xs := by
  have hl := h.1
  rcases h.2 with ⟨rfl, h0⟩ | ⟨g, cap, cur, rfl, _, hg, hc, hm, _⟩
  · subst h0; exact ⟨none, 0, rfl, Nat.le_refl _, by simp [maxLen], hl, fun hn => by omega⟩
  · exact ⟨_, cap, rfl, hc, hm, hl, fun hn => ⟨⟨g, 0, none⟩, rfl, (Array.getElem?_eq_some_iff.1 hg).1, h.cells (g := g) rfl⟩⟩
theorem RdK.grown {k : Nat} {w w' : World} {row : Option Nat} {v : Value} {n : Nat} {xs : List Value} (h : RdK k w v n xs) (x : w.grownBy w' row) (hr : ∀ g, row = some g → v.ownBlock ≠ some g) : RdK k w' v n xs := by
  obtain ⟨A, c, rfl, h1, h2, h3, h4⟩ := h
  refine ⟨A, c, rfl, h1, h2, h3, fun hn => ?_⟩
  obtain ⟨a, rfl, hb, hc⟩ := h4 hn
  refine ⟨a, rfl, Nat.lt_of_lt_of_le hb x.size, fun j u hu => ?_⟩
  rw [World.cell?_of_block (x.block (a.add j).block (by rw [add_block]; exact hb) (fun e => hr _ e.symm (by rw [add_block]; rfl)))]
  exact hc j u hu
/-- Whatever is no cells may turn. -/
theorem RdK.turned {k : Nat} {w w' : World} {row : Option Nat} {v : Value} {n : Nat} {xs : List Value} (h : RdK k w v n xs) (x : w.grownBy w' row) (hr : ∀ r, row = some r → ∃ o : Obj, w.heap[r]? = some o ∧ o.isCells = false) : RdK k w' v n xs := by
  obtain ⟨A, c, rfl, h1, h2, h3, h4⟩ := h
  refine ⟨A, c, rfl, h1, h2, h3, fun hn => ?_⟩
  obtain ⟨a, rfl, hb, hc⟩ := h4 hn
  exact ⟨a, rfl, Nat.lt_of_lt_of_le hb x.size, fun j u hu => cell_kept (hc j u hu) x hr⟩

/-- All cells that lie from block B on are as they were. -/
def Above (B : Nat) (w w' : World) : Prop := w.heap.size ≤ w'.heap.size ∧ ∀ g (o : Obj), B ≤ g → w.heap[g]? = some o → o.isCells = true → w'.heap[g]? = some o
theorem cell_block {w : World} {p : Addr} {u : Value} (h : w.cell? p = some u) : ∃ o : Obj, w.heap[p.block]? = some o ∧ o.isCells = true := by
  unfold World.cell? at h
  split at h
  · rename_i c e f hb
    exact ⟨_, hb, rfl⟩
  · simp at h
theorem Above.cell {B : Nat} {w w' : World} (x : Above B w w') {p : Addr} {u : Value} (h : w.cell? p = some u) (hB : B ≤ p.block) : w'.cell? p = some u := by
  obtain ⟨o, ho, hc⟩ := cell_block h
  rw [World.cell?_of_block ((x.2 p.block o hB ho hc).trans ho.symm)]
  exact h
theorem RdK.above {k B : Nat} {w w' : World} {v : Value} {n : Nat} {xs : List Value} (h : RdK k w v n xs) (x : Above B w w') (hr : ∀ g, v.ownBlock = some g → B ≤ g) : RdK k w' v n xs := by
  obtain ⟨A, c, rfl, h1, h2, h3, h4⟩ := h
  refine ⟨A, c, rfl, h1, h2, h3, fun hn => ?_⟩
  obtain ⟨a, rfl, hb, hc⟩ := h4 hn
  exact ⟨a, rfl, Nat.lt_of_lt_of_le hb x.1, fun j u hu => x.cell (hc j u hu) (by rw [add_block]; exact hr _ rfl)⟩
theorem Rd.above {B : Nat} {w w' : World} {v : Value} {xs : List Value} (h : Rd w v xs) (x : Above B w w') (hr : ∀ g, v.ownBlock = some g → B ≤ g) : Rd w' v xs := by
  obtain ⟨A, c, rfl, h1, h2, h3⟩ := h
  refine ⟨A, c, rfl, h1, h2, fun hn => ?_⟩
  obtain ⟨a, rfl, hb, hc⟩ := h3 hn
  exact ⟨a, rfl, Nat.lt_of_lt_of_le hb x.1, fun j u hu => x.cell (hc j u hu) (by rw [add_block]; exact hr _ rfl)⟩

/-- A queue's three cells. -/
structure QC where
  p : ByteArray
  A : Option Addr
  n : Nat
  c : Nat
  u : Int
instance QC.inh : Inhabited QC := ⟨⟨⟨#[]⟩, none, 0, 0, 0⟩⟩
def qenc (q : QC) : List Value := [.string q.p, .slice q.A q.n q.c, .int .i64 q.u]
def IsQ (w : World) (q : QC) (d : QD) : Prop := q.p.data.toList = d.path ∧ q.u = d.user ∧ RdK 2 w (.slice q.A q.n q.c) d.caps.length (capCells d.caps)
theorem IsQ.ext {w w' : World} {q : QC} {d : QD} (h : IsQ w q d) (x : Ext w w') : IsQ w' q d := ⟨h.1, h.2.1, h.2.2.ext x⟩
def qcells (qs : List QC) : List Value := qs.flatMap qenc
theorem qcells_length (qs : List QC) : (qcells qs).length = qs.length * 3 := by
  induction qs with
  | nil => rfl
  | cons p qs ih => simp only [qcells, List.flatMap_cons, List.length_append, qenc, List.length_cons, List.length_nil] at ih ⊢; omega
theorem qcells_snoc (qs : List QC) (q : QC) : qcells (qs ++ [q]) = qcells qs ++ qenc q := by simp [qcells]

def RdQs (w : World) (v : Value) (ds : List QD) : Prop := ∃ qs : List QC, RdK 3 w v ds.length (qcells qs) ∧ qs.length = ds.length ∧ ∀ k (h : k < ds.length), ∃ q, qs[k]? = some q ∧ IsQ w q ds[k]
theorem RdQs.ext {w w' : World} {v : Value} {ds : List QD} (h : RdQs w v ds) (x : Ext w w') : RdQs w' v ds := by
  obtain ⟨qs, h1, h2, h3⟩ := h
  exact ⟨qs, h1.ext x, h2, fun k hk => by obtain ⟨q, h4, h5⟩ := h3 k hk; exact ⟨q, h4, h5.ext x⟩⟩

/-- A configuration. -/
def RdConf (w : World) (v : Value) (d : CD) : Prop := ∃ vl vq, v = .agg #[vl, vq] ∧ Rd w vl (d.labels.map sv) ∧ RdQs w vq d.queues
theorem RdConf.ext {w w' : World} {v : Value} {d : CD} (h : RdConf w v d) (x : Ext w w') : RdConf w' v d := by
  obtain ⟨vl, vq, rfl, h1, h2⟩ := h
  exact ⟨vl, vq, rfl, h1.ext x, h2.ext x⟩

/-- Rows of queues of the call's own: from block B on; no queue's parts lie in the row, nor below B. -/
def QsAt (w : World) (B : Nat) (v : Value) (ds : List QD) : Prop := ∃ qs : List QC, w.ownsRow B 45 3 v ds.length (qcells qs) ∧ qs.length = ds.length ∧
  ∀ k (h : k < ds.length), ∃ q, qs[k]? = some q ∧ IsQ w q ds[k] ∧ ∀ g, (Value.slice q.A q.n q.c).ownBlock = some g → v.ownBlock ≠ some g ∧ B ≤ g ∧ g < w.heap.size
theorem QsAt.rd {w : World} {B : Nat} {v : Value} {ds : List QD} (h : QsAt w B v ds) : RdQs w v ds := by
  obtain ⟨qs, h1, h2, h3⟩ := h
  exact ⟨qs, RdK.of_own h1, h2, fun k hk => by obtain ⟨q, h4, h5, _⟩ := h3 k hk; exact ⟨q, h4, h5⟩⟩
theorem QsAt.nil (w : World) (B : Nat) : QsAt w B (.slice none 0 0) [] := ⟨[], World.ownsRow_nil w _ _ 3, rfl, fun k h => absurd h (by simp)⟩
theorem QsAt.ext {w w' : World} {B : Nat} {v : Value} {ds : List QD} (h : QsAt w B v ds) (x : Ext w w') : QsAt w' B v ds := by
  obtain ⟨qs, h1, h2, h3⟩ := h
  exact ⟨qs, own_ExtK h1 x, h2, fun k hk => by obtain ⟨q, h4, h5, h6⟩ := h3 k hk; exact ⟨q, h4, h5.ext x, fun g hg => ⟨(h6 g hg).1, (h6 g hg).2.1, Nat.lt_of_lt_of_le (h6 g hg).2.2 x.size⟩⟩⟩
/-- A turn of a block below B, or of one that is no cells. -/
theorem QsAt.low {w w' : World} {B R : Nat} {v : Value} {ds : List QD} (h : QsAt w B v ds) (x : w.grownBy w' (some R)) (hR : R < B) : QsAt w' B v ds := by
  obtain ⟨qs, h1, h2, h3⟩ := h
  refine ⟨qs, h1.kept x (.inr fun e => by have := (h1.lt R e).1; omega), h2, fun k hk => ?_⟩
  obtain ⟨q, h4, h5, h6⟩ := h3 k hk
  exact ⟨q, h4, ⟨h5.1, h5.2.1, h5.2.2.grown x (fun g e e' => by injection e with e; subst e; have := (h6 _ e').2.1; omega)⟩, fun g hg => ⟨(h6 g hg).1, (h6 g hg).2.1, Nat.lt_of_lt_of_le (h6 g hg).2.2 x.size⟩⟩
theorem own_turned {w w' : World} {B e k n : Nat} {row : Option Nat} {v : Value} {xs : List Value} (h : w.ownsRow B e k v n xs) (x : w.grownBy w' row) (hr : ∀ r, row = some r → ∃ o : Obj, w.heap[r]? = some o ∧ o.isCells = false) : w'.ownsRow B e k v n xs := by
  refine ⟨h.1, ?_⟩
  rcases h.2 with hn | ⟨g, cap, cur, rfl, hb, hg, hrest⟩
  · exact .inl hn
  · refine .inr ⟨g, cap, cur, rfl, hb, ?_, hrest⟩
    rw [x.block g (Array.getElem?_eq_some_iff.1 hg).1 (fun e => by
      obtain ⟨o, ho, hc⟩ := hr g e.symm
      rw [hg] at ho
      injection ho with ho
      subst ho
      cases hc)]
    exact hg
theorem QsAt.turned {w w' : World} {B : Nat} {row : Option Nat} {v : Value} {ds : List QD} (h : QsAt w B v ds) (x : w.grownBy w' row) (hr : ∀ r, row = some r → ∃ o : Obj, w.heap[r]? = some o ∧ o.isCells = false) : QsAt w' B v ds := by
  obtain ⟨qs, h1, h2, h3⟩ := h
  refine ⟨qs, own_turned h1 x hr, h2, fun k hk => ?_⟩
  obtain ⟨q, h4, h5, h6⟩ := h3 k hk
  exact ⟨q, h4, ⟨h5.1, h5.2.1, h5.2.2.turned x hr⟩, fun g hg => ⟨(h6 g hg).1, (h6 g hg).2.1, Nat.lt_of_lt_of_le (h6 g hg).2.2 x.size⟩⟩

/-- What the next line is read by. -/
def takeFn (s : CD) : Nat := if s.labels = [] then 24 else 40
/-- The reader at block R; all that it has laid itself lies from block B on. -/
structure RdrAt (R B : Nat) (w : World) (s : CD) : Prop where
  ex : ∃ vl vq, w.heap[R]? = some (.cells #[vl, vq, .func (.func (takeFn s)) #[.pointer (some ⟨R, 0, none⟩)] #[]] 64 (0, 0)) ∧
    w.ownsRow B 9 1 vl s.labels.length (s.labels.map sv) ∧ QsAt w B vq s.queues
  lt : R < B
  le : B ≤ w.heap.size
theorem RdrAt.ext {R B : Nat} {w w' : World} {s : CD} (h : RdrAt R B w s) (x : Ext w w') : RdrAt R B w' s := by
  obtain ⟨⟨vl, vq, h1, h2, h3⟩, h4, h5⟩ := h
  exact ⟨⟨vl, vq, (x.block R (Array.getElem?_eq_some_iff.1 h1).1).trans h1, own_ExtK h2 x, h3.ext x⟩, h4, Nat.le_trans h5 x.size⟩
theorem RdrAt.turned {R B : Nat} {w w' : World} {s : CD} {row : Option Nat} (h : RdrAt R B w s) (x : w.grownBy w' row) (hr : ∀ r, row = some r → ∃ o : Obj, w.heap[r]? = some o ∧ o.isCells = false) : RdrAt R B w' s := by
  obtain ⟨⟨vl, vq, h1, h2, h3⟩, h4, h5⟩ := h
  refine ⟨⟨vl, vq, ?_, own_turned h2 x hr, h3.turned x hr⟩, h4, Nat.le_trans h5 x.size⟩
  rw [x.block R (Array.getElem?_eq_some_iff.1 h1).1 (fun e => by
      obtain ⟨o, ho, hc⟩ := hr R e.symm
      rw [h1] at ho
      injection ho with ho
      subst ho
      cases hc)]
  exact h1
/-- A turn of a block that lies below B and is not the reader. -/
theorem RdrAt.low {R B b : Nat} {w w' : World} {s : CD} (h : RdrAt R B w s) (x : w.grownBy w' (some b)) (hb : b < B) (hne : b ≠ R) : RdrAt R B w' s := by
  obtain ⟨⟨vl, vq, h1, h2, h3⟩, h4, h5⟩ := h
  refine ⟨⟨vl, vq, ?_, h2.kept x (.inr fun e => by have := (h2.lt b e).1; omega), h3.low x hb⟩, h4, Nat.le_trans h5 x.size⟩
  rw [x.block R (Array.getElem?_eq_some_iff.1 h1).1 (fun e => hne (by injection e with e; exact e.symm))]
  exact h1

/-- What a method of the reader leaves: what lies below R; what lies below B, but for the reader; whatever is no cells. -/
structure Fr (R B : Nat) (w w' : World) : Prop where
  low : Below R w w'
  size : w.heap.size ≤ w'.heap.size
  keep : ∀ (k : Nat) (o : Obj), w.heap[k]? = some o → k ≠ R → (k < B ∨ o.isCells = false) → w'.heap[k]? = some o
theorem Fr.ext {R B : Nat} {w w' : World} (h : Ext w w') (hR : R ≤ w.heap.size) : Fr R B w w' := ⟨Below.mono h hR, h.size, fun k o hk _ _ => (h.block k (Array.getElem?_eq_some_iff.1 hk).1).trans hk⟩
theorem Fr.trans {R B : Nat} {a b c : World} (h : Fr R B a b) (k : Fr R B b c) : Fr R B a c := ⟨h.low.trans k.low, Nat.le_trans h.size k.size, fun i o hi hr ho => k.keep i o (h.keep i o hi hr ho) hr ho⟩
theorem Fr.of_grown {R B : Nat} {w w' : World} (h : w.grownBy w' (some R)) (hR : R ≤ w.heap.size) : Fr R B w w' :=
  ⟨grown_below h hR (fun k e => by injection e with e; omega), h.size, fun k o hk hr _ => (h.block k (Array.getElem?_eq_some_iff.1 hk).1 (fun e => hr (by injection e))).trans hk⟩
theorem Fr.set {R B o : Nat} {w w' : World} (h : Fr R B w w') (v : Value) (hR : R ≤ w'.heap.size) : Fr R B w (w'.setCell ⟨R, o, none⟩ v) :=
  h.trans (Fr.of_grown ⟨rfl, rfl, rfl, by simp, fun k _ hne => heap_setCell_other w' ⟨R, o, none⟩ k v (fun e => hne (by rw [e]))⟩ hR)
theorem Fr.grown {R B : Nat} {w w' w'' : World} {row : Option Nat} (h : Fr R B w w') (k : w'.grownBy w'' row) (hR : R ≤ w'.heap.size) (hr : ∀ g, row = some g → R ≤ g ∧ B ≤ g ∧ ∃ o : Obj, w'.heap[g]? = some o ∧ o.isCells = true) : Fr R B w w'' :=
  h.trans ⟨grown_below k hR (fun g e => (hr g e).1), k.size, fun i o hi _ ho => by
    rw [k.block i (Array.getElem?_eq_some_iff.1 hi).1 (fun e => by
      obtain ⟨_, hB, o', ho', hc⟩ := hr i e.symm
      rw [hi] at ho'
      injection ho' with ho'
      subst ho'
      rcases ho with ho | ho
      · omega
      · rw [ho] at hc; cases hc)]
    exact hi⟩
theorem Fr.new {R B o b : Nat} {w w' : World} (h : Fr R B w w') (v : Value) (hR : R ≤ w.heap.size) (hb : w.heap.size ≤ b) : Fr R B w (w'.setCell ⟨b, o, none⟩ v) :=
  ⟨Below.setCell h.low (p := ⟨b, o, none⟩) (by simp; omega) v, Nat.le_trans h.size (by simp), fun k ob hk hr ho => by
    have hlt := (Array.getElem?_eq_some_iff.1 hk).1
    rw [heap_setCell_other w' ⟨b, o, none⟩ k v (fun e => by have e : k = b := e; omega)]
    exact h.keep k ob hk hr ho⟩
theorem Fr.then {R B : Nat} {a b c : World} (h : Fr R B a b) (k : Ext b c) (hR : R ≤ b.heap.size) : Fr R B a c := h.trans (Fr.ext k hR)
theorem Fr.others {R B : Nat} {w w' : World} (h : Fr R B w w') {s : CD} (hR : RdrAt R B w s) : KeepsOthers w w' := ⟨h.size, fun k o hk ho => h.keep k o hk (fun e => by
  obtain ⟨_, _, h1, _⟩ := hR.ex
  subst e
  rw [h1] at hk
  injection hk with hk
  subst hk
  cases ho) (.inr ho)⟩

/-- What a method of the reader answers. -/
def StepPost (R B : Nat) (s : CD) (ws : List Tx) (w : World) (e : Ending) (w' : World) : Prop := e = .returned (.int .i64 (step s ws).1) ∧ RdrAt R B w' (step s ws).2 ∧ Fr R B w w'
end Go.Proofs.YtonbplofbcnijaaDoor
