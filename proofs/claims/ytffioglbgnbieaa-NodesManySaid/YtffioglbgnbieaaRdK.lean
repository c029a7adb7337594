/- Queues, configurations in memory. -/
import Derived.Test.YtffioglbgnbieaaRdG
import Derived.Test.YtffioglbgnbieaaBa
import Derived.Laws.MakeOwn
import Derived.Laws.OwnMore
import Derived.Laws.CopyOwn
import Derived.RangeFuncNested
namespace Go.Proofs.Ytffioglbgnbieaa
open Go.RowKit

/-- The cells of parts. -/
def capCells (cs : List (Int × Int)) : List Value := cs.flatMap fun p => [.int .i64 p.1, .int .i64 p.2]
theorem capCells_length (cs : List (Int × Int)) : (capCells cs).length = cs.length * 2 := by
  induction cs with
  | nil => rfl
  | cons p cs ih => simp only [capCells, List.flatMap_cons, List.length_append, List.length_cons, List.length_nil] at ih ⊢; omega
theorem capCells_snoc (cs : List (Int × Int)) (a b : Int) : capCells (cs ++ [(a, b)]) = capCells cs ++ [.int .i64 a, .int .i64 b] := by simp [capCells]
/-- A slice of texts, its length under a name of its own. -/
theorem strs_open {w : World} {v : Value} {ws : List Tx} (h : Rd w v (ws.map sv)) : ∃ A N c, v = .slice A N c ∧ N = ws.length ∧ N ≤ c ∧ c ≤ 9223372036854775807 ∧
    (0 < N → ∃ a, A = some a ∧ a.block < w.heap.size ∧ ∀ k (hk : k < ws.length), w.cell? (a.add k) = some (.string ⟨ws[k].toArray⟩)) := by
  obtain ⟨A, c, rfl, h1, h2, h3⟩ := h
  rw [List.length_map] at *
  unfold maxLen at h2
  refine ⟨A, _, c, rfl, rfl, h1, by omega, fun hn => ?_⟩
  obtain ⟨a, rfl, hb, hc⟩ := h3 hn
  exact ⟨a, rfl, hb, fun k hk => hc k (sv ws[k]) (by simp [hk])⟩

/-- A queue's three cells. -/
structure QC where
  p : ByteArray
  A : Option Addr
  n : Nat
  c : Nat
  u : Int
instance QC.inh : Inhabited QC := ⟨⟨⟨#[]⟩, none, 0, 0, 0⟩⟩
def qenc (q : QC) : List Value := [.string q.p, .slice q.A q.n q.c, .int .i64 q.u]
def IsQ (w : World) (q : QC) (d : QD) : Prop := q.p.data.toList = d.path ∧ q.u = d.user ∧ RdK 2 w (.slice q.A q.n q.c) d.caps.length (capCells d.caps)
theorem IsQ.ext {w w' : World} {q : QC} {d : QD} (h : IsQ w q d) (x : Ext w w') : IsQ w' q d := ⟨h.1, h.2.1, h.2.2.ext x⟩
def qcells (qs : List QC) : List Value := qs.flatMap qenc
theorem qcells_length (qs : List QC) : (qcells qs).length = qs.length * 3 := by
  induction qs with
  | nil => rfl
  | cons p qs ih => simp only [qcells, List.flatMap_cons, List.length_append, qenc, List.length_cons, List.length_nil] at ih ⊢; omega
theorem qcells_snoc (qs : List QC) (q : QC) : qcells (qs ++ [q]) = qcells qs ++ qenc q := by simp [qcells]

def RdQs (w : World) (v : Value) (ds : List QD) : Prop := ∃ qs : List QC, RdK 3 w v ds.length (qcells qs) ∧ qs.length = ds.length ∧ ∀ k (h : k < ds.length), ∃ q, qs[k]? = some q ∧ IsQ w q ds[k]
theorem RdQs.ext {w w' : World} {v : Value} {ds : List QD} (h : RdQs w v ds) (x : Ext w w') : RdQs w' v ds := by
  obtain ⟨qs, h1, h2, h3⟩ := h
  exact ⟨qs, h1.ext x, h2, fun k hk => by obtain ⟨q, h4, h5⟩ := h3 k hk; exact ⟨q, h4, h5.ext x⟩⟩

/-- A configuration. -/
def RdConf (w : World) (v : Value) (d : CD) : Prop := ∃ vl vq, v = .agg #[vl, vq] ∧ Rd w vl (d.labels.map sv) ∧ RdQs w vq d.queues
theorem RdConf.ext {w w' : World} {v : Value} {d : CD} (h : RdConf w v d) (x : Ext w w') : RdConf w' v d := by
  obtain ⟨vl, vq, rfl, h1, h2⟩ := h
  exact ⟨vl, vq, rfl, h1.ext x, h2.ext x⟩

/-- Rows of queues of the call's own: from block B on; no queue's parts lie in the row, nor below B. -/
def QsAt (w : World) (B : Nat) (v : Value) (ds : List QD) : Prop := ∃ qs : List QC, w.ownsRow B 58 3 v ds.length (qcells qs) ∧ qs.length = ds.length ∧
  ∀ k (h : k < ds.length), ∃ q, qs[k]? = some q ∧ IsQ w q ds[k] ∧ ∀ g, (Value.slice q.A q.n q.c).ownBlock = some g → v.ownBlock ≠ some g ∧ B ≤ g ∧ g < w.heap.size
theorem QsAt.rd {w : World} {B : Nat} {v : Value} {ds : List QD} (h : QsAt w B v ds) : RdQs w v ds := by
  obtain ⟨qs, h1, h2, h3⟩ := h
  exact ⟨qs, RdK.of_own h1, h2, fun k hk => by obtain ⟨q, h4, h5, _⟩ := h3 k hk; exact ⟨q, h4, h5⟩⟩
theorem QsAt.nil (w : World) (B : Nat) : QsAt w B (.slice none 0 0) [] := ⟨[], World.ownsRow_nil w _ _ 3, rfl, fun k h => absurd h (by simp)⟩
theorem QsAt.ext {w w' : World} {B : Nat} {v : Value} {ds : List QD} (h : QsAt w B v ds) (x : Ext w w') : QsAt w' B v ds := by
  obtain ⟨qs, h1, h2, h3⟩ := h
  exact ⟨qs, own_ExtK h1 x, h2, fun k hk => by obtain ⟨q, h4, h5, h6⟩ := h3 k hk; exact ⟨q, h4, h5.ext x, fun g hg => ⟨(h6 g hg).1, (h6 g hg).2.1, Nat.lt_of_lt_of_le (h6 g hg).2.2 x.size⟩⟩⟩
/-- A turn of a block below B, or of one that is no cells. -/
theorem QsAt.low {w w' : World} {B R : Nat} {v : Value} {ds : List QD} (h : QsAt w B v ds) (x : w.grownBy w' (some R)) (hR : R < B) : QsAt w' B v ds := by
  obtain ⟨qs, h1, h2, h3⟩ := h
  refine ⟨qs, h1.kept x (.inr fun e => by have := (h1.lt R e).1; omega), h2, fun k hk => ?_⟩
  obtain ⟨q, h4, h5, h6⟩ := h3 k hk
  exact ⟨q, h4, ⟨h5.1, h5.2.1, h5.2.2.grown x (fun g e e' => by injection e with e; subst e; have := (h6 _ e').2.1; omega)⟩, fun g hg => ⟨(h6 g hg).1, (h6 g hg).2.1, Nat.lt_of_lt_of_le (h6 g hg).2.2 x.size⟩⟩
theorem QsAt.turned {w w' : World} {B : Nat} {row : Option Nat} {v : Value} {ds : List QD} (h : QsAt w B v ds) (x : w.grownBy w' row) (hr : ∀ r, row = some r → ∃ o : Obj, w.heap[r]? = some o ∧ o.isCells = false) : QsAt w' B v ds := by
  obtain ⟨qs, h1, h2, h3⟩ := h
  refine ⟨qs, own_turned h1 x hr, h2, fun k hk => ?_⟩
  obtain ⟨q, h4, h5, h6⟩ := h3 k hk
  exact ⟨q, h4, ⟨h5.1, h5.2.1, h5.2.2.turned x hr⟩, fun g hg => ⟨(h6 g hg).1, (h6 g hg).2.1, Nat.lt_of_lt_of_le (h6 g hg).2.2 x.size⟩⟩

theorem Try.infoStr : (Try.prog.info? 9).map (fun i => (i.zero, i.size, i.bytes)) = some (some (.string ⟨#[]⟩), 1, 16) := by kernel_rfl
theorem Try.infoQ : (Try.prog.info? 58).map (fun i => (i.zero, i.size, i.bytes)) = some (some (.agg #[.string ⟨#[]⟩, .slice none 0 0, .int .i64 0]), 3, 48) := by kernel_rfl

theorem QsAt.snoc {w w' : World} {B : Nat} {v v' : Value} {ds : List QD} {d : QD} {q : QC} {qs : List QC} (h1 : w.ownsRow B 58 3 v ds.length (qcells qs)) (h2 : qs.length = ds.length)
    (h3 : ∀ k (h : k < ds.length), ∃ q, qs[k]? = some q ∧ IsQ w q ds[k] ∧ ∀ g, (Value.slice q.A q.n q.c).ownBlock = some g → v.ownBlock ≠ some g ∧ B ≤ g ∧ g < w.heap.size)
    (hu : IsQ w q d) (hb : ∀ g, (Value.slice q.A q.n q.c).ownBlock = some g → v.ownBlock ≠ some g ∧ B ≤ g ∧ g < w.heap.size)
    (hown : w'.ownsRow B 58 3 v' (ds.length + 1) (qcells qs ++ qenc q)) (hg : w.grownBy w' v.ownBlock) (hat : v'.ownBlock = v.ownBlock ∨ ∀ k, v'.ownBlock = some k → w.heap.size ≤ k) : QsAt w' B v' (ds ++ [d]) := by
  have keep : ∀ u : Value, (∀ g, u.ownBlock = some g → v.ownBlock ≠ some g ∧ B ≤ g ∧ g < w.heap.size) → ∀ g, u.ownBlock = some g → v'.ownBlock ≠ some g ∧ B ≤ g ∧ g < w'.heap.size := by
    intro u hu g hg'
    have h := hu g hg'
    refine ⟨?_, h.2.1, Nat.lt_of_lt_of_le h.2.2 hg.size⟩
    rcases hat with e | e
    · rw [e]; exact h.1
    · intro e'; have := e g e'; omega
  refine ⟨qs ++ [q], by rw [List.length_append, List.length_singleton, qcells_snoc]; exact hown, by simp [h2], fun k hk => ?_⟩
  rw [List.length_append, List.length_singleton] at hk
  by_cases hlt : k < ds.length
  · obtain ⟨u', h4, h5, h6⟩ := h3 k hlt
    refine ⟨u', by rw [List.getElem?_append_left (by omega)]; exact h4, ?_, keep _ h6⟩
    rw [List.getElem_append_left hlt]
    exact ⟨h5.1, h5.2.1, h5.2.2.grown hg (fun g e e' => (h6 g e').1 e)⟩
  · obtain rfl : k = ds.length := by omega
    refine ⟨q, by rw [List.getElem?_append_right (by omega), h2]; simp, ?_, keep _ hb⟩
    rw [List.getElem_append_right (by omega)]
    simp only [Nat.sub_self, List.getElem_cons_zero]
    exact ⟨hu.1, hu.2.1, hu.2.2.grown hg (fun g e e' => (hb g e').1 e)⟩

theorem one3 {s : ByteArray} {A : Option Addr} {n c : Nat} {i : Int} : ∀ u ∈ [Value.string s, Value.slice A n c, Value.int .i64 i], u.oneCell' = true := by
  intro u hu
  simp only [List.mem_cons, List.mem_nil_iff, or_false] at hu
  rcases hu with rfl | rfl | rfl <;> rfl

end Go.Proofs.Ytffioglbgnbieaa
