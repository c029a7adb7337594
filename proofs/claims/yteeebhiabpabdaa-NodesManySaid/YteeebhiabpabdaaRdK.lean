/- Queues, configurations in memory. -/
import Derived.Test.YteeebhiabpabdaaBa
import Derived.Laws.MakeOwn
import Derived.Laws.OwnMore
import Derived.Laws.CopyOwn
import Derived.RangeFuncNested
namespace Go.Proofs.Yteeebhiabpabdaa
open Go.RowKit

/-- The cells of parts. -/
def capCells (cs : List (Int × Int)) : List Value := cs.flatMap fun p => [.int .i64 p.1, .int .i64 p.2]
theorem capCells_length (cs : List (Int × Int)) : (capCells cs).length = cs.length * 2 := by
  induction cs with
  | nil => rfl
  | cons p cs ih => simp only [capCells, List.flatMap_cons, List.length_append, List.length_cons, List.length_nil] at ih ⊢; omega
theorem capCells_snoc (cs : List (Int × Int)) (a b : Int) : capCells (cs ++ [(a, b)]) = capCells cs ++ [.int .i64 a, .int .i64 b] := by simp [capCells]
theorem set_two (l : List Value) (n : Nat) (hn : l.length = n) (u v x y : Value) (r : List Value) : ((l ++ u :: v :: r).set n x).set (n + 1) y = l ++ x :: y :: r := by
  subst hn
  induction l with
  | nil => rfl
  | cons a l ih => simp [ih]
theorem get_two (l : List Value) (n : Nat) (hn : l.length = n) (u v : Value) (r : List Value) : (l ++ u :: v :: r)[n]? = some u ∧ (l ++ u :: v :: r)[n + 1]? = some v := by
  subst hn
  simp [List.getElem?_append_right]
/-- A slice of texts, its length under a name of its own. -/
theorem strs_open {w : World} {v : Value} {ws : List Tx} (h : Rd w v (ws.map sv)) : ∃ A N c, v = .slice A N c ∧ N = ws.length ∧ N ≤ c ∧ c ≤ 9223372036854775807 ∧
    (0 < N → ∃ a, A = some a ∧ a.block < w.heap.size ∧ ∀ k (hk : k < ws.length), w.cell? (a.add k) = some (.string ⟨ws[k].toArray⟩)) := by
  obtain ⟨A, c, rfl, h1, h2, h3⟩ := h
  rw [List.length_map] at *
  unfold maxLen at h2
  refine ⟨A, _, c, rfl, rfl, h1, by omega, fun hn => ?_⟩
  obtain ⟨a, rfl, hb, hc⟩ := h3 hn
  exact ⟨a, rfl, hb, fun k hk => hc k (sv ws[k]) (by simp [hk])⟩

theorem own_ExtK {w w' : World} {base : Nat} {e : TypeId} {k : Nat} {v : Value} {n : Nat} {xs : List Value} (h : w.ownsRow base e k v n xs) (x : Ext w w') : w'.ownsRow base e k v n xs := by
  refine ⟨h.1, ?_⟩
  rcases h.2 with hn | ⟨g, cap, cur, rfl, hb, hg, hr⟩
  · exact .inl hn
  · exact .inr ⟨g, cap, cur, rfl, hb, (x.block g (Array.getElem?_eq_some_iff.1 hg).1).trans hg, hr⟩

/-- v reads as n elements of k cells each: xs. -/
def RdK (k : Nat) (w : World) (v : Value) (n : Nat) (xs : List Value) : Prop :=
  ∃ A c, v = .slice A n c ∧ n ≤ c ∧ c ≤ maxLen ∧ xs.length = n * k ∧ (0 < xs.length → ∃ a, A = some a ∧ a.block < w.heap.size ∧ ∀ j u, xs[j]? = some u → w.cell? (a.add j) = some u)
theorem RdK.ext {k : Nat} {w w' : World} {v : Value} {n : Nat} {xs : List Value} (h : RdK k w v n xs) (x : Ext w w') : RdK k w' v n xs := by
  obtain ⟨A, c, rfl, h1, h2, h3, h4⟩ := h
  refine ⟨A, c, rfl, h1, h2, h3, fun hn => ?_⟩
  obtain ⟨a, rfl, hb, hc⟩ := h4 hn
  exact ⟨a, rfl, Nat.lt_of_lt_of_le hb x.size, fun j u hu => (Below.cell x (p := a.add j) (by rw [add_block]; exact hb)).trans (hc j u hu)⟩
theorem RdK.of_own {k : Nat} {w : World} {base : Nat} {e : TypeId} {v : Value} {n : Nat} {xs : List Value} (h : w.ownsRow base e k v n xs) : RdK k w v n xs := by
  have hl := h.1
  rcases h.2 with ⟨rfl, h0⟩ | ⟨g, cap, cur, rfl, _, hg, hc, hm, _⟩
  · subst h0; exact ⟨none, 0, rfl, Nat.le_refl _, by simp [maxLen], hl, fun hn => by omega⟩
  · exact ⟨_, cap, rfl, hc, hm, hl, fun hn => ⟨⟨g, 0, none⟩, rfl, (Array.getElem?_eq_some_iff.1 hg).1, h.cells (g := g) rfl⟩⟩
theorem RdK.grown {k : Nat} {w w' : World} {row : Option Nat} {v : Value} {n : Nat} {xs : List Value} (h : RdK k w v n xs) (x : w.grownBy w' row) (hr : ∀ g, row = some g → v.ownBlock ≠ some g) : RdK k w' v n xs := by
  obtain ⟨A, c, rfl, h1, h2, h3, h4⟩ := h
  refine ⟨A, c, rfl, h1, h2, h3, fun hn => ?_⟩
  obtain ⟨a, rfl, hb, hc⟩ := h4 hn
  refine ⟨a, rfl, Nat.lt_of_lt_of_le hb x.size, fun j u hu => ?_⟩
  rw [World.cell?_of_block (x.block (a.add j).block (by rw [add_block]; exact hb) (fun e => hr _ e.symm (by rw [add_block]; rfl)))]
  exact hc j u hu
/-- Whatever is no cells may turn. -/
theorem RdK.turned {k : Nat} {w w' : World} {row : Option Nat} {v : Value} {n : Nat} {xs : List Value} (h : RdK k w v n xs) (x : w.grownBy w' row) (hr : ∀ r, row = some r → ∃ o : Obj, w.heap[r]? = some o ∧ o.isCells = false) : RdK k w' v n xs := by
  obtain ⟨A, c, rfl, h1, h2, h3, h4⟩ := h
  refine ⟨A, c, rfl, h1, h2, h3, fun hn => ?_⟩
  obtain ⟨a, rfl, hb, hc⟩ := h4 hn
  exact ⟨a, rfl, Nat.lt_of_lt_of_le hb x.size, fun j u hu => cell_kept (hc j u hu) x hr⟩

/-- All cells that lie from block B on are as they were. -/
def Above (B : Nat) (w w' : World) : Prop := w.heap.size ≤ w'.heap.size ∧ ∀ g (o : Obj), B ≤ g → w.heap[g]? = some o → o.isCells = true → w'.heap[g]? = some o
theorem cell_block {w : World} {p : Addr} {u : Value} (h : w.cell? p = some u) : ∃ o : Obj, w.heap[p.block]? = some o ∧ o.isCells = true := by
  unfold World.cell? at h
  split at h
  · rename_i c e f hb
    exact ⟨_, hb, rfl⟩
  · simp at h
theorem Above.cell {B : Nat} {w w' : World} (x : Above B w w') {p : Addr} {u : Value} (h : w.cell? p = some u) (hB : B ≤ p.block) : w'.cell? p = some u := by
  obtain ⟨o, ho, hc⟩ := cell_block h
  rw [World.cell?_of_block ((x.2 p.block o hB ho hc).trans ho.symm)]
  exact h
theorem RdK.above {k B : Nat} {w w' : World} {v : Value} {n : Nat} {xs : List Value} (h : RdK k w v n xs) (x : Above B w w') (hr : ∀ g, v.ownBlock = some g → B ≤ g) : RdK k w' v n xs := by
  obtain ⟨A, c, rfl, h1, h2, h3, h4⟩ := h
  refine ⟨A, c, rfl, h1, h2, h3, fun hn => ?_⟩
  obtain ⟨a, rfl, hb, hc⟩ := h4 hn
  exact ⟨a, rfl, Nat.lt_of_lt_of_le hb x.1, fun j u hu => x.cell (hc j u hu) (by rw [add_block]; exact hr _ rfl)⟩
theorem Rd.above {B : Nat} {w w' : World} {v : Value} {xs : List Value} (h : Rd w v xs) (x : Above B w w') (hr : ∀ g, v.ownBlock = some g → B ≤ g) : Rd w' v xs := by
  obtain ⟨A, c, rfl, h1, h2, h3⟩ := h
  refine ⟨A, c, rfl, h1, h2, fun hn => ?_⟩
  obtain ⟨a, rfl, hb, hc⟩ := h3 hn
  exact ⟨a, rfl, Nat.lt_of_lt_of_le hb x.1, fun j u hu => x.cell (hc j u hu) (by rw [add_block]; exact hr _ rfl)⟩

/-- A queue's three cells. -/
structure QC where
  p : ByteArray
  A : Option Addr
  n : Nat
  c : Nat
  u : Int
instance QC.inh : Inhabited QC := ⟨⟨⟨#[]⟩, none, 0, 0, 0⟩⟩
def qenc (q : QC) : List Value := [.string q.p, .slice q.A q.n q.c, .int .i64 q.u]
def IsQ (w : World) (q : QC) (d : QD) : Prop := q.p.data.toList = d.path ∧ q.u = d.user ∧ RdK 2 w (.slice q.A q.n q.c) d.caps.length (capCells d.caps)
theorem IsQ.ext {w w' : World} {q : QC} {d : QD} (h : IsQ w q d) (x : Ext w w') : IsQ w' q d := ⟨h.1, h.2.1, h.2.2.ext x⟩
def qcells (qs : List QC) : List Value := qs.flatMap qenc
theorem qcells_length (qs : List QC) : (qcells qs).length = qs.length * 3 := by
  induction qs with
  | nil => rfl
  | cons p qs ih => simp only [qcells, List.flatMap_cons, List.length_append, qenc, List.length_cons, List.length_nil] at ih ⊢; omega
theorem qcells_snoc (qs : List QC) (q : QC) : qcells (qs ++ [q]) = qcells qs ++ qenc q := by simp [qcells]

def RdQs (w : World) (v : Value) (ds : List QD) : Prop := ∃ qs : List QC, RdK 3 w v ds.length (qcells qs) ∧ qs.length = ds.length ∧ ∀ k (h : k < ds.length), ∃ q, qs[k]? = some q ∧ IsQ w q ds[k]
theorem RdQs.ext {w w' : World} {v : Value} {ds : List QD} (h : RdQs w v ds) (x : Ext w w') : RdQs w' v ds := by
  obtain ⟨qs, h1, h2, h3⟩ := h
  exact ⟨qs, h1.ext x, h2, fun k hk => by obtain ⟨q, h4, h5⟩ := h3 k hk; exact ⟨q, h4, h5.ext x⟩⟩

/-- A configuration. -/
def RdConf (w : World) (v : Value) (d : CD) : Prop := ∃ vl vq, v = .agg #[vl, vq] ∧ Rd w vl (d.labels.map sv) ∧ RdQs w vq d.queues
theorem RdConf.ext {w w' : World} {v : Value} {d : CD} (h : RdConf w v d) (x : Ext w w') : RdConf w' v d := by
  obtain ⟨vl, vq, rfl, h1, h2⟩ := h
  exact ⟨vl, vq, rfl, h1.ext x, h2.ext x⟩

/-- Rows of queues of the call's own: from block B on; no queue's parts lie in the row, nor below B. -/
def QsAt (w : World) (B : Nat) (v : Value) (ds : List QD) : Prop := ∃ qs : List QC, w.ownsRow B 58 3 v ds.length (qcells qs) ∧ qs.length = ds.length ∧
  ∀ k (h : k < ds.length), ∃ q, qs[k]? = some q ∧ IsQ w q ds[k] ∧ ∀ g, (Value.slice q.A q.n q.c).ownBlock = some g → v.ownBlock ≠ some g ∧ B ≤ g ∧ g < w.heap.size
theorem QsAt.rd {w : World} {B : Nat} {v : Value} {ds : List QD} (h : QsAt w B v ds) : RdQs w v ds := by
  obtain ⟨qs, h1, h2, h3⟩ := h
  exact ⟨qs, RdK.of_own h1, h2, fun k hk => by obtain ⟨q, h4, h5, _⟩ := h3 k hk; exact ⟨q, h4, h5⟩⟩
theorem QsAt.nil (w : World) (B : Nat) : QsAt w B (.slice none 0 0) [] := ⟨[], World.ownsRow_nil w _ _ 3, rfl, fun k h => absurd h (by simp)⟩
theorem QsAt.ext {w w' : World} {B : Nat} {v : Value} {ds : List QD} (h : QsAt w B v ds) (x : Ext w w') : QsAt w' B v ds := by
  obtain ⟨qs, h1, h2, h3⟩ := h
  exact ⟨qs, own_ExtK h1 x, h2, fun k hk => by obtain ⟨q, h4, h5, h6⟩ := h3 k hk; exact ⟨q, h4, h5.ext x, fun g hg => ⟨(h6 g hg).1, (h6 g hg).2.1, Nat.lt_of_lt_of_le (h6 g hg).2.2 x.size⟩⟩⟩
/-- A turn of a block below B, or of one that is no cells. -/
theorem QsAt.low {w w' : World} {B R : Nat} {v : Value} {ds : List QD} (h : QsAt w B v ds) (x : w.grownBy w' (some R)) (hR : R < B) : QsAt w' B v ds := by
  obtain ⟨qs, h1, h2, h3⟩ := h
  refine ⟨qs, h1.kept x (.inr fun e => by have := (h1.lt R e).1; omega), h2, fun k hk => ?_⟩
  obtain ⟨q, h4, h5, h6⟩ := h3 k hk
  exact ⟨q, h4, ⟨h5.1, h5.2.1, h5.2.2.grown x (fun g e e' => by injection e with e; subst e; have := (h6 _ e').2.1; omega)⟩, fun g hg => ⟨(h6 g hg).1, (h6 g hg).2.1, Nat.lt_of_lt_of_le (h6 g hg).2.2 x.size⟩⟩
theorem own_turned {w w' : World} {B e k n : Nat} {row : Option Nat} {v : Value} {xs : List Value} (h : w.ownsRow B e k v n xs) (x : w.grownBy w' row) (hr : ∀ r, row = some r → ∃ o : Obj, w.heap[r]? = some o ∧ o.isCells = false) : w'.ownsRow B e k v n xs := by
  refine ⟨h.1, ?_⟩
  rcases h.2 with hn | ⟨g, cap, cur, rfl, hb, hg, hrest⟩
  · exact .inl hn
  · refine .inr ⟨g, cap, cur, rfl, hb, ?_, hrest⟩
    rw [x.block g (Array.getElem?_eq_some_iff.1 hg).1 (fun e => by
      obtain ⟨o, ho, hc⟩ := hr g e.symm
      rw [hg] at ho
      injection ho with ho
      subst ho
      cases hc)]
    exact hg
theorem QsAt.turned {w w' : World} {B : Nat} {row : Option Nat} {v : Value} {ds : List QD} (h : QsAt w B v ds) (x : w.grownBy w' row) (hr : ∀ r, row = some r → ∃ o : Obj, w.heap[r]? = some o ∧ o.isCells = false) : QsAt w' B v ds := by
  obtain ⟨qs, h1, h2, h3⟩ := h
  refine ⟨qs, own_turned h1 x hr, h2, fun k hk => ?_⟩
  obtain ⟨q, h4, h5, h6⟩ := h3 k hk
  exact ⟨q, h4, ⟨h5.1, h5.2.1, h5.2.2.turned x hr⟩, fun g hg => ⟨(h6 g hg).1, (h6 g hg).2.1, Nat.lt_of_lt_of_le (h6 g hg).2.2 x.size⟩⟩

theorem Try.infoStr : (Try.prog.info? 9).map (fun i => (i.zero, i.size, i.bytes)) = some (some (.string ⟨#[]⟩), 1, 16) := by kernel_rfl
theorem Try.infoQ : (Try.prog.info? 58).map (fun i => (i.zero, i.size, i.bytes)) = some (some (.agg #[.string ⟨#[]⟩, .slice none 0 0, .int .i64 0]), 3, 48) := by kernel_rfl

theorem QsAt.snoc {w w' : World} {B : Nat} {v v' : Value} {ds : List QD} {d : QD} {q : QC} {qs : List QC} (h1 : w.ownsRow B 58 3 v ds.length (qcells qs)) (h2 : qs.length = ds.length)
    (h3 : ∀ k (h : k < ds.length), ∃ q, qs[k]? = some q ∧ IsQ w q ds[k] ∧ ∀ g, (Value.slice q.A q.n q.c).ownBlock = some g → v.ownBlock ≠ some g ∧ B ≤ g ∧ g < w.heap.size)
    (hu : IsQ w q d) (hb : ∀ g, (Value.slice q.A q.n q.c).ownBlock = some g → v.ownBlock ≠ some g ∧ B ≤ g ∧ g < w.heap.size)
    (hown : w'.ownsRow B 58 3 v' (ds.length + 1) (qcells qs ++ qenc q)) (hg : w.grownBy w' v.ownBlock) (hat : v'.ownBlock = v.ownBlock ∨ ∀ k, v'.ownBlock = some k → w.heap.size ≤ k) : QsAt w' B v' (ds ++ [d]) := by
  have keep : ∀ u : Value, (∀ g, u.ownBlock = some g → v.ownBlock ≠ some g ∧ B ≤ g ∧ g < w.heap.size) → ∀ g, u.ownBlock = some g → v'.ownBlock ≠ some g ∧ B ≤ g ∧ g < w'.heap.size := by
    intro u hu g hg'
    have h := hu g hg'
    refine ⟨?_, h.2.1, Nat.lt_of_lt_of_le h.2.2 hg.size⟩
    rcases hat with e | e
    · rw [e]; exact h.1
    · intro e'; have := e g e'; omega
  refine ⟨qs ++ [q], by rw [List.length_append, List.length_singleton, qcells_snoc]; exact hown, by simp [h2], fun k hk => ?_⟩
  rw [List.length_append, List.length_singleton] at hk
  by_cases hlt : k < ds.length
  · obtain ⟨u', h4, h5, h6⟩ := h3 k hlt
    refine ⟨u', by rw [List.getElem?_append_left (by omega)]; exact h4, ?_, keep _ h6⟩
    rw [List.getElem_append_left hlt]
    exact ⟨h5.1, h5.2.1, h5.2.2.grown hg (fun g e e' => (h6 g e').1 e)⟩
  · obtain rfl : k = ds.length := by omega
    refine ⟨q, by rw [List.getElem?_append_right (by omega), h2]; simp, ?_, keep _ hb⟩
    rw [List.getElem_append_right (by omega)]
    simp only [Nat.sub_self, List.getElem_cons_zero]
    exact ⟨hu.1, hu.2.1, hu.2.2.grown hg (fun g e e' => (hb g e').1 e)⟩

/-- append onto a row of the call's own, as one step of a region that draws. -/
theorem step_app_own {P : Program} {ops : Array Oper} {o : Oper} {a : Act} {w : World} {K : Act → World → Prop} {Q : Exit → Act → World → Prop} {E : Prop} (hgd : o.guard = none) (s x : Operand) (t : TypeId)
    (ho : o.op = .call { callee := .builtin .append, args := #[s, x], argTypes := #[t, t] })
    (base : Nat) (e : TypeId) (i : TypeInfo) (z : Value) (size bytes : Nat) (ht : P.underlying t = some (.slice e)) (hi : P.info? e = some i) (hz : i.zero = some z)
    (hsize : i.size = size) (hby : i.bytes = bytes) (hzs : z.cells.size = size) (hsz : 0 < size)
    (v : Value) (n : Nat) (xs : List Value) (hs : a.eval s = v) (hown : w.ownsRow base e size v n xs)
    (ad : Addr) (m c : Nat) (news : List Value) (hx : a.eval x = .slice (some ad) m c) (hl : news.length = m * size) (hnews : ∀ j u, news[j]? = some u → w.cell? (ad.add j) = some u) (h1 : ∀ u ∈ news, u.oneCell' = true)
    (h63 : n + m ≤ maxLen) (hbytes : (n + m) * bytes ≤ 140737488355328) (hbase : base ≤ w.heap.size)
    (h : ∀ v' w', w'.ownsRow base e size v' (n + m) (xs ++ news) → w.grownBy w' v.ownBlock → (v'.ownBlock = v.ownBlock ∨ v'.ownBlock = some w.heap.size) → K (a.put o.dst v') w') :
    if Region.wanted o (yielded ops a.tmps) = true then Oper.wp P o a w K Q else E := by
  have hw : Region.wanted o (yielded ops a.tmps) = true := by simp [Region.wanted, hgd]
  rw [if_pos hw]
  obtain ⟨v', w', hr, h2, h3, h4, h5⟩ := run_append_own_at (P := P) w base t o.type e i z size bytes ht hi hz hsize hby hzs hsz v n xs hown ad m c news hl hnews h1 h63 hbytes hbase
  unfold Oper.wp execOp
  simp only [ho, resolve, invoke, builtin, Sem.run_bind, Sem.run_pure, Result.andThen_ok, List.map_toArray, List.map_cons, List.map_nil, hs, hx, hr]
  exact h v' w' h2 h3 h5

theorem own_shape {w : World} {B e k n : Nat} {v : Value} {xs : List Value} (h : w.ownsRow B e k v n xs) : ∃ A c, v = .slice A n c ∧ n ≤ c ∧ c ≤ 9223372036854775807 := by
  rcases h.2 with ⟨rfl, h0⟩ | ⟨g, cap, cur, rfl, _, _, hc, hm, _⟩
  · subst h0; exact ⟨none, 0, rfl, Nat.le_refl _, by omega⟩
  · unfold maxLen at hm; exact ⟨_, cap, rfl, hc, by omega⟩

theorem own_heap {w W : World} {B e k n : Nat} {v : Value} {xs : List Value} (h : w.ownsRow B e k v n xs) (hW : W.heap = w.heap) : W.ownsRow B e k v n xs := by
  refine ⟨h.1, ?_⟩
  rw [hW]
  exact h.2
theorem cell_three_new (w : World) (x y z : Value) (t : TypeId) : ∀ j u, [x, y, z][j]? = some u → (w.alloc (.cells #[x, y, z] t)).cell? ((⟨w.heap.size, 0, none⟩ : Addr).add j) = some u := by
  intro j u hu
  have hadd : (⟨w.heap.size, 0, none⟩ : Addr).add j = ⟨w.heap.size, j, none⟩ := by unfold Addr.add; split <;> simp_all
  rw [hadd, cell_of_row _ w.heap.size j _ t (0, 0) (heap_alloc_new w _), ← Array.getElem?_toList]
  exact hu
theorem one3 {s : ByteArray} {A : Option Addr} {n c : Nat} {i : Int} : ∀ u ∈ [Value.string s, Value.slice A n c, Value.int .i64 i], u.oneCell' = true := by
  intro u hu
  simp only [List.mem_cons, List.mem_nil_iff, or_false] at hu
  rcases hu with rfl | rfl | rfl <;> rfl

theorem own_ne {w : World} {B B' e e' k k' n n' : Nat} {v v' : Value} {xs xs' : List Value} (h : w.ownsRow B e k v n xs) (h' : w.ownsRow B' e' k' v' n' xs') (he : e ≠ e') : v.ownBlock = none ∨ v.ownBlock ≠ v'.ownBlock := by
  rcases h.2 with ⟨rfl, _⟩ | ⟨g, cap, cur, rfl, _, hg, _⟩
  · exact .inl rfl
  · refine .inr fun e1 => ?_
    rcases h'.2 with ⟨rfl, _⟩ | ⟨g', cap', cur', rfl, _, hg', _⟩
    · cases e1
    · simp [Value.ownBlock] at e1
      subst e1
      rw [hg] at hg'
      injection hg' with hg'
      injection hg' with _ h2
      exact he h2

end Go.Proofs.Yteeebhiabpabdaa
