/- Rows of elements of k cells, in memory. -/
import Derived.Test.YtffioglbgnbieaaBaG
import Derived.Laws.MakeOwn
import Derived.Laws.AppendOwnNone
import Derived.Laws.OwnMore
import Derived.Laws.CopyOwn
import Derived.RangeFuncNested
namespace Go.Proofs.Ytffioglbgnbieaa
open Go.RowKit

theorem at_worldB {P : Program} {f : Func} {post : Ending → World → Prop} {ex : Exit} {a : Act} {w : World} (h : ∀ W, W = w → bodyPost P f post ex a W) : bodyPost P f post ex a w := h w rfl
theorem set_two (l : List Value) (n : Nat) (hn : l.length = n) (u v x y : Value) (r : List Value) : ((l ++ u :: v :: r).set n x).set (n + 1) y = l ++ x :: y :: r := by
  subst hn
  induction l with
  | nil => rfl
  | cons a l ih => simp [ih]
theorem get_two (l : List Value) (n : Nat) (hn : l.length = n) (u v : Value) (r : List Value) : (l ++ u :: v :: r)[n]? = some u ∧ (l ++ u :: v :: r)[n + 1]? = some v := by
  subst hn
  simp [List.getElem?_append_right]
theorem own_ExtK {w w' : World} {base : Nat} {e : TypeId} {k : Nat} {v : Value} {n : Nat} {xs : List Value} (h : w.ownsRow base e k v n xs) (x : Ext w w') : w'.ownsRow base e k v n xs := by
  refine ⟨h.1, ?_⟩
  rcases h.2 with hn | ⟨g, cap, cur, rfl, hb, hg, hr⟩
  · exact .inl hn
  · exact .inr ⟨g, cap, cur, rfl, hb, (x.block g (Array.getElem?_eq_some_iff.1 hg).1).trans hg, hr⟩

/-- v reads as n elements of k cells each: xs. -/
def RdK (k : Nat) (w : World) (v : Value) (n : Nat) (xs : List Value) : Prop :=
  ∃ A c, v = .slice A n c ∧ n ≤ c ∧ c ≤ maxLen ∧ xs.length = n * k ∧ (0 < xs.length → ∃ a, A = some a ∧ a.block < w.heap.size ∧ ∀ j u, xs[j]? = some u → w.cell? (a.add j) = some u)
theorem RdK.ext {k : Nat} {w w' : World} {v : Value} {n : Nat} {xs : List Value} (h : RdK k w v n xs) (x : Ext w w') : RdK k w' v n xs := by
  obtain ⟨A, c, rfl, h1, h2, h3, h4⟩ := h
  refine ⟨A, c, rfl, h1, h2, h3, fun hn => ?_⟩
  obtain ⟨a, rfl, hb, hc⟩ := h4 hn
  exact ⟨a, rfl, Nat.lt_of_lt_of_le hb x.size, fun j u hu => (Below.cell x (p := a.add j) (by rw [add_block]; exact hb)).trans (hc j u hu)⟩
theorem RdK.of_own {k : Nat} {w : World} {base : Nat} {e : TypeId} {v : Value} {n : Nat} {xs : List Value} (h : w.ownsRow base e k v n xs) : RdK k w v n xs := by
  have hl := h.1
  rcases h.2 with ⟨rfl, h0⟩ | ⟨g, cap, cur, rfl, _, hg, hc, hm, _⟩
  · subst h0; exact ⟨none, 0, rfl, Nat.le_refl _, by simp [maxLen], hl, fun hn => by omega⟩
  · exact ⟨_, cap, rfl, hc, hm, hl, fun hn => ⟨⟨g, 0, none⟩, rfl, (Array.getElem?_eq_some_iff.1 hg).1, h.cells (g := g) rfl⟩⟩
theorem RdK.grown {k : Nat} {w w' : World} {row : Option Nat} {v : Value} {n : Nat} {xs : List Value} (h : RdK k w v n xs) (x : w.grownBy w' row) (hr : ∀ g, row = some g → v.ownBlock ≠ some g) : RdK k w' v n xs := by
  obtain ⟨A, c, rfl, h1, h2, h3, h4⟩ := h
  refine ⟨A, c, rfl, h1, h2, h3, fun hn => ?_⟩
  obtain ⟨a, rfl, hb, hc⟩ := h4 hn
  refine ⟨a, rfl, Nat.lt_of_lt_of_le hb x.size, fun j u hu => ?_⟩
  rw [World.cell?_of_block (x.block (a.add j).block (by rw [add_block]; exact hb) (fun e => hr _ e.symm (by rw [add_block]; rfl)))]
  exact hc j u hu
/-- Whatever is no cells may turn. -/
theorem RdK.turned {k : Nat} {w w' : World} {row : Option Nat} {v : Value} {n : Nat} {xs : List Value} (h : RdK k w v n xs) (x : w.grownBy w' row) (hr : ∀ r, row = some r → ∃ o : Obj, w.heap[r]? = some o ∧ o.isCells = false) : RdK k w' v n xs := by
  obtain ⟨A, c, rfl, h1, h2, h3, h4⟩ := h
  refine ⟨A, c, rfl, h1, h2, h3, fun hn => ?_⟩
  obtain ⟨a, rfl, hb, hc⟩ := h4 hn
  exact ⟨a, rfl, Nat.lt_of_lt_of_le hb x.size, fun j u hu => cell_kept (hc j u hu) x hr⟩

/-- All cells that lie from block B on are as they were. -/
def Above (B : Nat) (w w' : World) : Prop := w.heap.size ≤ w'.heap.size ∧ ∀ g (o : Obj), B ≤ g → w.heap[g]? = some o → o.isCells = true → w'.heap[g]? = some o
theorem cell_block {w : World} {p : Addr} {u : Value} (h : w.cell? p = some u) : ∃ o : Obj, w.heap[p.block]? = some o ∧ o.isCells = true := by
  unfold World.cell? at h
  split at h
  · rename_i c e f hb
    exact ⟨_, hb, rfl⟩
  · simp at h
theorem Above.cell {B : Nat} {w w' : World} (x : Above B w w') {p : Addr} {u : Value} (h : w.cell? p = some u) (hB : B ≤ p.block) : w'.cell? p = some u := by
  obtain ⟨o, ho, hc⟩ := cell_block h
  rw [World.cell?_of_block ((x.2 p.block o hB ho hc).trans ho.symm)]
  exact h
theorem RdK.above {k B : Nat} {w w' : World} {v : Value} {n : Nat} {xs : List Value} (h : RdK k w v n xs) (x : Above B w w') (hr : ∀ g, v.ownBlock = some g → B ≤ g) : RdK k w' v n xs := by
  obtain ⟨A, c, rfl, h1, h2, h3, h4⟩ := h
  refine ⟨A, c, rfl, h1, h2, h3, fun hn => ?_⟩
  obtain ⟨a, rfl, hb, hc⟩ := h4 hn
  exact ⟨a, rfl, Nat.lt_of_lt_of_le hb x.1, fun j u hu => x.cell (hc j u hu) (by rw [add_block]; exact hr _ rfl)⟩
theorem Rd.above {B : Nat} {w w' : World} {v : Value} {xs : List Value} (h : Rd w v xs) (x : Above B w w') (hr : ∀ g, v.ownBlock = some g → B ≤ g) : Rd w' v xs := by
  obtain ⟨A, c, rfl, h1, h2, h3⟩ := h
  refine ⟨A, c, rfl, h1, h2, fun hn => ?_⟩
  obtain ⟨a, rfl, hb, hc⟩ := h3 hn
  exact ⟨a, rfl, Nat.lt_of_lt_of_le hb x.1, fun j u hu => x.cell (hc j u hu) (by rw [add_block]; exact hr _ rfl)⟩

theorem own_turned {w w' : World} {B e k n : Nat} {row : Option Nat} {v : Value} {xs : List Value} (h : w.ownsRow B e k v n xs) (x : w.grownBy w' row) (hr : ∀ r, row = some r → ∃ o : Obj, w.heap[r]? = some o ∧ o.isCells = false) : w'.ownsRow B e k v n xs := by
  refine ⟨h.1, ?_⟩
  rcases h.2 with hn | ⟨g, cap, cur, rfl, hb, hg, hrest⟩
  · exact .inl hn
  · refine .inr ⟨g, cap, cur, rfl, hb, ?_, hrest⟩
    rw [x.block g (Array.getElem?_eq_some_iff.1 hg).1 (fun e => by
      obtain ⟨o, ho, hc⟩ := hr g e.symm
      rw [hg] at ho
      injection ho with ho
      subst ho
      cases hc)]
    exact hg
/-- append onto a row of the call's own, as one step of a region that draws. -/
theorem step_app_own {P : Program} {ops : Array Oper} {o : Oper} {a : Act} {w : World} {K : Act → World → Prop} {Q : Exit → Act → World → Prop} {E : Prop} (hgd : o.guard = none) (s x : Operand) (t : TypeId)
    (ho : o.op = .call { callee := .builtin .append, args := #[s, x], argTypes := #[t, t] })
    (base : Nat) (e : TypeId) (i : TypeInfo) (z : Value) (size bytes : Nat) (ht : P.underlying t = some (.slice e)) (hi : P.info? e = some i) (hz : i.zero = some z)
    (hsize : i.size = size) (hby : i.bytes = bytes) (hzs : z.cells.size = size) (hsz : 0 < size)
    (v : Value) (n : Nat) (xs : List Value) (hs : a.eval s = v) (hown : w.ownsRow base e size v n xs)
    (ad : Addr) (m c : Nat) (news : List Value) (hx : a.eval x = .slice (some ad) m c) (hl : news.length = m * size) (hnews : ∀ j u, news[j]? = some u → w.cell? (ad.add j) = some u) (h1 : ∀ u ∈ news, u.oneCell' = true)
    (h63 : n + m ≤ maxLen) (hbytes : (n + m) * bytes ≤ 140737488355328) (hbase : base ≤ w.heap.size)
    (h : ∀ v' w', w'.ownsRow base e size v' (n + m) (xs ++ news) → w.grownBy w' v.ownBlock → (v'.ownBlock = v.ownBlock ∨ v'.ownBlock = some w.heap.size) → K (a.put o.dst v') w') :
    if Region.wanted o (yielded ops a.tmps) = true then Oper.wp P o a w K Q else E := by
  have hw : Region.wanted o (yielded ops a.tmps) = true := by simp [Region.wanted, hgd]
  rw [if_pos hw]
  obtain ⟨v', w', hr, h2, h3, h4, h5⟩ := run_append_own_at (P := P) w base t o.type e i z size bytes ht hi hz hsize hby hzs hsz v n xs hown ad m c news hl hnews h1 h63 hbytes hbase
  unfold Oper.wp execOp
  simp only [ho, resolve, invoke, builtin, Sem.run_bind, Sem.run_pure, Result.andThen_ok, List.map_toArray, List.map_cons, List.map_nil, hs, hx, hr]
  exact h v' w' h2 h3 h5

theorem own_shape {w : World} {B e k n : Nat} {v : Value} {xs : List Value} (h : w.ownsRow B e k v n xs) : ∃ A c, v = .slice A n c ∧ n ≤ c ∧ c ≤ 9223372036854775807 := by
  rcases h.2 with ⟨rfl, h0⟩ | ⟨g, cap, cur, rfl, _, _, hc, hm, _⟩
  · subst h0; exact ⟨none, 0, rfl, Nat.le_refl _, by omega⟩
  · unfold maxLen at hm; exact ⟨_, cap, rfl, hc, by omega⟩

theorem own_heap {w W : World} {B e k n : Nat} {v : Value} {xs : List Value} (h : w.ownsRow B e k v n xs) (hW : W.heap = w.heap) : W.ownsRow B e k v n xs := by
  refine ⟨h.1, ?_⟩
  rw [hW]
  exact h.2
theorem cell_three_new (w : World) (x y z : Value) (t : TypeId) : ∀ j u, [x, y, z][j]? = some u → (w.alloc (.cells #[x, y, z] t)).cell? ((⟨w.heap.size, 0, none⟩ : Addr).add j) = some u := by
  intro j u hu
  have hadd : (⟨w.heap.size, 0, none⟩ : Addr).add j = ⟨w.heap.size, j, none⟩ := by unfold Addr.add; split <;> simp_all
  rw [hadd, cell_of_row _ w.heap.size j _ t (0, 0) (heap_alloc_new w _), ← Array.getElem?_toList]
  exact hu
theorem own_ne {w : World} {B B' e e' k k' n n' : Nat} {v v' : Value} {xs xs' : List Value} (h : w.ownsRow B e k v n xs) (h' : w.ownsRow B' e' k' v' n' xs') (he : e ≠ e') : v.ownBlock = none ∨ v.ownBlock ≠ v'.ownBlock := by
  rcases h.2 with ⟨rfl, _⟩ | ⟨g, cap, cur, rfl, _, hg, _⟩
  · exact .inl rfl
  · refine .inr fun e1 => ?_
    rcases h'.2 with ⟨rfl, _⟩ | ⟨g', cap', cur', rfl, _, hg', _⟩
    · cases e1
    · simp [Value.ownBlock] at e1
      subst e1
      rw [hg] at hg'
      injection hg' with hg'
      injection hg' with _ h2
      exact he h2
theorem own_emptyT (W : World) (B : Nat) (e : TypeId) (k : Nat) (h : B ≤ W.heap.size) : (W.alloc (.cells #[] e)).ownsRow B e k (.slice (some ⟨W.heap.size, 0, none⟩) 0 0) 0 [] :=
  ⟨by simp, .inr ⟨W.heap.size, 0, #[], rfl, h, heap_alloc_new W _, Nat.le_refl _, by simp [maxLen], by simp, by simp⟩⟩
/-- append of a row of the call's own to an empty one: the row may be nil. -/
theorem wpList_append_twoR {P : Program} {w : World} {ops : Array Oper} {rest : List Oper} {o : Oper} {a : Act} {Q : Exit → Act → World → Prop} (hgd : o.guard = none) (s x : Operand) (t : TypeId)
    (ho : o.op = .call { callee := .builtin .append, args := #[s, x], argTypes := #[t, t] })
    (base : Nat) (e : TypeId) (i : TypeInfo) (z : Value) (size bytes : Nat) (ht : P.underlying t = some (.slice e)) (hi : P.info? e = some i) (hz : i.zero = some z)
    (hsize : i.size = size) (hby : i.bytes = bytes) (hzs : z.cells.size = size) (hsz : 0 < size)
    (v : Value) (hs : a.eval s = v) (hown : w.ownsRow base e size v 0 [])
    (vx : Value) (m : Nat) (news : List Value) (hx : a.eval x = vx) (hown2 : (vx = .slice none 0 0 ∧ m = 0 ∧ news = []) ∨ ∃ ad c, vx = .slice (some ad) m c ∧ news.length = m * size ∧ ∀ j u, news[j]? = some u → w.cell? (ad.add j) = some u) (h1 : ∀ u ∈ news, u.oneCell' = true)
    (h63 : m ≤ maxLen) (hbytes : m * bytes ≤ 140737488355328) (hbase : base ≤ w.heap.size)
    (h : ∀ v' w', w'.ownsRow base e size v' m news → w.grownBy w' v.ownBlock → wpList P ops Q rest (a.put o.dst v') w') :
    wpList P ops Q (o :: rest) a w := by
  rcases hown2 with ⟨rfl, rfl, rfl⟩ | ⟨ad, c, rfl, hl, hc⟩
  · exact wpList_append_own_none hgd s x t ho base e i size ht hi v 0 [] hs hown hx (h v w hown (World.grownBy.refl _ _))
  · refine wpList_append_own_at w hgd s x t ho base e i z size bytes ht hi hz hsize hby hzs hsz v 0 [] hs hown ad m c news hx hl hc h1 (by omega) (by rw [Nat.zero_add]; exact hbytes) hbase ?_
    intro v' w' k1 k2 _ _
    rw [Nat.zero_add, List.nil_append] at k1
    exact h v' w' k1 k2
end Go.Proofs.Ytffioglbgnbieaa
