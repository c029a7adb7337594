/- Whole blocks behind stores and appends. -/
import Derived.Test.YtffioglbgnbieaaRdG
namespace Go.Proofs.Ytffioglbgnbieaa
open Go.RowKit

theorem bcel {w : World} {b : Nat} {cs : Array Value} {t : TypeId} (h : w.heap[b]? = some (.cells cs t (0, 0))) (j : Nat) (v : Value) (hv : cs[j]? = some v) : w.cell? ⟨b, j, none⟩ = some v := by
  rw [cell_of_row w b j cs t (0, 0) h, hv]
theorem bfre {w : World} {b : Nat} {cs : Array Value} {t : TypeId} (h : w.heap[b]? = some (.cells cs t (0, 0))) (j : Nat) : w.frozen? ⟨b, j, none⟩ = false := by
  simp [World.frozen?, h]
theorem bset {w : World} {b : Nat} {cs : Array Value} {t : TypeId} (h : w.heap[b]? = some (.cells cs t (0, 0))) (j : Nat) (v : Value) : (w.setCell ⟨b, j, none⟩ v).heap[b]? = some (.cells (cs.setIfInBounds j v) t (0, 0)) := by
  rw [heap_setCell_same w b j _ _ _ h]
theorem bgrown (w : World) (R i : Nat) (u : Value) : w.grownBy (w.setCell ⟨R, i, none⟩ u) (some R) :=
  ⟨rfl, rfl, rfl, by simp [World.setCell], fun k _ hk => Below.heap_setCell _ _ _ _ (fun e => hk (by rw [e]))⟩
theorem bapp {w V w5 : World} {row : Option Nat} {Q : Nat} {o : Obj} (hV : Ext w V) (hg : V.grownBy w5 row) (hb : w.heap[Q]? = some o) (hne : row ≠ some Q) : w5.heap[Q]? = some o := by
  have hlt := (Array.getElem?_eq_some_iff.1 hb).1
  rw [hg.block Q (Nat.lt_of_lt_of_le hlt hV.size) (fun e => hne e.symm), hV.block Q hlt]
  exact hb
theorem ext_blk {w w' : World} {Q : Nat} {o : Obj} (x : Ext w w') (h : w.heap[Q]? = some o) : w'.heap[Q]? = some o := (x.block Q (Array.getElem?_eq_some_iff.1 h).1).trans h
theorem alloc_at {w : World} {n : Nat} {o : Obj} (h : w.heap.size = n) : (w.alloc o).heap[n]? = some o := by subst h; exact World.alloc_heap_new w o
/-- append onto a row of the call's own, as one operation. -/
theorem wp_app_own {P : Program} {o : Oper} {a : Act} {w : World} {K : Act → World → Prop} {Q : Exit → Act → World → Prop} (hgd : o.guard = none) (s x : Operand) (t : TypeId)
    (ho : o.op = .call { callee := .builtin .append, args := #[s, x], argTypes := #[t, t] })
    (base : Nat) (e : TypeId) (i : TypeInfo) (z : Value) (size bytes : Nat) (ht : P.underlying t = some (.slice e)) (hi : P.info? e = some i) (hz : i.zero = some z)
    (hsize : i.size = size) (hby : i.bytes = bytes) (hzs : z.cells.size = size) (hsz : 0 < size)
    (v : Value) (n : Nat) (xs : List Value) (hs : a.eval s = v) (hown : w.ownsRow base e size v n xs)
    (ad : Addr) (m c : Nat) (news : List Value) (hx : a.eval x = .slice (some ad) m c) (hl : news.length = m * size) (hnews : ∀ j u, news[j]? = some u → w.cell? (ad.add j) = some u) (h1 : ∀ u ∈ news, u.oneCell' = true)
    (h63 : n + m ≤ maxLen) (hbytes : (n + m) * bytes ≤ 140737488355328) (hbase : base ≤ w.heap.size)
    (h : ∀ v' w', w'.ownsRow base e size v' (n + m) (xs ++ news) → w.grownBy w' v.ownBlock → (v'.ownBlock = v.ownBlock ∨ v'.ownBlock = some w.heap.size) → K (a.put o.dst v') w') :
    Oper.wp P o a w K Q := by
  have hh := step_app_own (P := P) (ops := #[]) (E := False) (Q := Q) hgd s x t ho base e i z size bytes ht hi hz hsize hby hzs hsz v n xs hs hown ad m c news hx hl hnews h1 h63 hbytes hbase h
  rw [if_pos (by simp [Region.wanted, hgd])] at hh
  exact hh
theorem setCell_id {w : World} {g j : Nat} {v : Value} (h : w.cell? ⟨g, j, none⟩ = some v) : w.setCell ⟨g, j, none⟩ v = w := by
  unfold World.setCell
  have he : ∀ f : Obj → Obj, (∀ o, w.heap[g]? = some o → f o = o) → w.heap.modify g f = w.heap := by
    intro f hf
    apply Array.ext_getElem?
    intro i
    rw [Array.getElem?_modify]
    split
    · rename_i e1
      subst e1
      cases ho : w.heap[g]? with
      | none => rfl
      | some o => rw [Option.map_some, hf o ho]
    · rfl
  rw [he]
  intro o ho
  simp only [World.cell?, ho] at h
  cases o with
  | cells c e f =>
    simp only [Option.isSome_none, Bool.false_eq_true, if_false] at h ⊢
    congr 1
    apply Array.ext_getElem?
    intro k
    rw [Array.getElem?_setIfInBounds]
    split
    · rename_i e2
      subst e2
      rw [h]
      have := (Array.getElem?_eq_some_iff.1 h).1
      simp [this]
    · rfl
  | _ => rfl
end Go.Proofs.Ytffioglbgnbieaa
