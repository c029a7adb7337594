/- copy between slices of elements of K cells; slice expressions of them. -/
import Derived.Test.YtffioglbgnbieaaSub
import Derived.Laws.CopyOwn
namespace Go.Proofs.Ytffioglbgnbieaa
open Go.RowKit

section
variable {P : Program}
theorem run_copyK (w : World) (dT sT ty elem : TypeId) (K g o dLen dCap m : Nat) (a : Addr) (sLen sCap : Nat) (cur : Array Value) (t : TypeId) (cs : List Value)
    (hu : P.underlying dT = some (.slice elem)) (hs : (P.info? elem).map (·.size) = some K)
    (hg : w.heap[g]? = some (.cells cur t (0, 0))) (hm : Nat.min sLen dLen = m) (hn : cs.length = m * K)
    (hsrc : ∀ j v, cs[j]? = some v → w.cell? (a.add j) = some v) (hfit : o + cs.length ≤ cur.size) (h1 : ∀ v ∈ cs, v.oneCell' = true) :
    (Builtin.copy_ #[dT, sT] ty #[.slice (some ⟨g, o, none⟩) dLen dCap, .slice (some a) sLen sCap]).run P w =
      .ok (goInt m) (w.setRow g (cur.toList.take o ++ cs ++ cur.toList.drop (o + cs.length)).toArray) := by
  have hl := run_loadCells_list (P := P) w a cs hsrc
  have hst := run_storeCells_at P g o t cs 0 cur w hg (by simpa using hfit) h1
  rw [hn] at hl
  cases hq : P.info? elem with
  | none => simp [hq] at hs
  | some i =>
    have hi : i.size = K := by simpa [hq] using hs
    simp [Builtin.copy_, run_underlying hu, Builtin.lenOf, Builtin.firstCells, sizeOf, typeInfo, hq, hi, hm, hl, hst]
theorem run_copyK_none (w : World) (dT sT ty elem : TypeId) (K : Nat) (d a : Option Addr) (dLen dCap sLen sCap : Nat) (hu : P.underlying dT = some (.slice elem)) (hs : (P.info? elem).map (·.size) = some K) (hn : Nat.min sLen dLen = 0) :
    (Builtin.copy_ #[dT, sT] ty #[.slice d dLen dCap, .slice a sLen sCap]).run P w = .ok (goInt 0) w := by
  cases hq : P.info? elem with
  | none => simp [hq] at hs
  | some i =>
    have hl : ∀ (x : Addr), (loadCells x 0).run P w = .ok #[] w := fun x => by simpa using run_loadCells_list (P := P) w x [] (by simp)
    cases d <;> cases a <;> simp [Builtin.copy_, run_underlying hu, Builtin.lenOf, Builtin.firstCells, sizeOf, typeInfo, hq, hn, storeCells, hl]

theorem wpList_copyK {w : World} {ops : Array Oper} {rest : List Oper} {o : Oper} {a : Act} {Q : Exit → Act → World → Prop} (hgd : o.guard = none) (d s : Operand) (dT sT : TypeId)
    (ho : o.op = .call { callee := .builtin .copy, args := #[d, s], argTypes := #[dT, sT] }) (elem : TypeId) (K : Nat) (hu : P.underlying dT = some (.slice elem)) (hsz : (P.info? elem).map (·.size) = some K)
    (dp sp : Option Addr) (dLen dCap sLen sCap m : Nat) (hd : a.eval d = .slice dp dLen dCap) (hs : a.eval s = .slice sp sLen sCap)
    (g off : Nat) (cur : List Value) (t : TypeId) (hg : w.heap[g]? = some (.cells cur.toArray t (0, 0))) (cs : List Value) (hm : Nat.min sLen dLen = m) (hn : cs.length = m * K)
    (hpos : 0 < m → dp = some ⟨g, off, none⟩ ∧ ∃ ad, sp = some ad ∧ ∀ j v, cs[j]? = some v → w.cell? (ad.add j) = some v)
    (hfit : off + cs.length ≤ cur.length) (h1 : ∀ v ∈ cs, v.oneCell' = true) (B : Nat) (w0 : World) (hb : Below B w0 w) (hBg : B ≤ g)
    (h : ∀ w', Hid (w'.heap[g]? = some (.cells (splice cur off cs).toArray t (0, 0))) → Below B w0 w' → w.grownBy w' (some g) → wpList P ops Q rest (a.put o.dst (goInt m)) w') :
    wpList P ops Q (o :: rest) a w := by
  refine wpList_plain hgd fun X hX => ?_
  by_cases h0 : m = 0
  · subst h0
    have hc : cs = [] := List.eq_nil_of_length_eq_zero (by simpa using hn)
    subst hc
    have hrun := run_copyK_none (P := P) w dT sT o.type elem K dp sp dLen dCap sLen sCap hu hsz hm
    unfold Oper.wp
    simp [execOp, ho, resolve, invoke, builtin, hd, hs, hrun, Result.andThen]
    refine hX _ _ (h w (show _ = _ by simpa [splice] using hg) hb (World.grownBy.refl w _))
  · obtain ⟨rfl, ad, rfl, hsrc⟩ := hpos (by omega)
    have hrun := run_copyK (P := P) w dT sT o.type elem K g off dLen dCap m ad sLen sCap cur.toArray t cs hu hsz hg hm hn hsrc (by simpa using hfit) h1
    unfold Oper.wp
    simp [execOp, ho, resolve, invoke, builtin, hd, hs, hrun, Result.andThen]
    refine hX _ _ (h _ (show _ = _ by simpa [splice] using setRow_heap w g _ _ t _ hg) (below_setRow hb hBg _) ⟨rfl, rfl, rfl, by simp [World.setRow], fun k _ hk => setRow_other w g k _ (fun e => hk (by rw [e]))⟩)

/-- The address of what stands behind the first l elements of K cells of a slice of capacity c. -/
def subK (K : Nat) (A : Option Addr) (l c : Nat) : Option Addr := if c = l then A else A.map (·.add (l * K))
theorem size_elemK {T e : TypeId} {i : TypeInfo} {K : Nat} (hT : P.underlying T = some (.slice e)) (hi : P.info? e = some i) (h1 : i.size = K) (w : World) : P.elem T = e ∧ (sizeOf (P.elem T)).run P w = .ok K w := by
  have he : P.elem T = e := by unfold Program.elem; simp [hT]
  refine ⟨he, ?_⟩
  rw [he]
  simp [sizeOf, typeInfo, hi, h1]
theorem slK_h {T e : TypeId} {A : Option Addr} {n c K : Nat} {i : TypeInfo} (hT : P.underlying T = some (.slice e)) (hi : P.info? e = some i) (h1 : i.size = K) {h : Nat} (hh : h ≤ c) (w : World) (kh : IntKind) :
    (Instr.slice T (.slice A n c) none (some (.int kh (h : Int))) none).run P w = .ok (.slice (subK K A 0 c) h c) w := by
  obtain ⟨he, hs⟩ := size_elemK hT hi h1 w
  rw [run_slice_h w T A n c (by rw [he]; exact hT) kh h (by omega) (by omega), hs]
  simp [Result.andThen, sliced, subK]
theorem slK_l {T e : TypeId} {A : Option Addr} {n c K : Nat} {i : TypeInfo} (hT : P.underlying T = some (.slice e)) (hi : P.info? e = some i) (h1 : i.size = K) {l : Nat} (hl : l ≤ n) (w : World) (kl : IntKind) :
    (Instr.slice T (.slice A n c) (some (.int kl (l : Int))) none none).run P w = .ok (.slice (subK K A l c) (n - l) (c - l)) w := by
  obtain ⟨he, hs⟩ := size_elemK hT hi h1 w
  rw [run_slice_l w T A n c (by rw [he]; exact hT) kl l (by omega) (by omega), hs]
  simp [Result.andThen, sliced, subK]
theorem subK_head (K g l c : Nat) (h : l < c ∨ l = 0) : subK K (some ⟨g, 0, none⟩) l c = some ⟨g, l * K, none⟩ := by
  unfold subK
  by_cases e : c = l
  · rw [if_pos e]
    rcases h with h | h
    · omega
    · subst h; simp
  · rw [if_neg e]
    simp only [Option.map_some, Addr.add]
    split
    · rename_i h0; rw [h0]
    · simp
theorem head_add (g j : Nat) (s : Nat) : (⟨g, s, none⟩ : Addr).add j = ⟨g, s + j, none⟩ := by unfold Addr.add; split <;> simp_all
end
end Go.Proofs.Ytffioglbgnbieaa
