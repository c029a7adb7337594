/- Slice expressions of a value that reads as a list: one run equation each, the address under one name. -/
import Derived.Test.YtffioglbgnbieaaByt
import Derived.Laws.Slices
namespace Go.Proofs.Ytffioglbgnbieaa
open Go.RowKit

theorem Ext.cell' {a b : World} (h : Ext a b) {p : Addr} {v : Value} (hc : a.cell? p = some v) : b.cell? p = some v := by
  rw [Below.cell h (p := p) (World.block_lt_of_cell? a _ hc)]; exact hc

/-- The address of what stands behind the first l of a slice of capacity c. -/
def subA (A : Option Addr) (l c : Nat) : Option Addr := if c = l then A else A.map (·.add l)

section
variable {P : Program} {T e : TypeId} {A : Option Addr} {n c : Nat}

theorem size_elem {i : TypeInfo} (hT : P.underlying T = some (.slice e)) (hi : P.info? e = some i) (h1 : i.size = 1) (w : World) : P.elem T = e ∧ (sizeOf (P.elem T)).run P w = .ok 1 w := by
  have he : P.elem T = e := by unfold Program.elem; simp [hT]
  refine ⟨he, ?_⟩
  rw [he]
  simp [sizeOf, typeInfo, hi, h1]

theorem sl_lh {i : TypeInfo} (hT : P.underlying T = some (.slice e)) (hi : P.info? e = some i) (h1 : i.size = 1) {l h : Nat} (hl : l ≤ h) (hh : h ≤ c) (w : World) (kl kh : IntKind) :
    (Instr.slice T (.slice A n c) (some (.int kl (l : Int))) (some (.int kh (h : Int))) none).run P w = .ok (.slice (subA A l c) (h - l) (c - l)) w := by
  obtain ⟨he, hs⟩ := size_elem hT hi h1 w
  rw [run_slice_lh w T A n c (by rw [he]; exact hT) kl kh l h (by omega) (by omega) (by omega), hs]
  simp [Result.andThen, sliced, subA]
theorem sl_h {i : TypeInfo} (hT : P.underlying T = some (.slice e)) (hi : P.info? e = some i) (h1 : i.size = 1) {h : Nat} (hh : h ≤ c) (w : World) (kh : IntKind) :
    (Instr.slice T (.slice A n c) none (some (.int kh (h : Int))) none).run P w = .ok (.slice (subA A 0 c) h c) w := by
  obtain ⟨he, hs⟩ := size_elem hT hi h1 w
  rw [run_slice_h w T A n c (by rw [he]; exact hT) kh h (by omega) (by omega), hs]
  simp [Result.andThen, sliced, subA]
theorem sl_l {i : TypeInfo} (hT : P.underlying T = some (.slice e)) (hi : P.info? e = some i) (h1 : i.size = 1) {l : Nat} (hl : l ≤ n) (w : World) (kl : IntKind) :
    (Instr.slice T (.slice A n c) (some (.int kl (l : Int))) none none).run P w = .ok (.slice (subA A l c) (n - l) (c - l)) w := by
  obtain ⟨he, hs⟩ := size_elem hT hi h1 w
  rw [run_slice_l w T A n c (by rw [he]; exact hT) kl l (by omega) (by omega), hs]
  simp [Result.andThen, sliced, subA]
end

theorem subA_block {A : Option Addr} {l c n n' c' c'' : Nat} : (Value.slice (subA A l c) n c').ownBlock = (Value.slice A n' c'').ownBlock := by
  unfold subA
  split
  · cases A <;> rfl
  · cases A with
    | none => rfl
    | some a => simp [Value.ownBlock, add_block]

theorem Rd.sub {w : World} {A : Option Addr} {n c l k : Nat} {xs : List Value} (h : Rd w (.slice A n c) xs) (hk : l + k ≤ n) : Rd w (.slice (subA A l c) k (c - l)) ((xs.drop l).take k) := by
  obtain ⟨A', c', e, h1, h2, h3⟩ := h
  injection e with e1 e2 e3
  subst e1 e3
  have hlen : ((xs.drop l).take k).length = k := by simp; omega
  refine ⟨subA A l c, c - l, by rw [hlen], by rw [hlen]; omega, by omega, fun hn => ?_⟩
  rw [hlen] at hn
  obtain ⟨a', e, hb, hc⟩ := h3 (by omega)
  subst e
  refine ⟨a'.add l, ?_, by rw [add_block]; exact hb, fun j u hu => ?_⟩
  · unfold subA; rw [if_neg (by omega)]; rfl
  · rw [add_add']
    refine hc _ u ?_
    rw [List.getElem?_take] at hu
    split at hu
    · rw [List.getElem?_drop] at hu; exact hu
    · cases hu
theorem Rd.sub0 {w : World} {A : Option Addr} {n c k : Nat} {xs : List Value} (h : Rd w (.slice A n c) xs) (hk : k ≤ n) : Rd w (.slice (subA A 0 c) k c) (xs.take k) := by
  have := h.sub (l := 0) (k := k) (by omega)
  simpa using this
theorem Rd.subl {w : World} {A : Option Addr} {n c l : Nat} {xs : List Value} (h : Rd w (.slice A n c) xs) (hl : l ≤ n) : Rd w (.slice (subA A l c) (n - l) (c - l)) (xs.drop l) := by
  have h0 := h.sub (l := l) (k := n - l) (by omega)
  obtain ⟨A', c', e, _⟩ := h
  injection e with _ e2 _
  rwa [List.take_of_length_le (by simp; omega)] at h0

/-- A slice of bytes, its length under a name of its own. -/
theorem Rd.open {w : World} {v : Value} {l : List UInt8} (h : Rd w v (bvs l)) : ∃ A N c, v = .slice A N c ∧ N = l.length ∧ N ≤ c ∧ c ≤ 9223372036854775807 ∧
    (0 < N → ∃ a, A = some a ∧ a.block < w.heap.size ∧ ∀ k (hk : k < l.length), w.cell? (a.add k) = some (.int .u8 (l[k].toNat : Int))) := by
  obtain ⟨A, c, rfl, h1, h2, h3⟩ := h
  rw [bvs_length] at *
  unfold maxLen at h2
  refine ⟨A, _, c, rfl, rfl, h1, by omega, fun hn => ?_⟩
  obtain ⟨a, rfl, hb, hc⟩ := h3 hn
  exact ⟨a, rfl, hb, fun k hk => hc k (bv l[k]) (by simp [bvs, hk])⟩

theorem ints_open {w : World} {v : Value} {l : List Int} (h : Rd w v (l.map (Value.int .i64))) : ∃ A N c, v = .slice A N c ∧ N = l.length ∧ N ≤ c ∧ c ≤ 9223372036854775807 ∧
    (0 < N → ∃ a, A = some a ∧ a.block < w.heap.size ∧ ∀ k (hk : k < l.length), w.cell? (a.add k) = some (.int .i64 l[k])) := by
  obtain ⟨A, c, rfl, h1, h2, h3⟩ := h
  rw [List.length_map] at *
  unfold maxLen at h2
  refine ⟨A, _, c, rfl, rfl, h1, by omega, fun hn => ?_⟩
  obtain ⟨a, rfl, hb, hc⟩ := h3 hn
  exact ⟨a, rfl, hb, fun k hk => hc k (.int .i64 l[k]) (by simp [hk])⟩

end Go.Proofs.Ytffioglbgnbieaa
