/- dispatchlaw5.Make: plain words; raw ones in memory. -/
import Derived.Test.YtigfoghkndoakaaDoorMakeP
import Derived.Test.YtigfoghkndoakaaDoorOpenS
namespace Go.Proofs.YtigfoghkndoakaaDoor
open Go.RowKit

def nameT : Nat → Tx
  | 0 => [97]
  | 1 => [98]
  | 2 => [99, 45, 49]
  | _ => [57]
def rootQ : Tx := [114, 111, 111, 116]
def pathM (l : List Int) : Tx := l.foldl (fun p n => p ++ 46 :: nameT (n % 4).toNat) rootQ
theorem pathM_snoc (l : List Int) (n : Int) : pathM (l ++ [n]) = pathM l ++ 46 :: nameT (n % 4).toNat := by simp [pathM]
theorem nameT_len (n : Nat) : (nameT n).length ≤ 3 := by unfold nameT; split <;> decide
theorem pathF_len : ∀ (l : List Int) (p : Tx), (l.foldl (fun p n => p ++ 46 :: nameT (n % 4).toNat) p).length ≤ p.length + 4 * l.length
  | [], p => by simp
  | n :: l, p => by
    rw [List.foldl_cons]
    have h := pathF_len l (p ++ 46 :: nameT (n % 4).toNat)
    have := nameT_len (n % 4).toNat
    simp at h ⊢
    omega
theorem pathM_len (l : List Int) : (pathM l).length ≤ 4 + 4 * l.length := pathF_len l rootQ
/-- A raw queue. -/
structure RQ where
  nv : Value
  names : List Int
  cv : Value
  n : Nat
  f : Nat → Nat → Int
  user : Int
def capM (q : RQ) (k : Nat) : Int × Int := if k < q.n then (q.f k 0 % 10001, q.f k 1 % 10001) else (10000, 10000)
def qM (nl : Nat) (q : RQ) : QD := ⟨pathM (q.names.take 4), (List.range nl).map (capM q), q.user % 1000000⟩
def makeQ (nl : Nat) (l : List RQ) : List QD := l.foldl (fun ds q => putD (qM nl q) ds) []
theorem makeQ_snoc (nl : Nat) (l : List RQ) (q : RQ) : makeQ nl (l ++ [q]) = putD (qM nl q) (makeQ nl l) := by simp [makeQ]
theorem makeF_len (nl : Nat) : ∀ (l : List RQ) (ds : List QD), (l.foldl (fun ds q => putD (qM nl q) ds) ds).length ≤ ds.length + l.length
  | [], ds => by simp
  | q :: l, ds => by
    rw [List.foldl_cons]
    have h := makeF_len nl l (putD (qM nl q) ds)
    have := putD_len (qM nl q) ds
    simp
    omega
theorem makeQ_len (nl : Nat) (l : List RQ) : (makeQ nl l).length ≤ l.length := by
  have := makeF_len nl l []
  simpa [makeQ] using this
def labsM (nl : Nat) : List Tx := ([[], [103, 112, 117], [115, 115, 100]] : List Tx).take nl

/-- Raw queues in memory. -/
def RdRaw (w : World) (v : Value) (rs : List RQ) : Prop :=
  ∃ A c, v = .slice A rs.length c ∧ rs.length ≤ c ∧ c ≤ maxLen ∧ (0 < rs.length → ∃ a, A = some a ∧ a.block < w.heap.size ∧ ∀ i (h : i < rs.length), w.cell? (a.add (i * 3)) = some rs[i].nv ∧ w.cell? ⟨(a.add (i * 3)).block, (a.add (i * 3)).off + 1, none⟩ = some rs[i].cv ∧ w.cell? ⟨(a.add (i * 3)).block, (a.add (i * 3)).off + 2, none⟩ = some (.int .i64 rs[i].user)) ∧
    ∀ x ∈ rs, Rd w x.nv (x.names.map (Value.int .i64)) ∧ RdS 2 w x.cv x.n x.f
theorem RdS.ext {k n : Nat} {w w' : World} {v : Value} {f : Nat → Nat → Int} (h : RdS k w v n f) (x : Ext w w') : RdS k w' v n f := by
  obtain ⟨A, c, rfl, h1, h2, h3⟩ := h
  refine ⟨A, c, rfl, h1, h2, fun hn => ?_⟩
  obtain ⟨a, rfl, hb, hc⟩ := h3 hn
  exact ⟨a, rfl, Nat.lt_of_lt_of_le hb x.size, fun i hi j hj => x.cell' (hc i hi j hj)⟩
theorem RdRaw.ext {w w' : World} {v : Value} {rs : List RQ} (h : RdRaw w v rs) (x : Ext w w') : RdRaw w' v rs := by
  obtain ⟨A, c, rfl, h1, h2, h3, h4⟩ := h
  refine ⟨A, c, rfl, h1, h2, fun hn => ?_, fun q hq => ⟨(h4 q hq).1.ext x, (h4 q hq).2.ext x⟩⟩
  obtain ⟨a, rfl, hb, hc⟩ := h3 hn
  refine ⟨a, rfl, Nat.lt_of_lt_of_le hb x.size, fun i hi => ?_⟩
  obtain ⟨c1, c2, c3⟩ := hc i hi
  exact ⟨x.cell' c1, x.cell' c2, x.cell' c3⟩
end Go.Proofs.YtigfoghkndoakaaDoor
