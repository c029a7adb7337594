/- Queues found, their kids: plain words. -/
import Derived.Test.YtigfoghkndoakaaDoorRule
namespace Go.Proofs.YtigfoghkndoakaaDoor

def isKidB (p : Tx) (q : QD) : Bool := decide (p ≠ []) && decide (above q.path = p)
def kidsOf (p : Tx) (l : List QD) : List Tx := (l.filter (isKidB p)).map (·.path)
def idxQ (p : Tx) (l : List QD) : Option Nat := l.findIdx? (fun q => decide (q.path = p))
def leafB (p : Tx) (l : List QD) : Bool := (idxQ p l).isSome && (kidsOf p l).isEmpty
theorem kidsOf_nil (l : List QD) : kidsOf [] l = [] := by
  unfold kidsOf
  have : l.filter (isKidB []) = [] := by
    rw [List.filter_eq_nil_iff]
    intro q _
    simp [isKidB]
  rw [this]; rfl
theorem kids_step {p : Tx} {l : List QD} {k : Nat} (h : k < l.length) : kidsOf p (l.take (k + 1)) = kidsOf p (l.take k) ++ if isKidB p l[k] then [l[k].path] else [] := by
  unfold kidsOf
  rw [List.take_succ_eq_append_getElem h, List.filter_append, List.map_append]
  congr 1
  by_cases hk : isKidB p l[k] = true
  · simp [hk]
  · simp [hk]
theorem kids_len (p : Tx) (l : List QD) : (kidsOf p l).length ≤ l.length := by
  unfold kidsOf
  rw [List.length_map]
  exact List.length_filter_le _ _
theorem kid_yes {p : Tx} {q : QD} (h0 : p ≠ []) (h : above q.path = p) : isKidB p q = true := by simp [isKidB, h0, h]
theorem kid_no {p : Tx} {q : QD} (h : ¬ above q.path = p) : isKidB p q = false := by simp [isKidB, h]
end Go.Proofs.YtigfoghkndoakaaDoor
