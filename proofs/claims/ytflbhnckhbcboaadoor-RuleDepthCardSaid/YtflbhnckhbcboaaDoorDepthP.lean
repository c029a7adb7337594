/- A chain of queues: plain words. -/
import Derived.Test.YtflbhnckhbcboaaDoorCheck
namespace Go.Proofs.YtflbhnckhbcboaaDoor

def rq : Nat → Tx
  | 0 => sRoot
  | k + 1 => rq k ++ [46, 113]
def chainQ (gap : Nat) : Nat → List QD
  | 0 => []
  | k + 1 => if k ≠ gap ∨ k = 0 then chainQ gap k ++ [⟨rq k, [(10000, 10000)], 1⟩] else chainQ gap k
def wantD (n gap : Nat) : Int := if (0 < gap ∧ gap < n - 1) ∨ (4 < n ∧ gap ≠ 4) then 12 else 0
theorem depth_all : ∀ n, n < 6 → ∀ gap, gap < 6 → 1 ≤ n → checkC [[]] (chainQ gap n) = wantD n gap := by decide +kernel
theorem rq_len : ∀ n, (rq n).length = 4 + 2 * n
  | 0 => rfl
  | n + 1 => by rw [rq, List.length_append, rq_len n]; simp; omega
theorem chain_len (gap : Nat) : ∀ n, (chainQ gap n).length ≤ n
  | 0 => Nat.le_refl _
  | n + 1 => by
    have := chain_len gap n
    rw [chainQ]
    split
    · simp; omega
    · omega
theorem chain_mem (gap : Nat) : ∀ n, ∀ q ∈ chainQ gap n, q.path.length ≤ 4 + 2 * n ∧ q.caps.length = 1
  | 0, q, h => by cases h
  | n + 1, q, h => by
    rw [chainQ] at h
    split at h
    · rcases List.mem_append.1 h with h | h
      · have := chain_mem gap n q h; omega
      · simp at h
        subst h
        have := rq_len n
        simp only
        exact ⟨by omega, rfl⟩
    · have := chain_mem gap n q h; omega
end Go.Proofs.YtflbhnckhbcboaaDoor
