/- dispatchlaw5.within. -/
import Derived.Test.YtigfoghkndoakaaDoorRdK
namespace Go.Proofs.YtigfoghkndoakaaDoor
open Go.RowKit

theorem within_any (a n : Int) (w : World) (hn : 0 < n ∧ n ≤ 1125899906842625) :
    Calls Tryd.prog 9 #[.int .i64 a, .int .i64 n] w fun e w' => e = .returned (.int .i64 (a % n)) ∧ w = w' := by
  obtain ⟨n0, n1⟩ := hn
  have hz : (n == 0) = false := by simp; omega
  have l1 : a.tmod n < n := Int.tmod_lt_of_pos a n0
  have l2 : -n < a.tmod n := by have := Int.lt_tmod_of_pos a n0; omega
  by_cases hneg : a.tmod n < 0
  · rw [emod_neg n0 hneg]
    go_enter Tryd.func9, Tryd.ntmps9
    go_wp2
    go_ret
    exact ⟨rfl, rfl⟩
  · rw [emod_pos n0 hneg]
    go_enter Tryd.func9, Tryd.ntmps9
    go_wp2
    go_ret
    exact ⟨rfl, rfl⟩
theorem within_some (a : Int) (n : Nat) (m : Int) (w : World) (hm : m = (n : Int)) (hn : 0 < n ∧ n ≤ 1125899906842625) :
    Calls Tryd.prog 9 #[.int .i64 a, .int .i64 m] w fun e w' => ∃ y : Nat, e = .returned (.int .i64 (y : Int)) ∧ y < n ∧ w = w' := by
  subst hm
  refine (within_any a n w ⟨by omega, by omega⟩).mono ?_
  rintro e w' ⟨rfl, rfl⟩
  have h0 := Int.emod_nonneg a (show (n : Int) ≠ 0 by omega)
  have h1 := Int.emod_lt_of_pos a (show (0 : Int) < n by omega)
  refine ⟨(a % (n : Int)).toNat, ?_, by omega, rfl⟩
  rw [show (((a % (n : Int)).toNat : Nat) : Int) = a % (n : Int) from by omega]
end Go.Proofs.YtigfoghkndoakaaDoor
