/- rvec: Order's leaves: contracts. -/
import Derived.Test.YtlifgdhieelihaaLeafB
import Derived.Test.YtlifgdhieelihaaShelf
namespace Go.Proofs.Ytlifgdhieelihaa
open Go.RowKit

def cmpI (x y : Int) : Int := if x < y then -1 else if y < x then 1 else 0
def nrm (a p : Int) : Int := if a = 0 then 1 else p

theorem isNaN_any (x : Int) (w : World) :
    Calls Try.prog 36 #[.int .u64 x] w fun e w' => e = .returned (.bool false) ∧ w = w' := by
  go_enter Try.func36, Try.ntmps36
  go_wp2
  go_ret
  exact ⟨by simp, rfl⟩

theorem Compare_any (x y : Int) (w : World) :
    Calls Try.prog 35 #[.int .u64 x, .int .u64 y] w fun e w' => e = .returned (.int .i64 (cmpI x y)) ∧ w = w' := by
  by_cases h1 : x < y
  · have hc : cmpI x y = -1 := by simp [cmpI, h1]
    rw [hc]; clear hc
    go_enter Try.func35, Try.ntmps35
    go_wp2_with (go_at_call 36; (with_reducible refine (isNaN_any _ _).mono ?_); rintro e w1 ⟨rfl, rfl⟩)
    go_ret
    exact ⟨rfl, rfl⟩
  · by_cases h2 : y < x
    · have hc : cmpI x y = 1 := by simp [cmpI, h1, h2]
      rw [hc]; clear hc
      go_enter Try.func35, Try.ntmps35
      go_wp2_with (go_at_call 36; (with_reducible refine (isNaN_any _ _).mono ?_); rintro e w1 ⟨rfl, rfl⟩)
      go_ret
      exact ⟨rfl, rfl⟩
    · have hc : cmpI x y = 0 := by simp [cmpI, h1, h2]
      rw [hc]; clear hc
      go_enter Try.func35, Try.ntmps35
      go_wp2_with (go_at_call 36; (with_reducible refine (isNaN_any _ _).mono ?_); rintro e w1 ⟨rfl, rfl⟩)
      go_ret
      exact ⟨rfl, rfl⟩

theorem Mul64_any (x y : Int) (w : World) (hx : 0 ≤ x ∧ x ≤ 1125899906842624) (hy : 0 ≤ y ∧ y ≤ 1125899906842624) :
    Calls Try.prog 33 #[.int .u64 x, .int .u64 y] w fun e w' => e = .returned (.tuple #[.int .u64 (x * y / 18446744073709551616), .int .u64 (x * y % 18446744073709551616)]) ∧ w = w' := by
  obtain ⟨n, rfl⟩ := Int.eq_ofNat_of_zero_le hx.1
  obtain ⟨m, rfl⟩ := Int.eq_ofNat_of_zero_le hy.1
  refine (Try.bits_Mul64 n m (by omega) (by omega) w).mono ?_
  rintro e w' ⟨rfl, rfl⟩
  exact ⟨by simp, rfl⟩

def orI (c0 c1 : Int) : Int := if c0 = 0 then c1 else c0

theorem Or_two (b : Nat) (c0 c1 : Int) (w : World) (h0 : w.cell? ⟨b, 0, none⟩ = some (.int .i64 c0)) (h1 : w.cell? ⟨b, 1, none⟩ = some (.int .i64 c1)) :
    Calls Try.prog 34 #[.slice (some ⟨b, 0, none⟩) 2 2] w fun e w' => e = .returned (.int .i64 (orI c0 c1)) ∧ w = w' := by
  by_cases z0 : c0 = 0
  · subst z0
    rw [show orI 0 c1 = c1 from rfl]
    by_cases z1 : c1 = 0
    · subst z1
      go_enter Try.func34, Try.ntmps34
      go_wp2
      go_rounds 3
      go_ret
      exact ⟨rfl, rfl⟩
    · have z1' : (c1 != 0) = true := by simpa using z1
      go_enter Try.func34, Try.ntmps34
      go_wp2
      go_rounds 3
      go_ret
      exact ⟨rfl, rfl⟩
  · rw [show orI c0 c1 = c0 from if_neg z0]
    have z0' : (c0 != 0) = true := by simpa using z0
    go_enter Try.func34, Try.ntmps34
    go_wp2
    go_rounds 3
    go_ret
    exact ⟨rfl, rfl⟩

theorem ratioOf_exact (a p : Int) (w : World) (ha : 0 ≤ a ∧ a ≤ 1125899906842624) (hp : 0 ≤ p ∧ p ≤ 1125899906842624) :
    Calls Try.prog 32 #[.int .i64 a, .int .i64 p] w fun e w' => e = .returned (.agg #[.int .u64 a, .int .u64 (nrm a p)]) ∧ w.alloc (.cells #[.int .u64 a, .int .u64 (nrm a p)] 51) = w' := by
  obtain ⟨a0, a1⟩ := ha
  obtain ⟨p0, p1⟩ := hp
  by_cases z : a = 0
  · subst z
    rw [show nrm 0 p = 1 from rfl]
    go_enter Try.func32, Try.ntmps32
    go_wp2
    go_returns
    exact ⟨rfl, rfl⟩
  · rw [show nrm a p = p from by simp [nrm, z]]
    have z' : (a == 0) = false := by simpa using z
    have wa : IntKind.u64.wrap a = a := IntWalk.u64_in _ (by omega)
    have wp : IntKind.u64.wrap p = p := IntWalk.u64_in _ (by omega)
    go_enter Try.func32, Try.ntmps32
    go_wp2
    go_returns
    exact ⟨rfl, rfl⟩

theorem ratioOf_any (a p : Int) (w : World) (ha : 0 ≤ a ∧ a ≤ 1125899906842624) (hp : 0 ≤ p ∧ p ≤ 1125899906842624) :
    Calls Try.prog 32 #[.int .i64 a, .int .i64 p] w fun e w' => e = .returned (.agg #[.int .u64 a, .int .u64 (nrm a p)]) ∧ Below w.heap.size w w' :=
  (ratioOf_exact a p w ha hp).mono fun _ _ ⟨he, hw⟩ => ⟨he, by rw [← hw]; exact (Below.refl _ _).alloc (Nat.le_refl _) _⟩

end Go.Proofs.Ytlifgdhieelihaa
