/- dispatchref1: wide: contract. -/
import Derived.Test.YtkmhbjeacoeomaaRefA
import Derived.Test.YtkmhbjeacoeomaaOrdC
namespace Go.Proofs.Ytkmhbjeacoeomaa
open Go.RowKit

theorem and_i64_nat (a b : Nat) (ha : a < 9223372036854775808) (hb : b < 9223372036854775808) :
    bits .and .i64 (a : Int) (b : Int) = ((a &&& b : Nat) : Int) := by
  have hx : a &&& b < 2 ^ 63 := Nat.and_lt_two_pow _ (by omega)
  have h1 : (BitVec.ofInt 64 (a : Int)).toNat = a := by
    rw [BitVec.ofInt_natCast, BitVec.toNat_ofNat]; exact Nat.mod_eq_of_lt (by omega)
  have h2 : (BitVec.ofInt 64 (b : Int)).toNat = b := by
    rw [BitVec.ofInt_natCast, BitVec.toNat_ofNat]; exact Nat.mod_eq_of_lt (by omega)
  show IntKind.i64.wrap ((BitVec.ofInt 64 (a : Int) &&& BitVec.ofInt 64 (b : Int)).toNat : Int) = _
  rw [BitVec.toNat_and, h1, h2]
  exact IntWalk.i64_in _ (by omega)

theorem and25 {n : Int} (h0 : 0 ≤ n) (h1 : n < 9223372036854775808) : bits .and .i64 n 33554431 = n % 33554432 := by
  obtain ⟨m, rfl⟩ := Int.eq_ofNat_of_zero_le h0
  have h := and_i64_nat m 33554431 (by omega) (by omega)
  rw [show m &&& 33554431 = m % 33554432 from Nat.and_two_pow_sub_one_eq_mod m 25] at h
  exact h.trans (by omega)

theorem and50 {n : Int} (h0 : 0 ≤ n) (h1 : n < 9223372036854775808) : bits .and .i64 n 1125899906842623 = n % 1125899906842624 := by
  obtain ⟨m, rfl⟩ := Int.eq_ofNat_of_zero_le h0
  have h := and_i64_nat m 1125899906842623 (by omega) (by omega)
  rw [show m &&& 1125899906842623 = m % 1125899906842624 from Nat.and_two_pow_sub_one_eq_mod m 50] at h
  exact h.trans (by omega)

def wMid (a b : Int) : Int := a / 33554432 * (b % 33554432) + a % 33554432 * (b / 33554432)
def wLow (a b : Int) : Int := a % 33554432 * (b % 33554432) + wMid a b % 33554432 * 33554432
def wHigh (a b : Int) : Int := a / 33554432 * (b / 33554432) + wMid a b / 33554432 + wLow a b / 1125899906842624

theorem mul_bd {x y c d : Int} (hx : 0 ≤ x ∧ x ≤ c) (hy : 0 ≤ y ∧ y ≤ d) : 0 ≤ x * y ∧ x * y ≤ c * d :=
  ⟨Int.mul_nonneg hx.1 hy.1, Int.le_trans (Int.mul_le_mul_of_nonneg_right hx.2 hy.1) (Int.mul_le_mul_of_nonneg_left hy.2 (Int.le_trans hx.1 hx.2))⟩

theorem w_parts {a b : Int} (ha : Bd a) (hb : Bd b) :
    (0 ≤ a / 33554432 * (b / 33554432) ∧ a / 33554432 * (b / 33554432) ≤ 1125899906842624) ∧ (0 ≤ a / 33554432 * (b % 33554432) ∧ a / 33554432 * (b % 33554432) ≤ 1125899906842624) ∧
    (0 ≤ a % 33554432 * (b / 33554432) ∧ a % 33554432 * (b / 33554432) ≤ 1125899906842624) ∧ (0 ≤ a % 33554432 * (b % 33554432) ∧ a % 33554432 * (b % 33554432) ≤ 1125899906842624) := by
  obtain ⟨a0, a1⟩ := ha
  obtain ⟨b0, b1⟩ := hb
  have q1 : 0 ≤ a / 33554432 ∧ a / 33554432 ≤ 33554432 := by omega
  have q2 : 0 ≤ b / 33554432 ∧ b / 33554432 ≤ 33554432 := by omega
  have r1 : 0 ≤ a % 33554432 ∧ a % 33554432 ≤ 33554432 := by omega
  have r2 : 0 ≤ b % 33554432 ∧ b % 33554432 ≤ 33554432 := by omega
  exact ⟨mul_bd q1 q2, mul_bd q1 r2, mul_bd r1 q2, mul_bd r1 r2⟩

theorem w_eq (a b : Int) : a * b = (a / 33554432 * (b / 33554432)) * 1125899906842624 + wMid a b * 33554432 + a % 33554432 * (b % 33554432) := by
  have h1 := Int.mul_ediv_add_emod a 33554432
  have h2 := Int.mul_ediv_add_emod b 33554432
  unfold wMid
  generalize a / 33554432 = x at *
  generalize a % 33554432 = y at *
  generalize b / 33554432 = z at *
  generalize b % 33554432 = u at *
  subst h1 h2
  grind

theorem w_split {a b : Int} (ha : Bd a) (hb : Bd b) : a * b / 1125899906842624 = wHigh a b ∧ a * b % 1125899906842624 = wLow a b % 1125899906842624 := by
  have h := w_eq a b
  obtain ⟨p1, p2, p3, p4⟩ := w_parts ha hb
  have hm : 0 ≤ wMid a b := by unfold wMid; omega
  unfold wHigh wLow
  generalize a * b = X at *
  generalize wMid a b = M at *
  generalize a / 33554432 * (b / 33554432) = H at *
  generalize a % 33554432 * (b % 33554432) = L at *
  omega

theorem wide_any (a b : Int) (w : World) (ha : Bd a) (hb : Bd b) :
    Calls Try.prog 46 #[.int .i64 a, .int .i64 b] w fun e w' => e = .returned (.tuple #[.int .i64 (a * b / 1125899906842624), .int .i64 (a * b % 1125899906842624)]) ∧ w = w' := by
  obtain ⟨e1, e2⟩ := w_split ha hb
  rw [e1, e2]; clear e1 e2
  obtain ⟨⟨p0, p1⟩, ⟨p2, p3⟩, ⟨p4, p5⟩, p6, p7⟩ := w_parts ha hb
  obtain ⟨a0, a1⟩ := ha
  obtain ⟨b0, b1⟩ := hb
  have ea : bits .and .i64 a 33554431 = a % 33554432 := and25 a0 (by omega)
  have eb : bits .and .i64 b 33554431 = b % 33554432 := and25 b0 (by omega)
  have em : bits .and .i64 (a / 33554432 * (b % 33554432) + a % 33554432 * (b / 33554432)) 33554431 = (a / 33554432 * (b % 33554432) + a % 33554432 * (b / 33554432)) % 33554432 := and25 (by omega) (by omega)
  have el : bits .and .i64 (a % 33554432 * (b % 33554432) + (a / 33554432 * (b % 33554432) + a % 33554432 * (b / 33554432)) % 33554432 * 33554432) 1125899906842623 = (a % 33554432 * (b % 33554432) + (a / 33554432 * (b % 33554432) + a % 33554432 * (b / 33554432)) % 33554432 * 33554432) % 1125899906842624 := and50 (by omega) (by omega)
  unfold wHigh wLow wMid
  go_enter Try.func46, Try.ntmps46
  go_wp2
  go_ret2
  exact ⟨rfl, rfl⟩

end Go.Proofs.Ytkmhbjeacoeomaa
