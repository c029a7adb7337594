/- dispatchref1: order, load, Order: contracts. -/
import Derived.Test.YtkmhbjeacoeomaaRefC
namespace Go.Proofs.Ytkmhbjeacoeomaa
open Go.RowKit

theorem cmp_split (X Y : Int) : cmpI X Y = if X / 1125899906842624 < Y / 1125899906842624 ∨ X / 1125899906842624 = Y / 1125899906842624 ∧ X % 1125899906842624 < Y % 1125899906842624 then -1 else if X / 1125899906842624 = Y / 1125899906842624 ∧ X % 1125899906842624 = Y % 1125899906842624 then 0 else 1 := by
  unfold cmpI
  by_cases h : X < Y
  · rw [if_pos h, if_pos (by omega)]
  · by_cases g : Y < X
    · rw [if_neg h, if_pos g, if_neg (by omega), if_neg (by omega)]
    · rw [if_neg h, if_neg g, if_neg (by omega), if_pos (by omega)]

/-- The reference's order where neither bottom is nought. -/
def hiI (X : Int) : Int := X / 1125899906842624
def loI (X : Int) : Int := X % 1125899906842624

theorem cmp_lt {X Y : Int} (h : hiI X < hiI Y) : cmpI X Y = -1 := by
  unfold hiI at h; unfold cmpI; rw [if_pos (by omega)]
theorem cmp_lt2 {X Y : Int} (h : hiI X = hiI Y) (g : loI X < loI Y) : cmpI X Y = -1 := by
  unfold hiI at h; unfold loI at g; unfold cmpI; rw [if_pos (by omega)]
theorem cmp_eq {X Y : Int} (h : hiI X = hiI Y) (g : loI X = loI Y) : cmpI X Y = 0 := by
  unfold hiI at h; unfold loI at g; unfold cmpI; rw [if_neg (by omega), if_neg (by omega)]
theorem cmp_gt {X Y : Int} (h : hiI Y < hiI X) : cmpI X Y = 1 := by
  unfold hiI at h; unfold cmpI; rw [if_neg (by omega), if_pos (by omega)]
theorem cmp_gt2 {X Y : Int} (h : hiI X = hiI Y) (g : loI Y < loI X) : cmpI X Y = 1 := by
  unfold hiI at h; unfold loI at g; unfold cmpI; rw [if_neg (by omega), if_pos (by omega)]

theorem bd0 : Bd 0 := ⟨by decide, by decide⟩
theorem bd1 : Bd 1 := ⟨by decide, by decide⟩

theorem wide_hl (a b : Int) (w : World) (ha : Bd a) (hb : Bd b) :
    Calls Try.prog 46 #[.int .i64 a, .int .i64 b] w fun e w' => e = .returned (.tuple #[.int .i64 (hiI (a * b)), .int .i64 (loI (a * b))]) ∧ w = w' := wide_any a b w ha hb

set_option maxHeartbeats 1000000 in
theorem rorder_nz00 (x p y q : Int) (w : World) (hx : Bd x) (hp : Bd p) (nx : x ≠ 0) (np : p ≠ 0) (hy : Bd y) (hq : Bd q) (ny : y ≠ 0) (nq : q ≠ 0) :
    Calls Try.prog 38 #[.agg #[.int .i64 x, .int .i64 p], .agg #[.int .i64 y, .int .i64 q]] w fun e w' => e = .returned (.int .i64 (cmpI (x * q) (y * p))) ∧ Below w.heap.size w w' := by
  have ex : (x == 0) = false := by simpa using nx
  have ep : (p == 0) = false := by simpa using np
  have ey : (y == 0) = false := by simpa using ny
  have eq' : (q == 0) = false := by simpa using nq
  rcases Int.lt_trichotomy (hiI (x * q)) (hiI (y * p)) with h | h | h
  · rw [cmp_lt h]
    go_enter Try.func38, Try.ntmps38
    go_wp2_with fail
    (with_reducible refine (wide_hl _ _ _ hx hq).mono ?_); rintro e w1 ⟨rfl, rfl⟩
    go_wp2_with fail
    (with_reducible refine (wide_hl _ _ _ hy hp).mono ?_); rintro e w1 ⟨rfl, rfl⟩
    go_wp2
    go_ret
    exact ⟨rfl, by go_grown⟩
  · rcases Int.lt_trichotomy (loI (x * q)) (loI (y * p)) with g | g | g
    · rw [cmp_lt2 h g]
      go_enter Try.func38, Try.ntmps38
      go_wp2_with fail
      (with_reducible refine (wide_hl _ _ _ hx hq).mono ?_); rintro e w1 ⟨rfl, rfl⟩
      go_wp2_with fail
      (with_reducible refine (wide_hl _ _ _ hy hp).mono ?_); rintro e w1 ⟨rfl, rfl⟩
      go_wp2
      go_ret
      exact ⟨rfl, by go_grown⟩
    · rw [cmp_eq h g]
      go_enter Try.func38, Try.ntmps38
      go_wp2_with fail
      (with_reducible refine (wide_hl _ _ _ hx hq).mono ?_); rintro e w1 ⟨rfl, rfl⟩
      go_wp2_with fail
      (with_reducible refine (wide_hl _ _ _ hy hp).mono ?_); rintro e w1 ⟨rfl, rfl⟩
      go_wp2
      go_ret
      exact ⟨rfl, by go_grown⟩
    · rw [cmp_gt2 h g]
      have n1 : ¬ loI (x * q) < loI (y * p) := by omega
      have n2 : (loI (x * q) == loI (y * p)) = false := by simp; omega
      go_enter Try.func38, Try.ntmps38
      go_wp2_with fail
      (with_reducible refine (wide_hl _ _ _ hx hq).mono ?_); rintro e w1 ⟨rfl, rfl⟩
      go_wp2_with fail
      (with_reducible refine (wide_hl _ _ _ hy hp).mono ?_); rintro e w1 ⟨rfl, rfl⟩
      go_wp2
      go_ret
      exact ⟨rfl, by go_grown⟩
  · rw [cmp_gt h]
    have n1 : ¬ hiI (x * q) < hiI (y * p) := by omega
    have n2 : (hiI (x * q) == hiI (y * p)) = false := by simp; omega
    go_enter Try.func38, Try.ntmps38
    go_wp2_with fail
    (with_reducible refine (wide_hl _ _ _ hx hq).mono ?_); rintro e w1 ⟨rfl, rfl⟩
    go_wp2_with fail
    (with_reducible refine (wide_hl _ _ _ hy hp).mono ?_); rintro e w1 ⟨rfl, rfl⟩
    go_wp2
    go_ret
    exact ⟨rfl, by go_grown⟩

set_option maxHeartbeats 1000000 in
theorem rorder_nz01 (x p q : Int) (w : World) (hx : Bd x) (hp : Bd p) (nx : x ≠ 0) (np : p ≠ 0) :
    Calls Try.prog 38 #[.agg #[.int .i64 x, .int .i64 p], .agg #[.int .i64 0, .int .i64 q]] w fun e w' => e = .returned (.int .i64 (cmpI (x) (0))) ∧ Below w.heap.size w w' := by
  have ex : (x == 0) = false := by simpa using nx
  have ep : (p == 0) = false := by simpa using np
  rcases Int.lt_trichotomy (hiI (x)) (hiI (0)) with h | h | h
  · rw [cmp_lt h]
    go_enter Try.func38, Try.ntmps38
    go_wp2_with fail
    (with_reducible refine (wide_hl _ _ _ hx bd1).mono ?_); rintro e w1 ⟨rfl, rfl⟩
    go_wp2_with fail
    (with_reducible refine (wide_hl _ _ _ bd0 hp).mono ?_); rintro e w1 ⟨rfl, rfl⟩
    go_wp2
    go_ret
    exact ⟨rfl, by go_grown⟩
  · rcases Int.lt_trichotomy (loI (x)) (loI (0)) with g | g | g
    · rw [cmp_lt2 h g]
      go_enter Try.func38, Try.ntmps38
      go_wp2_with fail
      (with_reducible refine (wide_hl _ _ _ hx bd1).mono ?_); rintro e w1 ⟨rfl, rfl⟩
      go_wp2_with fail
      (with_reducible refine (wide_hl _ _ _ bd0 hp).mono ?_); rintro e w1 ⟨rfl, rfl⟩
      go_wp2
      go_ret
      exact ⟨rfl, by go_grown⟩
    · rw [cmp_eq h g]
      go_enter Try.func38, Try.ntmps38
      go_wp2_with fail
      (with_reducible refine (wide_hl _ _ _ hx bd1).mono ?_); rintro e w1 ⟨rfl, rfl⟩
      go_wp2_with fail
      (with_reducible refine (wide_hl _ _ _ bd0 hp).mono ?_); rintro e w1 ⟨rfl, rfl⟩
      go_wp2
      go_ret
      exact ⟨rfl, by go_grown⟩
    · rw [cmp_gt2 h g]
      have n1 : ¬ loI (x) < loI (0) := by omega
      have n2 : (loI (x) == loI (0)) = false := by simp; omega
      go_enter Try.func38, Try.ntmps38
      go_wp2_with fail
      (with_reducible refine (wide_hl _ _ _ hx bd1).mono ?_); rintro e w1 ⟨rfl, rfl⟩
      go_wp2_with fail
      (with_reducible refine (wide_hl _ _ _ bd0 hp).mono ?_); rintro e w1 ⟨rfl, rfl⟩
      go_wp2
      go_ret
      exact ⟨rfl, by go_grown⟩
  · rw [cmp_gt h]
    have n1 : ¬ hiI (x) < hiI (0) := by omega
    have n2 : (hiI (x) == hiI (0)) = false := by simp; omega
    go_enter Try.func38, Try.ntmps38
    go_wp2_with fail
    (with_reducible refine (wide_hl _ _ _ hx bd1).mono ?_); rintro e w1 ⟨rfl, rfl⟩
    go_wp2_with fail
    (with_reducible refine (wide_hl _ _ _ bd0 hp).mono ?_); rintro e w1 ⟨rfl, rfl⟩
    go_wp2
    go_ret
    exact ⟨rfl, by go_grown⟩

set_option maxHeartbeats 1000000 in
theorem rorder_nz10 (p y q : Int) (w : World) (hy : Bd y) (hq : Bd q) (ny : y ≠ 0) (nq : q ≠ 0) :
    Calls Try.prog 38 #[.agg #[.int .i64 0, .int .i64 p], .agg #[.int .i64 y, .int .i64 q]] w fun e w' => e = .returned (.int .i64 (cmpI (0) (y))) ∧ Below w.heap.size w w' := by
  have ey : (y == 0) = false := by simpa using ny
  have eq' : (q == 0) = false := by simpa using nq
  rcases Int.lt_trichotomy (hiI (0)) (hiI (y)) with h | h | h
  · rw [cmp_lt h]
    go_enter Try.func38, Try.ntmps38
    go_wp2_with fail
    (with_reducible refine (wide_hl _ _ _ bd0 hq).mono ?_); rintro e w1 ⟨rfl, rfl⟩
    go_wp2_with fail
    (with_reducible refine (wide_hl _ _ _ hy bd1).mono ?_); rintro e w1 ⟨rfl, rfl⟩
    go_wp2
    go_ret
    exact ⟨rfl, by go_grown⟩
  · rcases Int.lt_trichotomy (loI (0)) (loI (y)) with g | g | g
    · rw [cmp_lt2 h g]
      go_enter Try.func38, Try.ntmps38
      go_wp2_with fail
      (with_reducible refine (wide_hl _ _ _ bd0 hq).mono ?_); rintro e w1 ⟨rfl, rfl⟩
      go_wp2_with fail
      (with_reducible refine (wide_hl _ _ _ hy bd1).mono ?_); rintro e w1 ⟨rfl, rfl⟩
      go_wp2
      go_ret
      exact ⟨rfl, by go_grown⟩
    · rw [cmp_eq h g]
      go_enter Try.func38, Try.ntmps38
      go_wp2_with fail
      (with_reducible refine (wide_hl _ _ _ bd0 hq).mono ?_); rintro e w1 ⟨rfl, rfl⟩
      go_wp2_with fail
      (with_reducible refine (wide_hl _ _ _ hy bd1).mono ?_); rintro e w1 ⟨rfl, rfl⟩
      go_wp2
      go_ret
      exact ⟨rfl, by go_grown⟩
    · rw [cmp_gt2 h g]
      have n1 : ¬ loI (0) < loI (y) := by omega
      have n2 : (loI (0) == loI (y)) = false := by simp; omega
      go_enter Try.func38, Try.ntmps38
      go_wp2_with fail
      (with_reducible refine (wide_hl _ _ _ bd0 hq).mono ?_); rintro e w1 ⟨rfl, rfl⟩
      go_wp2_with fail
      (with_reducible refine (wide_hl _ _ _ hy bd1).mono ?_); rintro e w1 ⟨rfl, rfl⟩
      go_wp2
      go_ret
      exact ⟨rfl, by go_grown⟩
  · rw [cmp_gt h]
    have n1 : ¬ hiI (0) < hiI (y) := by omega
    have n2 : (hiI (0) == hiI (y)) = false := by simp; omega
    go_enter Try.func38, Try.ntmps38
    go_wp2_with fail
    (with_reducible refine (wide_hl _ _ _ bd0 hq).mono ?_); rintro e w1 ⟨rfl, rfl⟩
    go_wp2_with fail
    (with_reducible refine (wide_hl _ _ _ hy bd1).mono ?_); rintro e w1 ⟨rfl, rfl⟩
    go_wp2
    go_ret
    exact ⟨rfl, by go_grown⟩

set_option maxHeartbeats 1000000 in
theorem rorder_nz11 (p q : Int) (w : World) :
    Calls Try.prog 38 #[.agg #[.int .i64 0, .int .i64 p], .agg #[.int .i64 0, .int .i64 q]] w fun e w' => e = .returned (.int .i64 (cmpI (0) (0))) ∧ Below w.heap.size w w' := by
  rw [show cmpI 0 0 = 0 from rfl]
  go_enter Try.func38, Try.ntmps38
  go_wp2_with fail
  (with_reducible refine (wide_hl _ _ _ bd0 bd1).mono ?_); rintro e w1 ⟨rfl, rfl⟩
  go_wp2_with fail
  (with_reducible refine (wide_hl _ _ _ bd0 bd1).mono ?_); rintro e w1 ⟨rfl, rfl⟩
  go_wp2
  go_ret
  exact ⟨rfl, by go_grown⟩

theorem cmpI_self (x : Int) : cmpI x x = 0 := by simp [cmpI]

set_option maxHeartbeats 1000000 in
/-- A bottom of nought under a top that is none: more than any number. -/
theorem rorder_inf (x y q : Int) (w : World) (hx : Bd x) (hy : Bd y) (hq : Bd q) (nx : x ≠ 0) :
    Calls Try.prog 38 #[.agg #[.int .i64 x, .int .i64 0], .agg #[.int .i64 y, .int .i64 q]] w fun e w' => e = .returned (.int .i64 (cmpI (x * nrm y q) (y * 0))) ∧ Below w.heap.size w w' := by
  have ex : (x == 0) = false := by simpa using nx
  by_cases zy : y = 0
  · subst zy
    have e : cmpI (x * nrm 0 q) (0 * 0) = 1 := by
      have := hx.1
      rw [show nrm 0 q = 1 from rfl]; unfold cmpI; rw [if_neg (by omega), if_pos (by omega)]
    rw [e]
    go_enter Try.func38, Try.ntmps38
    go_wp2
    go_ret
    exact ⟨rfl, by go_grown⟩
  · have ey : (y == 0) = false := by simpa using zy
    rw [show nrm y q = q from by simp [nrm, zy]]
    by_cases zq : q = 0
    · subst zq
      rw [show cmpI (x * 0) (y * 0) = 0 from by simp [cmpI]]
      go_enter Try.func38, Try.ntmps38
      go_wp2
      go_ret
      exact ⟨rfl, by go_grown⟩
    · have eq' : (q == 0) = false := by simpa using zq
      have e : cmpI (x * q) (y * 0) = 1 := by
        have h1 := hx.1; have h2 := hq.1
        have : 0 < x * q := Int.mul_pos (by omega) (by omega)
        unfold cmpI; rw [if_neg (by omega), if_pos (by omega)]
      rw [e]; clear e
      go_enter Try.func38, Try.ntmps38
      go_wp2
      go_ret
      exact ⟨rfl, by go_grown⟩

set_option maxHeartbeats 1000000 in
theorem rorder_inf2 (x p y : Int) (w : World) (hx : Bd x) (hp : Bd p) (hy : Bd y) (ny : y ≠ 0) (np : nrm x p ≠ 0) :
    Calls Try.prog 38 #[.agg #[.int .i64 x, .int .i64 p], .agg #[.int .i64 y, .int .i64 0]] w fun e w' => e = .returned (.int .i64 (cmpI (x * 0) (y * nrm x p))) ∧ Below w.heap.size w w' := by
  have ey : (y == 0) = false := by simpa using ny
  by_cases zx : x = 0
  · subst zx
    have e : cmpI (0 * 0) (y * nrm 0 p) = -1 := by
      have := hy.1
      rw [show nrm 0 p = 1 from rfl]; unfold cmpI; rw [if_pos (by omega)]
    rw [e]
    go_enter Try.func38, Try.ntmps38
    go_wp2
    go_ret
    exact ⟨rfl, by go_grown⟩
  · have ex : (x == 0) = false := by simpa using zx
    rw [show nrm x p = p from by simp [nrm, zx]] at np ⊢
    have ep : (p == 0) = false := by simpa using np
    have e : cmpI (x * 0) (y * p) = -1 := by
      have h1 := hy.1; have h2 := hp.1
      have : 0 < y * p := Int.mul_pos (by omega) (by omega)
      unfold cmpI; rw [if_pos (by omega)]
    rw [e]; clear e
    go_enter Try.func38, Try.ntmps38
    go_wp2
    go_ret
    exact ⟨rfl, by go_grown⟩

theorem rorder_any (x p y q : Int) (w : World) (hx : Bd x) (hp : Bd p) (hy : Bd y) (hq : Bd q) :
    Calls Try.prog 38 #[.agg #[.int .i64 x, .int .i64 p], .agg #[.int .i64 y, .int .i64 q]] w fun e w' => e = .returned (.int .i64 (ordI x p y q)) ∧ Below w.heap.size w w' := by
  unfold ordI
  by_cases np : nrm x p = 0
  · have nx : x ≠ 0 := by intro h; subst h; simp [nrm] at np
    have zp : p = 0 := by simpa [nrm, nx] using np
    subst zp
    rw [show nrm x 0 = 0 from np]
    exact rorder_inf x y q w hx hy hq nx
  · by_cases nq : nrm y q = 0
    · have ny : y ≠ 0 := by intro h; subst h; simp [nrm] at nq
      have zq : q = 0 := by simpa [nrm, ny] using nq
      subst zq
      rw [show nrm y 0 = 0 from nq]
      exact rorder_inf2 x p y w hx hp hy ny np
    · by_cases zx : x = 0
      · subst zx
        by_cases zy : y = 0
        · subst zy
          simpa [nrm] using rorder_nz11 p q w
        · have hq' : q ≠ 0 := by simpa [nrm, zy] using nq
          simpa [nrm, zy] using rorder_nz10 p y q w hy hq zy hq'
      · have hp' : p ≠ 0 := by simpa [nrm, zx] using np
        by_cases zy : y = 0
        · subst zy
          simpa [nrm, zx] using rorder_nz01 x p q w hx hp zx hp'
        · have hq' : q ≠ 0 := by simpa [nrm, zy] using nq
          simpa [nrm, zx, zy] using rorder_nz00 x p y q w hx hp zx hp' hy hq zy hq'

end Go.Proofs.Ytkmhbjeacoeomaa
