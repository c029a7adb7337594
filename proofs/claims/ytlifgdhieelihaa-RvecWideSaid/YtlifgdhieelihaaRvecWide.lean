/- The law RvecWide holds at every input: loads that differ by one part of many millions are told apart; such as are the same, multiplied, are not. No condition. -/
import Derived.Test.YtlifgdhieelihaaLaw
import Derived.Test.YtlifgdhieelihaaOwnL
import Derived.Test.YtlifgdhieelihaaOrdC
import Derived.Test.YtlifgdhieelihaaSched2
import Derived.OpenShut
import Derived.ChangeOld
import Derived.ChangeSame
import Derived.JoinedOf
import Derived.JoinedAt
import Derived.RowKit3
import Derived.Lib.SmallJoins
namespace Go.Proofs.Ytlifgdhieelihaa.RvecWide
open Go.ChangeShapes Go.WideShapes Go.ChangeAt Go.RowKit Go.Joins

theorem cmpI_pos {x y : Int} (h : y < x) : cmpI x y = 1 := by unfold cmpI; rw [if_neg (by omega), if_pos h]
theorem cmpI_neg {x y : Int} (h : x < y) : cmpI x y = -1 := by unfold cmpI; rw [if_pos h]
theorem cmpI_eq {x y : Int} (h : x = y) : cmpI x y = 0 := by unfold cmpI; rw [if_neg (by omega), if_neg (by omega)]
theorem nrm_zero (p : Int) : nrm 0 p = 1 := rfl
theorem nrm_of {a p : Int} (h : a ≠ 0) : nrm a p = p := if_neg h
theorem okV_of {a b : Int} (ha : 0 ≤ a ∧ a ≤ 1125899906842624) (hb : 0 ≤ b ∧ b ≤ 1125899906842624) : okV a b = true := by simp [okV, okI]; omega

/-- A load of memory alone. -/
theorem load_m (x p q : Int) (hx : 0 ≤ x) : ldA x 0 p q = x ∧ ldN x 0 p q = nrm x p := by
  have h : ¬ ordI x p 0 q < 0 := by
    unfold ordI
    rw [nrm_zero, Int.zero_mul, Int.mul_one]
    rcases Int.lt_or_eq_of_le hx with h | h
    · rw [cmpI_pos h]; decide
    · rw [cmpI_eq h.symm]; decide
  have hA : ldA x 0 p q = x := if_neg h
  have hP : ldP x 0 p q = p := if_neg h
  exact ⟨hA, by unfold ldN; rw [hA, hP]⟩
/-- A load of cores alone. -/
theorem load_c (x p q : Int) (hx : 0 ≤ x) : ldA 0 x p q = x ∧ ldN 0 x p q = nrm x q := by
  rcases Int.lt_or_eq_of_le hx with h | h
  · have h0 : ordI 0 p x q < 0 := by
      unfold ordI
      rw [nrm_zero, Int.zero_mul, Int.mul_one, cmpI_neg h]; decide
    have hA : ldA 0 x p q = x := if_pos h0
    have hP : ldP 0 x p q = q := if_pos h0
    exact ⟨hA, by unfold ldN; rw [hA, hP]⟩
  · subst h
    have hA : ldA 0 0 p q = 0 := by unfold ldA; split <;> rfl
    exact ⟨hA, by unfold ldN; rw [hA]; rfl⟩

theorem v1 (N : Int) (hN : 2 ≤ N) : cmpI ((N - 1) * nrm (N - 2) N) ((N - 2) * nrm (N - 1) N) = 1 := by
  rw [nrm_of (a := N - 1) (by omega)]
  by_cases h : N - 2 = 0
  · rw [h, nrm_zero, Int.zero_mul, Int.mul_one]; exact cmpI_pos (by omega)
  · rw [nrm_of h]
    refine cmpI_pos ?_
    have : (N - 1) * N = (N - 2) * N + N := by grind
    omega
theorem v2 (N : Int) (hN : 2 ≤ N) : cmpI ((N - 2) * nrm (N - 1) N) ((N - 1) * nrm (N - 2) N) = -1 := by
  rw [nrm_of (a := N - 1) (by omega)]
  by_cases h : N - 2 = 0
  · rw [h, nrm_zero, Int.zero_mul, Int.mul_one]; exact cmpI_neg (by omega)
  · rw [nrm_of h]
    refine cmpI_neg ?_
    have : (N - 1) * N = (N - 2) * N + N := by grind
    omega
theorem v3 (N K : Int) (hN : 2 ≤ N) (hK : 1 ≤ K) : cmpI ((N - 1) * nrm ((N - 1) * K) (N * K)) ((N - 1) * K * nrm (N - 1) N) = 0 := by
  have h1 : (N - 1) * K ≠ 0 := Int.mul_ne_zero (by omega) (by omega)
  rw [nrm_of (a := N - 1) (by omega), nrm_of h1]
  exact cmpI_eq (by grind)
theorem v4 (N K : Int) (hN : 2 ≤ N) (hK : 1 ≤ K) : cmpI ((N - 2) * nrm ((N - 1) * K) (N * K)) ((N - 1) * K * nrm (N - 2) N) = -1 := by
  have h1 : (N - 1) * K ≠ 0 := Int.mul_ne_zero (by omega) (by omega)
  have h2 : 0 < (N - 1) * K := Int.mul_pos (by omega) (by omega)
  rw [nrm_of h1]
  by_cases h : N - 2 = 0
  · rw [h, nrm_zero, Int.zero_mul, Int.mul_one]; exact cmpI_neg h2
  · rw [nrm_of h]
    refine cmpI_neg ?_
    have h3 : 0 < N * K := Int.mul_pos (by omega) (by omega)
    have : (N - 1) * K * N = (N - 2) * (N * K) + N * K := by grind
    omega

theorem bounds (N K : Int) (hN : 2 ≤ N ∧ N ≤ 35184372088833) (hK : 1 ≤ K ∧ K ≤ 30) : (0 ≤ (N - 1) * K ∧ (N - 1) * K ≤ 1125899906842624) ∧ (0 ≤ N * K ∧ N * K ≤ 1125899906842624) := by
  obtain ⟨n0, n1⟩ := hN
  obtain ⟨k0, k1⟩ := hK
  have h1 : 0 ≤ N * K := Int.mul_nonneg (by omega) (by omega)
  have h2 : N * K ≤ 35184372088833 * 30 := Int.mul_le_mul n1 k1 (by omega) (by decide)
  have h3 : (N - 1) * K = N * K - K := by grind
  have h4 : 0 ≤ (N - 1) * K := Int.mul_nonneg (by omega) (by omega)
  omega

theorem oM (a b N q M Q : Int) (ha : 0 ≤ a ∧ a ≤ 1125899906842624) (hb : 0 ≤ b ∧ b ≤ 1125899906842624) (hN : 0 ≤ N ∧ N ≤ 1125899906842624) (hq : 0 ≤ q ∧ q ≤ 1125899906842624) (hM : 0 ≤ M ∧ M ≤ 1125899906842624) (hQ : 0 ≤ Q ∧ Q ≤ 1125899906842624) :
    orderF a 0 N q b 0 M Q = cmpI (a * nrm b M) (b * nrm a N) := by
  simp only [orderF, okV_of ha ⟨Int.le_refl 0, by decide⟩, okV_of hb ⟨Int.le_refl 0, by decide⟩, okV_of hN hq, okV_of hM hQ, if_true, ordV, (load_m a N q ha.1).1, (load_m a N q ha.1).2, (load_m b M Q hb.1).1, (load_m b M Q hb.1).2]
theorem oC (a b N q M Q : Int) (ha : 0 ≤ a ∧ a ≤ 1125899906842624) (hb : 0 ≤ b ∧ b ≤ 1125899906842624) (hN : 0 ≤ N ∧ N ≤ 1125899906842624) (hq : 0 ≤ q ∧ q ≤ 1125899906842624) (hM : 0 ≤ M ∧ M ≤ 1125899906842624) (hQ : 0 ≤ Q ∧ Q ≤ 1125899906842624) :
    orderF 0 a q N 0 b Q M = cmpI (a * nrm b M) (b * nrm a N) := by
  simp only [orderF, okV_of ⟨Int.le_refl 0, by decide⟩ ha, okV_of ⟨Int.le_refl 0, by decide⟩ hb, okV_of hq hN, okV_of hQ hM, if_true, ordV, (load_c a q N ha.1).1, (load_c a q N ha.1).2, (load_c b Q M hb.1).1, (load_c b Q M hb.1).2]

theorem times_is (m c k x y : Int) (w : World) (hx : m * k = x) (hy : c * k = y) (bx : 0 ≤ x ∧ x ≤ 1125899906842624) (by_ : 0 ≤ y ∧ y ≤ 1125899906842624) :
    Calls Try.prog 18 #[.agg #[.int .i64 m, .int .i64 c], .int .i64 k] w fun e w' => e = .returned (.agg #[.int .i64 x, .int .i64 y]) ∧ Below w.heap.size w w' := by
  have := times_any m c k w (by rw [hx]; omega) (by rw [hy]; omega)
  rw [hx, hy] at this
  exact this

set_option maxHeartbeats 16000000 in
theorem walk (n : Int) (_ : (Lit.int .i64 n).wf = true) (k : Int) (_ : (Lit.int .i64 k).wf = true) (cores : Bool) (w : World) :
    Calls Try.prog 6 #[.int .i64 n, .int .i64 k, .bool cores] w fun e w' => e = .returned (.bool true) ∧ Below w.heap.size w w' := by
  obtain ⟨N, hN⟩ : ∃ N, n % 35184372088832 = N := ⟨_, rfl⟩
  obtain ⟨K, hK⟩ : ∃ K, k % 30 = K := ⟨_, rfl⟩
  have dN : 0 ≤ N ∧ N ≤ 35184372088831 := by omega
  have dK : 0 ≤ K ∧ K ≤ 29 := by omega
  obtain ⟨N0, N1⟩ := dN
  obtain ⟨K0, K1⟩ := dK
  have hN := Lib.hid hN
  have hK := Lib.hid hK
  have hb := bounds (2 + N) (1 + K) (by omega) (by omega)
  obtain ⟨⟨b1, b2⟩, b3, b4⟩ := hb
  have W1 := Lib.hid (v1 (2 + N) (by omega)); have W2 := Lib.hid (v2 (2 + N) (by omega)); have W3 := Lib.hid (v3 (2 + N) (1 + K) (by omega) (by omega)); have W4 := Lib.hid (v4 (2 + N) (1 + K) (by omega) (by omega))
  obtain ⟨M, hM⟩ : ∃ M, (2 + N - 1) * (1 + K) = M := ⟨_, rfl⟩
  obtain ⟨Z, hZ⟩ : ∃ Z, (2 + N) * (1 + K) = Z := ⟨_, rfl⟩
  rw [hM] at b1 b2
  rw [hZ] at b3 b4
  have hM := Lib.hid hM
  have hZ := Lib.hid hZ
  cases cores
  · skip
    have T1 := Lib.hid (fun (w : World) => times_is (2 + N - 1) (0) (1 + K) (M) (0) w hM.out (Int.zero_mul _) ⟨by omega, by omega⟩ ⟨by omega, by omega⟩)
    have T2 := Lib.hid (fun (w : World) => times_is (2 + N) (1) (1 + K) (Z) (1 + K) w hZ.out (Int.one_mul _) ⟨by omega, by omega⟩ ⟨by omega, by omega⟩)
    have q1 := Lib.hid (show orderF (2 + N - 1) (0) (2 + N) (1) (2 + N - 2) (0) (2 + N) (1) = 1 by rw [oM (2 + N - 1) (2 + N - 2) (2 + N) (1) (2 + N) (1) ⟨by omega, by omega⟩ ⟨by omega, by omega⟩ ⟨by omega, by omega⟩ ⟨by omega, by omega⟩ ⟨by omega, by omega⟩ ⟨by omega, by omega⟩]; exact W1.out)
    have q2 := Lib.hid (show orderF (2 + N - 2) (0) (2 + N) (1) (2 + N - 1) (0) (2 + N) (1) = -1 by rw [oM (2 + N - 2) (2 + N - 1) (2 + N) (1) (2 + N) (1) ⟨by omega, by omega⟩ ⟨by omega, by omega⟩ ⟨by omega, by omega⟩ ⟨by omega, by omega⟩ ⟨by omega, by omega⟩ ⟨by omega, by omega⟩]; exact W2.out)
    have q3 := Lib.hid (show orderF (2 + N - 1) (0) (2 + N) (1) (M) (0) (Z) (1 + K) = 0 by rw [oM (2 + N - 1) (M) (2 + N) (1) (Z) (1 + K) ⟨by omega, by omega⟩ ⟨by omega, by omega⟩ ⟨by omega, by omega⟩ ⟨by omega, by omega⟩ ⟨by omega, by omega⟩ ⟨by omega, by omega⟩]; rw [← hM.out, ← hZ.out]; exact W3.out)
    have q4 := Lib.hid (show orderF (2 + N - 2) (0) (2 + N) (1) (M) (0) (Z) (1 + K) = -1 by rw [oM (2 + N - 2) (M) (2 + N) (1) (Z) (1 + K) ⟨by omega, by omega⟩ ⟨by omega, by omega⟩ ⟨by omega, by omega⟩ ⟨by omega, by omega⟩ ⟨by omega, by omega⟩ ⟨by omega, by omega⟩]; rw [← hM.out, ← hZ.out]; exact W4.out)
    clear W1 W2 W3 W4
    go_enter Try.func6, Try.ntmps6
    go_wp2_with fail
    refine at_calls (fun W0 hW0 => ?_)
    have hB0 : Below w.heap.size w W0 := by rw [hW0]; first | (with_reducible assumption) | (go_grown; done)
    have H0 : OwnL W0 [] := trivial
    clear hW0
    (with_reducible refine (known_any _).mono ?_)
    rintro e w1 ⟨rfl, hb⟩
    have hF : True := trivial
    have hB := Ext.from hb hB0 hB0.size
    have hs := hB.size
    clear hb H0 hB0
    go_wp2_with fail
    (with_reducible refine (within_any _ _ _ ⟨by decide, by decide⟩).mono ?_)
    rintro e wq ⟨rfl, rfl⟩
    rw [hN.out]
    go_wp2_with fail
    (with_reducible refine (within_any _ _ _ ⟨by decide, by decide⟩).mono ?_)
    rintro e wq ⟨rfl, rfl⟩
    rw [hK.out]
    go_upto_region 10 with fail
    refine at_world (fun W0 hW0 => ?_)
    have hB0 : Below w.heap.size w W0 := by rw [hW0]; first | (with_reducible assumption) | (go_grown; done)
    have H0 : OwnL W0 [(w1.heap.size, [.int .i64 (2 + N - 1), .int .i64 (0)]), (w1.heap.size + 1, [.int .i64 (2 + N), .int .i64 (1)]), (w1.heap.size + 1 + 1, [.int .i64 (2 + N - 2), .int .i64 (0)])] := by
      rw [hW0]; simp only [OwnL, cellsL]
      refine ⟨⟨?_, ?_, ⟨?_, ?_, trivial⟩⟩, ⟨?_, ?_, ⟨?_, ?_, trivial⟩⟩, ⟨?_, ?_, ⟨?_, ?_, trivial⟩⟩, trivial⟩
      all_goals first | (with_reducible assumption) | omega | (simp; omega) | (simp [go_sem]; done) | (simp [go_sem, *]; done) | (intro o; first | (simp [go_sem]; done) | (simp [go_sem, *]; done))
    clear hW0 hF hB hs
    refine wp_region_plan (LBelow W0.heap.size) (LBelow_way _) [.free 0, .free 1, .free 3, .free 4, .free 2, .free 5, .both 6 7, .step 8, .step 9] (by kernel_rfl) (by kernel_rfl) (fun _ _ _ _ _ h => h) ?_
    repeat ((with_reducible refine plan_free ?_ ?_ ?_ ?_ (fun wk k1 => ?_) ?_); rotate_left 2; (rfl); (first | exact want_none rfl | exact want_some rfl rfl rfl rfl); (have hF := OwnL.ext (LBelow.ext k1) H0; simp only [OwnL, cellsL, and_true] at hF; go_simp; first | exact OkX.val | ((with_reducible refine OkX.eqv (OkX.call (T1.out _)) ?_); exact rfl) | ((with_reducible refine OkX.eqv (OkX.call (T2.out _)) ?_); exact rfl)); simp only [Act.put, List.setIfInBounds_toArray, List.set_cons_zero, List.set_cons_succ])
    refine plan_both (fun wa ka => ?_) (fun wa ka => ?_)
    · skip
      have hA := Lib.hid ((Ext.drew W0).trans ka)
      have zA := hA.out.size
      clear ka
      ((with_reducible refine op_of ?_ ?_ ?_ ?_); rotate_left; (rfl); (first | exact want_none rfl | exact want_some rfl rfl rfl rfl))
      go_simp
      refine ⟨(LBelow_way _).ext ((Below.refl _ _).alloc (Nat.le_refl _) _), fun wb kb => ?_⟩
      have hO := Lib.hid (OwnL.ext kb (show OwnL (wa.alloc (.cells #[.int .i64 0, .int .i64 0] 23)) [(wa.heap.size, [.int .i64 0, .int .i64 0])] by simp only [OwnL, cellsL]; refine ⟨⟨?_, ?_, ?_, ?_, trivial⟩, trivial⟩ <;> first | (simp; done) | (simp [go_sem]; done)))
      have hA := Lib.hid ((hA.out.trans ((Below.refl _ _).alloc (Nat.le_refl _) _)).trans kb)
      have zB : wa.heap.size < wb.heap.size := by have := kb.size; simp at this; omega
      clear kb
      ((with_reducible refine op_of ?_ ?_ ?_ ?_); rotate_left; (rfl); (first | exact want_none rfl | exact want_some rfl rfl rfl rfl))
      go_simp
      refine ⟨(LBelow_way _).ext ((Below.refl _ _).alloc (Nat.le_refl _) _), ?_⟩
      try simp only [Act.put, List.setIfInBounds_toArray, List.set_cons_zero, List.set_cons_succ]
      have hX : Ext wb (wb.alloc (.cells #[.int .i64 0, .int .i64 0] 23)) := (Below.refl _ _).alloc (Nat.le_refl _) _
      have hO := Lib.hid (OwnL.ext hX hO.out)
      have hP := Lib.hid (show OwnL (wb.alloc (.cells #[.int .i64 0, .int .i64 0] 23)) [(wb.heap.size, [.int .i64 0, .int .i64 0])] by simp only [OwnL, cellsL]; refine ⟨⟨?_, ?_, ?_, ?_, trivial⟩, trivial⟩ <;> first | (simp; done) | (simp [go_sem]; done))
      have hA := Lib.hid (hA.out.trans hX)
      clear hX
      ((with_reducible refine plan_step ?_ ?_ ?_ (fun wk k1 => ?_)); rotate_left; (rfl); (first | exact want_none rfl | exact want_some rfl rfl rfl rfl))
      have hA := Lib.hid (hA.out.trans k1)
      have hO := Lib.hid (OwnL.ext k1 hO.out)
      have hP := Lib.hid (OwnL.ext k1 hP.out)
      have fO := hO.out; have fP := hP.out; have fB := OwnL.ext hA.out H0
      simp only [OwnL, cellsL, and_true] at fO fP fB
      clear k1
      go_simp
      refine ⟨fun _ => ((Below.refl _ _).setCell (by simp; omega) _).setCell (by simp; omega) _, ?_⟩
      try simp only [Act.put, List.setIfInBounds_toArray, List.set_cons_zero, List.set_cons_succ]
      refine at_P (fun V8 hV8 => ?_)
      have hO8 : OwnL V8 [(wa.heap.size, [.int .i64 (M), .int .i64 (0)])] := by rw [hV8]; simp only [OwnL, cellsL]; refine ⟨⟨?_, ?_, ?_, ?_, trivial⟩, trivial⟩ <;> first | (with_reducible assumption) | (simp; omega) | (simp [go_sem]; done) | (simp [go_sem, *]; done) | (intro o; first | (simp [go_sem]; done) | (simp [go_sem, *]; done))
      have hP8 : OwnL V8 [(wb.heap.size, [.int .i64 0, .int .i64 0])] := by rw [hV8]; simp only [OwnL, cellsL]; refine ⟨⟨?_, ?_, ?_, ?_, trivial⟩, trivial⟩ <;> first | (with_reducible assumption) | (simp; omega) | (simp [go_sem]; done) | (simp [go_sem, *]; done) | (intro o; first | (simp [go_sem]; done) | (simp [go_sem, *]; done))
      have hA8 : Ext W0 V8 := by rw [hV8]; exact (Below.setCell hA.out (by simp; omega) _).setCell (by simp; omega) _
      clear hV8 fO fP fB hO hP hA
      have hO := Lib.hid hO8; have hP := Lib.hid hP8; have hA := Lib.hid hA8; clear hO8 hP8 hA8
      ((with_reducible refine plan_step ?_ ?_ ?_ (fun wk k1 => ?_)); rotate_left; (rfl); (first | exact want_none rfl | exact want_some rfl rfl rfl rfl))
      have hA := Lib.hid (hA.out.trans k1)
      have hO := Lib.hid (OwnL.ext k1 hO.out)
      have hP := Lib.hid (OwnL.ext k1 hP.out)
      have fO := hO.out; have fP := hP.out; have fB := OwnL.ext hA.out H0
      simp only [OwnL, cellsL, and_true] at fO fP fB
      clear k1
      go_simp
      refine ⟨fun _ => ((Below.refl _ _).setCell (by simp; omega) _).setCell (by simp; omega) _, ?_⟩
      try simp only [Act.put, List.setIfInBounds_toArray, List.set_cons_zero, List.set_cons_succ]
      refine at_P (fun V9 hV9 => ?_)
      have hO9 : OwnL V9 [(wa.heap.size, [.int .i64 (M), .int .i64 (0)])] := by rw [hV9]; simp only [OwnL, cellsL]; refine ⟨⟨?_, ?_, ?_, ?_, trivial⟩, trivial⟩ <;> first | (with_reducible assumption) | (simp; omega) | (simp [go_sem]; done) | (simp [go_sem, *]; done) | (intro o; first | (simp [go_sem]; done) | (simp [go_sem, *]; done))
      have hP9 : OwnL V9 [(wb.heap.size, [.int .i64 (Z), .int .i64 (1 + K)])] := by rw [hV9]; simp only [OwnL, cellsL]; refine ⟨⟨?_, ?_, ?_, ?_, trivial⟩, trivial⟩ <;> first | (with_reducible assumption) | (simp; omega) | (simp [go_sem]; done) | (simp [go_sem, *]; done) | (intro o; first | (simp [go_sem]; done) | (simp [go_sem, *]; done))
      have hA9 : Ext W0 V9 := by rw [hV9]; exact (Below.setCell hA.out (by simp; omega) _).setCell (by simp; omega) _
      clear hV9 fO fP fB hO hP hA
      refine plan_done (fun w2 k1 => ?_)
      have hF : OwnL w2 [(w1.heap.size, [.int .i64 (2 + N - 1), .int .i64 (0)]), (w1.heap.size + 1, [.int .i64 (2 + N), .int .i64 (1)]), (w1.heap.size + 1 + 1, [.int .i64 (2 + N - 2), .int .i64 (0)]), (wa.heap.size, [.int .i64 (M), .int .i64 (0)]), (wb.heap.size, [.int .i64 (Z), .int .i64 (1 + K)])] := by
        have f1 := OwnL.ext (hA9.trans k1) H0; have f2 := OwnL.ext k1 hO9; have f3 := OwnL.ext k1 hP9
        simp only [OwnL, and_true] at f1 f2 f3 ⊢
        exact ⟨f1.1, f1.2.1, f1.2.2, f2, f3⟩
      simp only [OwnL, cellsL, and_true] at hF
      have hB := Ext.from (hA9.trans k1) hB0 hB0.size
      have hs := hB.size
      clear hA9 hO9 hP9 k1 H0 hB0
      go_wp2_with fail
      refine at_calls (fun W0 hW0 => ?_)
      have hB0 : Below w.heap.size w W0 := by rw [hW0]; first | (with_reducible assumption) | (go_grown; done)
      have H0 : OwnL W0 [(w1.heap.size, [.int .i64 (2 + N - 1), .int .i64 (0)]), (w1.heap.size + 1, [.int .i64 (2 + N), .int .i64 (1)]), (w1.heap.size + 1 + 1, [.int .i64 (2 + N - 2), .int .i64 (0)]), (wa.heap.size, [.int .i64 (M), .int .i64 (0)]), (wb.heap.size, [.int .i64 (Z), .int .i64 (1 + K)])] := by
        rw [hW0]; simp only [OwnL, cellsL]
        refine ⟨⟨?_, ?_, ⟨?_, ?_, trivial⟩⟩, ⟨?_, ?_, ⟨?_, ?_, trivial⟩⟩, ⟨?_, ?_, ⟨?_, ?_, trivial⟩⟩, ⟨?_, ?_, ⟨?_, ?_, trivial⟩⟩, ⟨?_, ?_, ⟨?_, ?_, trivial⟩⟩, trivial⟩
        all_goals first | (with_reducible assumption) | omega | (simp; omega) | (simp [go_sem]; done) | (simp [go_sem, *]; done) | (intro o; first | (simp [go_sem]; done) | (simp [go_sem, *]; done))
      clear hW0 hF hB hs
      (with_reducible refine (Order_any _ _ _ _ _ _ _ _ _).mono ?_)
      rw [q1.out]
      rintro e w3 ⟨rfl, hb⟩
      have hF := OwnL.ext hb H0
      simp only [OwnL, cellsL, and_true] at hF
      have hB := Ext.from hb hB0 hB0.size
      have hs := hB.size
      clear hb H0 hB0
      go_wp2_with fail
      refine at_calls (fun W0 hW0 => ?_)
      have hB0 : Below w.heap.size w W0 := by rw [hW0]; first | (with_reducible assumption) | (go_grown; done)
      have H0 : OwnL W0 [(w1.heap.size, [.int .i64 (2 + N - 1), .int .i64 (0)]), (w1.heap.size + 1, [.int .i64 (2 + N), .int .i64 (1)]), (w1.heap.size + 1 + 1, [.int .i64 (2 + N - 2), .int .i64 (0)]), (wa.heap.size, [.int .i64 (M), .int .i64 (0)]), (wb.heap.size, [.int .i64 (Z), .int .i64 (1 + K)])] := by
        rw [hW0]; simp only [OwnL, cellsL]
        refine ⟨⟨?_, ?_, ⟨?_, ?_, trivial⟩⟩, ⟨?_, ?_, ⟨?_, ?_, trivial⟩⟩, ⟨?_, ?_, ⟨?_, ?_, trivial⟩⟩, ⟨?_, ?_, ⟨?_, ?_, trivial⟩⟩, ⟨?_, ?_, ⟨?_, ?_, trivial⟩⟩, trivial⟩
        all_goals first | (with_reducible assumption) | omega | (simp; omega) | (simp [go_sem]; done) | (simp [go_sem, *]; done) | (intro o; first | (simp [go_sem]; done) | (simp [go_sem, *]; done))
      clear hW0 hF hB hs
      (with_reducible refine (Order_any _ _ _ _ _ _ _ _ _).mono ?_)
      rw [q2.out]
      rintro e w4 ⟨rfl, hb⟩
      have hF := OwnL.ext hb H0
      simp only [OwnL, cellsL, and_true] at hF
      have hB := Ext.from hb hB0 hB0.size
      have hs := hB.size
      clear hb H0 hB0
      go_wp2_with fail
      refine at_calls (fun W0 hW0 => ?_)
      have hB0 : Below w.heap.size w W0 := by rw [hW0]; first | (with_reducible assumption) | (go_grown; done)
      have H0 : OwnL W0 [(w1.heap.size, [.int .i64 (2 + N - 1), .int .i64 (0)]), (w1.heap.size + 1, [.int .i64 (2 + N), .int .i64 (1)]), (w1.heap.size + 1 + 1, [.int .i64 (2 + N - 2), .int .i64 (0)]), (wa.heap.size, [.int .i64 (M), .int .i64 (0)]), (wb.heap.size, [.int .i64 (Z), .int .i64 (1 + K)])] := by
        rw [hW0]; simp only [OwnL, cellsL]
        refine ⟨⟨?_, ?_, ⟨?_, ?_, trivial⟩⟩, ⟨?_, ?_, ⟨?_, ?_, trivial⟩⟩, ⟨?_, ?_, ⟨?_, ?_, trivial⟩⟩, ⟨?_, ?_, ⟨?_, ?_, trivial⟩⟩, ⟨?_, ?_, ⟨?_, ?_, trivial⟩⟩, trivial⟩
        all_goals first | (with_reducible assumption) | omega | (simp; omega) | (simp [go_sem]; done) | (simp [go_sem, *]; done) | (intro o; first | (simp [go_sem]; done) | (simp [go_sem, *]; done))
      clear hW0 hF hB hs
      (with_reducible refine (Order_any _ _ _ _ _ _ _ _ _).mono ?_)
      rw [q3.out]
      rintro e w5 ⟨rfl, hb⟩
      have hF := OwnL.ext hb H0
      simp only [OwnL, cellsL, and_true] at hF
      have hB := Ext.from hb hB0 hB0.size
      have hs := hB.size
      clear hb H0 hB0
      go_wp2_with fail
      refine at_calls (fun W0 hW0 => ?_)
      have hB0 : Below w.heap.size w W0 := by rw [hW0]; first | (with_reducible assumption) | (go_grown; done)
      have H0 : OwnL W0 [(w1.heap.size, [.int .i64 (2 + N - 1), .int .i64 (0)]), (w1.heap.size + 1, [.int .i64 (2 + N), .int .i64 (1)]), (w1.heap.size + 1 + 1, [.int .i64 (2 + N - 2), .int .i64 (0)]), (wa.heap.size, [.int .i64 (M), .int .i64 (0)]), (wb.heap.size, [.int .i64 (Z), .int .i64 (1 + K)])] := by
        rw [hW0]; simp only [OwnL, cellsL]
        refine ⟨⟨?_, ?_, ⟨?_, ?_, trivial⟩⟩, ⟨?_, ?_, ⟨?_, ?_, trivial⟩⟩, ⟨?_, ?_, ⟨?_, ?_, trivial⟩⟩, ⟨?_, ?_, ⟨?_, ?_, trivial⟩⟩, ⟨?_, ?_, ⟨?_, ?_, trivial⟩⟩, trivial⟩
        all_goals first | (with_reducible assumption) | omega | (simp; omega) | (simp [go_sem]; done) | (simp [go_sem, *]; done) | (intro o; first | (simp [go_sem]; done) | (simp [go_sem, *]; done))
      clear hW0 hF hB hs
      (with_reducible refine (Order_any _ _ _ _ _ _ _ _ _).mono ?_)
      rw [q4.out]
      rintro e w6 ⟨rfl, hb⟩
      have hF := OwnL.ext hb H0
      simp only [OwnL, cellsL, and_true] at hF
      have hB := Ext.from hb hB0 hB0.size
      have hs := hB.size
      clear hb H0 hB0
      go_wp2
      go_ret
      exact ⟨by simp, by go_grown⟩
    · skip
      have hA := Lib.hid ((Ext.drew W0).trans ka)
      have zA := hA.out.size
      clear ka
      ((with_reducible refine op_of ?_ ?_ ?_ ?_); rotate_left; (rfl); (first | exact want_none rfl | exact want_some rfl rfl rfl rfl))
      go_simp
      refine ⟨(LBelow_way _).ext ((Below.refl _ _).alloc (Nat.le_refl _) _), fun wb kb => ?_⟩
      have hO := Lib.hid (OwnL.ext kb (show OwnL (wa.alloc (.cells #[.int .i64 0, .int .i64 0] 23)) [(wa.heap.size, [.int .i64 0, .int .i64 0])] by simp only [OwnL, cellsL]; refine ⟨⟨?_, ?_, ?_, ?_, trivial⟩, trivial⟩ <;> first | (simp; done) | (simp [go_sem]; done)))
      have hA := Lib.hid ((hA.out.trans ((Below.refl _ _).alloc (Nat.le_refl _) _)).trans kb)
      have zB : wa.heap.size < wb.heap.size := by have := kb.size; simp at this; omega
      clear kb
      ((with_reducible refine op_of ?_ ?_ ?_ ?_); rotate_left; (rfl); (first | exact want_none rfl | exact want_some rfl rfl rfl rfl))
      go_simp
      refine ⟨(LBelow_way _).ext ((Below.refl _ _).alloc (Nat.le_refl _) _), ?_⟩
      try simp only [Act.put, List.setIfInBounds_toArray, List.set_cons_zero, List.set_cons_succ]
      have hX : Ext wb (wb.alloc (.cells #[.int .i64 0, .int .i64 0] 23)) := (Below.refl _ _).alloc (Nat.le_refl _) _
      have hO := Lib.hid (OwnL.ext hX hO.out)
      have hP := Lib.hid (show OwnL (wb.alloc (.cells #[.int .i64 0, .int .i64 0] 23)) [(wb.heap.size, [.int .i64 0, .int .i64 0])] by simp only [OwnL, cellsL]; refine ⟨⟨?_, ?_, ?_, ?_, trivial⟩, trivial⟩ <;> first | (simp; done) | (simp [go_sem]; done))
      have hA := Lib.hid (hA.out.trans hX)
      clear hX
      ((with_reducible refine plan_step ?_ ?_ ?_ (fun wk k1 => ?_)); rotate_left; (rfl); (first | exact want_none rfl | exact want_some rfl rfl rfl rfl))
      have hA := Lib.hid (hA.out.trans k1)
      have hO := Lib.hid (OwnL.ext k1 hO.out)
      have hP := Lib.hid (OwnL.ext k1 hP.out)
      have fO := hO.out; have fP := hP.out; have fB := OwnL.ext hA.out H0
      simp only [OwnL, cellsL, and_true] at fO fP fB
      clear k1
      go_simp
      refine ⟨fun _ => ((Below.refl _ _).setCell (by simp; omega) _).setCell (by simp; omega) _, ?_⟩
      try simp only [Act.put, List.setIfInBounds_toArray, List.set_cons_zero, List.set_cons_succ]
      refine at_P (fun V8 hV8 => ?_)
      have hO8 : OwnL V8 [(wa.heap.size, [.int .i64 0, .int .i64 0])] := by rw [hV8]; simp only [OwnL, cellsL]; refine ⟨⟨?_, ?_, ?_, ?_, trivial⟩, trivial⟩ <;> first | (with_reducible assumption) | (simp; omega) | (simp [go_sem]; done) | (simp [go_sem, *]; done) | (intro o; first | (simp [go_sem]; done) | (simp [go_sem, *]; done))
      have hP8 : OwnL V8 [(wb.heap.size, [.int .i64 (M), .int .i64 (0)])] := by rw [hV8]; simp only [OwnL, cellsL]; refine ⟨⟨?_, ?_, ?_, ?_, trivial⟩, trivial⟩ <;> first | (with_reducible assumption) | (simp; omega) | (simp [go_sem]; done) | (simp [go_sem, *]; done) | (intro o; first | (simp [go_sem]; done) | (simp [go_sem, *]; done))
      have hA8 : Ext W0 V8 := by rw [hV8]; exact (Below.setCell hA.out (by simp; omega) _).setCell (by simp; omega) _
      clear hV8 fO fP fB hO hP hA
      have hO := Lib.hid hO8; have hP := Lib.hid hP8; have hA := Lib.hid hA8; clear hO8 hP8 hA8
      ((with_reducible refine plan_step ?_ ?_ ?_ (fun wk k1 => ?_)); rotate_left; (rfl); (first | exact want_none rfl | exact want_some rfl rfl rfl rfl))
      have hA := Lib.hid (hA.out.trans k1)
      have hO := Lib.hid (OwnL.ext k1 hO.out)
      have hP := Lib.hid (OwnL.ext k1 hP.out)
      have fO := hO.out; have fP := hP.out; have fB := OwnL.ext hA.out H0
      simp only [OwnL, cellsL, and_true] at fO fP fB
      clear k1
      go_simp
      refine ⟨fun _ => ((Below.refl _ _).setCell (by simp; omega) _).setCell (by simp; omega) _, ?_⟩
      try simp only [Act.put, List.setIfInBounds_toArray, List.set_cons_zero, List.set_cons_succ]
      refine at_P (fun V9 hV9 => ?_)
      have hO9 : OwnL V9 [(wa.heap.size, [.int .i64 (Z), .int .i64 (1 + K)])] := by rw [hV9]; simp only [OwnL, cellsL]; refine ⟨⟨?_, ?_, ?_, ?_, trivial⟩, trivial⟩ <;> first | (with_reducible assumption) | (simp; omega) | (simp [go_sem]; done) | (simp [go_sem, *]; done) | (intro o; first | (simp [go_sem]; done) | (simp [go_sem, *]; done))
      have hP9 : OwnL V9 [(wb.heap.size, [.int .i64 (M), .int .i64 (0)])] := by rw [hV9]; simp only [OwnL, cellsL]; refine ⟨⟨?_, ?_, ?_, ?_, trivial⟩, trivial⟩ <;> first | (with_reducible assumption) | (simp; omega) | (simp [go_sem]; done) | (simp [go_sem, *]; done) | (intro o; first | (simp [go_sem]; done) | (simp [go_sem, *]; done))
      have hA9 : Ext W0 V9 := by rw [hV9]; exact (Below.setCell hA.out (by simp; omega) _).setCell (by simp; omega) _
      clear hV9 fO fP fB hO hP hA
      refine plan_done (fun w2 k1 => ?_)
      have hF : OwnL w2 [(w1.heap.size, [.int .i64 (2 + N - 1), .int .i64 (0)]), (w1.heap.size + 1, [.int .i64 (2 + N), .int .i64 (1)]), (w1.heap.size + 1 + 1, [.int .i64 (2 + N - 2), .int .i64 (0)]), (wa.heap.size, [.int .i64 (Z), .int .i64 (1 + K)]), (wb.heap.size, [.int .i64 (M), .int .i64 (0)])] := by
        have f1 := OwnL.ext (hA9.trans k1) H0; have f2 := OwnL.ext k1 hO9; have f3 := OwnL.ext k1 hP9
        simp only [OwnL, and_true] at f1 f2 f3 ⊢
        exact ⟨f1.1, f1.2.1, f1.2.2, f2, f3⟩
      simp only [OwnL, cellsL, and_true] at hF
      have hB := Ext.from (hA9.trans k1) hB0 hB0.size
      have hs := hB.size
      clear hA9 hO9 hP9 k1 H0 hB0
      go_wp2_with fail
      refine at_calls (fun W0 hW0 => ?_)
      have hB0 : Below w.heap.size w W0 := by rw [hW0]; first | (with_reducible assumption) | (go_grown; done)
      have H0 : OwnL W0 [(w1.heap.size, [.int .i64 (2 + N - 1), .int .i64 (0)]), (w1.heap.size + 1, [.int .i64 (2 + N), .int .i64 (1)]), (w1.heap.size + 1 + 1, [.int .i64 (2 + N - 2), .int .i64 (0)]), (wa.heap.size, [.int .i64 (Z), .int .i64 (1 + K)]), (wb.heap.size, [.int .i64 (M), .int .i64 (0)])] := by
        rw [hW0]; simp only [OwnL, cellsL]
        refine ⟨⟨?_, ?_, ⟨?_, ?_, trivial⟩⟩, ⟨?_, ?_, ⟨?_, ?_, trivial⟩⟩, ⟨?_, ?_, ⟨?_, ?_, trivial⟩⟩, ⟨?_, ?_, ⟨?_, ?_, trivial⟩⟩, ⟨?_, ?_, ⟨?_, ?_, trivial⟩⟩, trivial⟩
        all_goals first | (with_reducible assumption) | omega | (simp; omega) | (simp [go_sem]; done) | (simp [go_sem, *]; done) | (intro o; first | (simp [go_sem]; done) | (simp [go_sem, *]; done))
      clear hW0 hF hB hs
      (with_reducible refine (Order_any _ _ _ _ _ _ _ _ _).mono ?_)
      rw [q1.out]
      rintro e w3 ⟨rfl, hb⟩
      have hF := OwnL.ext hb H0
      simp only [OwnL, cellsL, and_true] at hF
      have hB := Ext.from hb hB0 hB0.size
      have hs := hB.size
      clear hb H0 hB0
      go_wp2_with fail
      refine at_calls (fun W0 hW0 => ?_)
      have hB0 : Below w.heap.size w W0 := by rw [hW0]; first | (with_reducible assumption) | (go_grown; done)
      have H0 : OwnL W0 [(w1.heap.size, [.int .i64 (2 + N - 1), .int .i64 (0)]), (w1.heap.size + 1, [.int .i64 (2 + N), .int .i64 (1)]), (w1.heap.size + 1 + 1, [.int .i64 (2 + N - 2), .int .i64 (0)]), (wa.heap.size, [.int .i64 (Z), .int .i64 (1 + K)]), (wb.heap.size, [.int .i64 (M), .int .i64 (0)])] := by
        rw [hW0]; simp only [OwnL, cellsL]
        refine ⟨⟨?_, ?_, ⟨?_, ?_, trivial⟩⟩, ⟨?_, ?_, ⟨?_, ?_, trivial⟩⟩, ⟨?_, ?_, ⟨?_, ?_, trivial⟩⟩, ⟨?_, ?_, ⟨?_, ?_, trivial⟩⟩, ⟨?_, ?_, ⟨?_, ?_, trivial⟩⟩, trivial⟩
        all_goals first | (with_reducible assumption) | omega | (simp; omega) | (simp [go_sem]; done) | (simp [go_sem, *]; done) | (intro o; first | (simp [go_sem]; done) | (simp [go_sem, *]; done))
      clear hW0 hF hB hs
      (with_reducible refine (Order_any _ _ _ _ _ _ _ _ _).mono ?_)
      rw [q2.out]
      rintro e w4 ⟨rfl, hb⟩
      have hF := OwnL.ext hb H0
      simp only [OwnL, cellsL, and_true] at hF
      have hB := Ext.from hb hB0 hB0.size
      have hs := hB.size
      clear hb H0 hB0
      go_wp2_with fail
      refine at_calls (fun W0 hW0 => ?_)
      have hB0 : Below w.heap.size w W0 := by rw [hW0]; first | (with_reducible assumption) | (go_grown; done)
      have H0 : OwnL W0 [(w1.heap.size, [.int .i64 (2 + N - 1), .int .i64 (0)]), (w1.heap.size + 1, [.int .i64 (2 + N), .int .i64 (1)]), (w1.heap.size + 1 + 1, [.int .i64 (2 + N - 2), .int .i64 (0)]), (wa.heap.size, [.int .i64 (Z), .int .i64 (1 + K)]), (wb.heap.size, [.int .i64 (M), .int .i64 (0)])] := by
        rw [hW0]; simp only [OwnL, cellsL]
        refine ⟨⟨?_, ?_, ⟨?_, ?_, trivial⟩⟩, ⟨?_, ?_, ⟨?_, ?_, trivial⟩⟩, ⟨?_, ?_, ⟨?_, ?_, trivial⟩⟩, ⟨?_, ?_, ⟨?_, ?_, trivial⟩⟩, ⟨?_, ?_, ⟨?_, ?_, trivial⟩⟩, trivial⟩
        all_goals first | (with_reducible assumption) | omega | (simp; omega) | (simp [go_sem]; done) | (simp [go_sem, *]; done) | (intro o; first | (simp [go_sem]; done) | (simp [go_sem, *]; done))
      clear hW0 hF hB hs
      (with_reducible refine (Order_any _ _ _ _ _ _ _ _ _).mono ?_)
      rw [q3.out]
      rintro e w5 ⟨rfl, hb⟩
      have hF := OwnL.ext hb H0
      simp only [OwnL, cellsL, and_true] at hF
      have hB := Ext.from hb hB0 hB0.size
      have hs := hB.size
      clear hb H0 hB0
      go_wp2_with fail
      refine at_calls (fun W0 hW0 => ?_)
      have hB0 : Below w.heap.size w W0 := by rw [hW0]; first | (with_reducible assumption) | (go_grown; done)
      have H0 : OwnL W0 [(w1.heap.size, [.int .i64 (2 + N - 1), .int .i64 (0)]), (w1.heap.size + 1, [.int .i64 (2 + N), .int .i64 (1)]), (w1.heap.size + 1 + 1, [.int .i64 (2 + N - 2), .int .i64 (0)]), (wa.heap.size, [.int .i64 (Z), .int .i64 (1 + K)]), (wb.heap.size, [.int .i64 (M), .int .i64 (0)])] := by
        rw [hW0]; simp only [OwnL, cellsL]
        refine ⟨⟨?_, ?_, ⟨?_, ?_, trivial⟩⟩, ⟨?_, ?_, ⟨?_, ?_, trivial⟩⟩, ⟨?_, ?_, ⟨?_, ?_, trivial⟩⟩, ⟨?_, ?_, ⟨?_, ?_, trivial⟩⟩, ⟨?_, ?_, ⟨?_, ?_, trivial⟩⟩, trivial⟩
        all_goals first | (with_reducible assumption) | omega | (simp; omega) | (simp [go_sem]; done) | (simp [go_sem, *]; done) | (intro o; first | (simp [go_sem]; done) | (simp [go_sem, *]; done))
      clear hW0 hF hB hs
      (with_reducible refine (Order_any _ _ _ _ _ _ _ _ _).mono ?_)
      rw [q4.out]
      rintro e w6 ⟨rfl, hb⟩
      have hF := OwnL.ext hb H0
      simp only [OwnL, cellsL, and_true] at hF
      have hB := Ext.from hb hB0 hB0.size
      have hs := hB.size
      clear hb H0 hB0
      go_wp2
      go_ret
      exact ⟨by simp, by go_grown⟩
  · skip
    have T1 := Lib.hid (fun (w : World) => times_is (0) (2 + N - 1) (1 + K) (0) (M) w (Int.zero_mul _) hM.out ⟨by omega, by omega⟩ ⟨by omega, by omega⟩)
    have T2 := Lib.hid (fun (w : World) => times_is (1) (2 + N) (1 + K) (1 + K) (Z) w (Int.one_mul _) hZ.out ⟨by omega, by omega⟩ ⟨by omega, by omega⟩)
    have q1 := Lib.hid (show orderF (0) (2 + N - 1) (1) (2 + N) (0) (2 + N - 2) (1) (2 + N) = 1 by rw [oC (2 + N - 1) (2 + N - 2) (2 + N) (1) (2 + N) (1) ⟨by omega, by omega⟩ ⟨by omega, by omega⟩ ⟨by omega, by omega⟩ ⟨by omega, by omega⟩ ⟨by omega, by omega⟩ ⟨by omega, by omega⟩]; exact W1.out)
    have q2 := Lib.hid (show orderF (0) (2 + N - 2) (1) (2 + N) (0) (2 + N - 1) (1) (2 + N) = -1 by rw [oC (2 + N - 2) (2 + N - 1) (2 + N) (1) (2 + N) (1) ⟨by omega, by omega⟩ ⟨by omega, by omega⟩ ⟨by omega, by omega⟩ ⟨by omega, by omega⟩ ⟨by omega, by omega⟩ ⟨by omega, by omega⟩]; exact W2.out)
    have q3 := Lib.hid (show orderF (0) (2 + N - 1) (1) (2 + N) (0) (M) (1 + K) (Z) = 0 by rw [oC (2 + N - 1) (M) (2 + N) (1) (Z) (1 + K) ⟨by omega, by omega⟩ ⟨by omega, by omega⟩ ⟨by omega, by omega⟩ ⟨by omega, by omega⟩ ⟨by omega, by omega⟩ ⟨by omega, by omega⟩]; rw [← hM.out, ← hZ.out]; exact W3.out)
    have q4 := Lib.hid (show orderF (0) (2 + N - 2) (1) (2 + N) (0) (M) (1 + K) (Z) = -1 by rw [oC (2 + N - 2) (M) (2 + N) (1) (Z) (1 + K) ⟨by omega, by omega⟩ ⟨by omega, by omega⟩ ⟨by omega, by omega⟩ ⟨by omega, by omega⟩ ⟨by omega, by omega⟩ ⟨by omega, by omega⟩]; rw [← hM.out, ← hZ.out]; exact W4.out)
    clear W1 W2 W3 W4
    go_enter Try.func6, Try.ntmps6
    go_wp2_with fail
    refine at_calls (fun W0 hW0 => ?_)
    have hB0 : Below w.heap.size w W0 := by rw [hW0]; first | (with_reducible assumption) | (go_grown; done)
    have H0 : OwnL W0 [] := trivial
    clear hW0
    (with_reducible refine (known_any _).mono ?_)
    rintro e w1 ⟨rfl, hb⟩
    have hF : True := trivial
    have hB := Ext.from hb hB0 hB0.size
    have hs := hB.size
    clear hb H0 hB0
    go_wp2_with fail
    (with_reducible refine (within_any _ _ _ ⟨by decide, by decide⟩).mono ?_)
    rintro e wq ⟨rfl, rfl⟩
    rw [hN.out]
    go_wp2_with fail
    (with_reducible refine (within_any _ _ _ ⟨by decide, by decide⟩).mono ?_)
    rintro e wq ⟨rfl, rfl⟩
    rw [hK.out]
    go_upto_region 10 with fail
    refine at_world (fun W0 hW0 => ?_)
    have hB0 : Below w.heap.size w W0 := by rw [hW0]; first | (with_reducible assumption) | (go_grown; done)
    have H0 : OwnL W0 [(w1.heap.size, [.int .i64 (0), .int .i64 (2 + N - 1)]), (w1.heap.size + 1, [.int .i64 (1), .int .i64 (2 + N)]), (w1.heap.size + 1 + 1, [.int .i64 (0), .int .i64 (2 + N - 2)])] := by
      rw [hW0]; simp only [OwnL, cellsL]
      refine ⟨⟨?_, ?_, ⟨?_, ?_, trivial⟩⟩, ⟨?_, ?_, ⟨?_, ?_, trivial⟩⟩, ⟨?_, ?_, ⟨?_, ?_, trivial⟩⟩, trivial⟩
      all_goals first | (with_reducible assumption) | omega | (simp; omega) | (simp [go_sem]; done) | (simp [go_sem, *]; done) | (intro o; first | (simp [go_sem]; done) | (simp [go_sem, *]; done))
    clear hW0 hF hB hs
    refine wp_region_plan (LBelow W0.heap.size) (LBelow_way _) [.free 0, .free 1, .free 3, .free 4, .free 2, .free 5, .both 6 7, .step 8, .step 9] (by kernel_rfl) (by kernel_rfl) (fun _ _ _ _ _ h => h) ?_
    repeat ((with_reducible refine plan_free ?_ ?_ ?_ ?_ (fun wk k1 => ?_) ?_); rotate_left 2; (rfl); (first | exact want_none rfl | exact want_some rfl rfl rfl rfl); (have hF := OwnL.ext (LBelow.ext k1) H0; simp only [OwnL, cellsL, and_true] at hF; go_simp; first | exact OkX.val | ((with_reducible refine OkX.eqv (OkX.call (T1.out _)) ?_); exact rfl) | ((with_reducible refine OkX.eqv (OkX.call (T2.out _)) ?_); exact rfl)); simp only [Act.put, List.setIfInBounds_toArray, List.set_cons_zero, List.set_cons_succ])
    refine plan_both (fun wa ka => ?_) (fun wa ka => ?_)
    · skip
      have hA := Lib.hid ((Ext.drew W0).trans ka)
      have zA := hA.out.size
      clear ka
      ((with_reducible refine op_of ?_ ?_ ?_ ?_); rotate_left; (rfl); (first | exact want_none rfl | exact want_some rfl rfl rfl rfl))
      go_simp
      refine ⟨(LBelow_way _).ext ((Below.refl _ _).alloc (Nat.le_refl _) _), fun wb kb => ?_⟩
      have hO := Lib.hid (OwnL.ext kb (show OwnL (wa.alloc (.cells #[.int .i64 0, .int .i64 0] 23)) [(wa.heap.size, [.int .i64 0, .int .i64 0])] by simp only [OwnL, cellsL]; refine ⟨⟨?_, ?_, ?_, ?_, trivial⟩, trivial⟩ <;> first | (simp; done) | (simp [go_sem]; done)))
      have hA := Lib.hid ((hA.out.trans ((Below.refl _ _).alloc (Nat.le_refl _) _)).trans kb)
      have zB : wa.heap.size < wb.heap.size := by have := kb.size; simp at this; omega
      clear kb
      ((with_reducible refine op_of ?_ ?_ ?_ ?_); rotate_left; (rfl); (first | exact want_none rfl | exact want_some rfl rfl rfl rfl))
      go_simp
      refine ⟨(LBelow_way _).ext ((Below.refl _ _).alloc (Nat.le_refl _) _), ?_⟩
      try simp only [Act.put, List.setIfInBounds_toArray, List.set_cons_zero, List.set_cons_succ]
      have hX : Ext wb (wb.alloc (.cells #[.int .i64 0, .int .i64 0] 23)) := (Below.refl _ _).alloc (Nat.le_refl _) _
      have hO := Lib.hid (OwnL.ext hX hO.out)
      have hP := Lib.hid (show OwnL (wb.alloc (.cells #[.int .i64 0, .int .i64 0] 23)) [(wb.heap.size, [.int .i64 0, .int .i64 0])] by simp only [OwnL, cellsL]; refine ⟨⟨?_, ?_, ?_, ?_, trivial⟩, trivial⟩ <;> first | (simp; done) | (simp [go_sem]; done))
      have hA := Lib.hid (hA.out.trans hX)
      clear hX
      ((with_reducible refine plan_step ?_ ?_ ?_ (fun wk k1 => ?_)); rotate_left; (rfl); (first | exact want_none rfl | exact want_some rfl rfl rfl rfl))
      have hA := Lib.hid (hA.out.trans k1)
      have hO := Lib.hid (OwnL.ext k1 hO.out)
      have hP := Lib.hid (OwnL.ext k1 hP.out)
      have fO := hO.out; have fP := hP.out; have fB := OwnL.ext hA.out H0
      simp only [OwnL, cellsL, and_true] at fO fP fB
      clear k1
      go_simp
      refine ⟨fun _ => ((Below.refl _ _).setCell (by simp; omega) _).setCell (by simp; omega) _, ?_⟩
      try simp only [Act.put, List.setIfInBounds_toArray, List.set_cons_zero, List.set_cons_succ]
      refine at_P (fun V8 hV8 => ?_)
      have hO8 : OwnL V8 [(wa.heap.size, [.int .i64 (0), .int .i64 (M)])] := by rw [hV8]; simp only [OwnL, cellsL]; refine ⟨⟨?_, ?_, ?_, ?_, trivial⟩, trivial⟩ <;> first | (with_reducible assumption) | (simp; omega) | (simp [go_sem]; done) | (simp [go_sem, *]; done) | (intro o; first | (simp [go_sem]; done) | (simp [go_sem, *]; done))
      have hP8 : OwnL V8 [(wb.heap.size, [.int .i64 0, .int .i64 0])] := by rw [hV8]; simp only [OwnL, cellsL]; refine ⟨⟨?_, ?_, ?_, ?_, trivial⟩, trivial⟩ <;> first | (with_reducible assumption) | (simp; omega) | (simp [go_sem]; done) | (simp [go_sem, *]; done) | (intro o; first | (simp [go_sem]; done) | (simp [go_sem, *]; done))
      have hA8 : Ext W0 V8 := by rw [hV8]; exact (Below.setCell hA.out (by simp; omega) _).setCell (by simp; omega) _
      clear hV8 fO fP fB hO hP hA
      have hO := Lib.hid hO8; have hP := Lib.hid hP8; have hA := Lib.hid hA8; clear hO8 hP8 hA8
      ((with_reducible refine plan_step ?_ ?_ ?_ (fun wk k1 => ?_)); rotate_left; (rfl); (first | exact want_none rfl | exact want_some rfl rfl rfl rfl))
      have hA := Lib.hid (hA.out.trans k1)
      have hO := Lib.hid (OwnL.ext k1 hO.out)
      have hP := Lib.hid (OwnL.ext k1 hP.out)
      have fO := hO.out; have fP := hP.out; have fB := OwnL.ext hA.out H0
      simp only [OwnL, cellsL, and_true] at fO fP fB
      clear k1
      go_simp
      refine ⟨fun _ => ((Below.refl _ _).setCell (by simp; omega) _).setCell (by simp; omega) _, ?_⟩
      try simp only [Act.put, List.setIfInBounds_toArray, List.set_cons_zero, List.set_cons_succ]
      refine at_P (fun V9 hV9 => ?_)
      have hO9 : OwnL V9 [(wa.heap.size, [.int .i64 (0), .int .i64 (M)])] := by rw [hV9]; simp only [OwnL, cellsL]; refine ⟨⟨?_, ?_, ?_, ?_, trivial⟩, trivial⟩ <;> first | (with_reducible assumption) | (simp; omega) | (simp [go_sem]; done) | (simp [go_sem, *]; done) | (intro o; first | (simp [go_sem]; done) | (simp [go_sem, *]; done))
      have hP9 : OwnL V9 [(wb.heap.size, [.int .i64 (1 + K), .int .i64 (Z)])] := by rw [hV9]; simp only [OwnL, cellsL]; refine ⟨⟨?_, ?_, ?_, ?_, trivial⟩, trivial⟩ <;> first | (with_reducible assumption) | (simp; omega) | (simp [go_sem]; done) | (simp [go_sem, *]; done) | (intro o; first | (simp [go_sem]; done) | (simp [go_sem, *]; done))
      have hA9 : Ext W0 V9 := by rw [hV9]; exact (Below.setCell hA.out (by simp; omega) _).setCell (by simp; omega) _
      clear hV9 fO fP fB hO hP hA
      refine plan_done (fun w2 k1 => ?_)
      have hF : OwnL w2 [(w1.heap.size, [.int .i64 (0), .int .i64 (2 + N - 1)]), (w1.heap.size + 1, [.int .i64 (1), .int .i64 (2 + N)]), (w1.heap.size + 1 + 1, [.int .i64 (0), .int .i64 (2 + N - 2)]), (wa.heap.size, [.int .i64 (0), .int .i64 (M)]), (wb.heap.size, [.int .i64 (1 + K), .int .i64 (Z)])] := by
        have f1 := OwnL.ext (hA9.trans k1) H0; have f2 := OwnL.ext k1 hO9; have f3 := OwnL.ext k1 hP9
        simp only [OwnL, and_true] at f1 f2 f3 ⊢
        exact ⟨f1.1, f1.2.1, f1.2.2, f2, f3⟩
      simp only [OwnL, cellsL, and_true] at hF
      have hB := Ext.from (hA9.trans k1) hB0 hB0.size
      have hs := hB.size
      clear hA9 hO9 hP9 k1 H0 hB0
      go_wp2_with fail
      refine at_calls (fun W0 hW0 => ?_)
      have hB0 : Below w.heap.size w W0 := by rw [hW0]; first | (with_reducible assumption) | (go_grown; done)
      have H0 : OwnL W0 [(w1.heap.size, [.int .i64 (0), .int .i64 (2 + N - 1)]), (w1.heap.size + 1, [.int .i64 (1), .int .i64 (2 + N)]), (w1.heap.size + 1 + 1, [.int .i64 (0), .int .i64 (2 + N - 2)]), (wa.heap.size, [.int .i64 (0), .int .i64 (M)]), (wb.heap.size, [.int .i64 (1 + K), .int .i64 (Z)])] := by
        rw [hW0]; simp only [OwnL, cellsL]
        refine ⟨⟨?_, ?_, ⟨?_, ?_, trivial⟩⟩, ⟨?_, ?_, ⟨?_, ?_, trivial⟩⟩, ⟨?_, ?_, ⟨?_, ?_, trivial⟩⟩, ⟨?_, ?_, ⟨?_, ?_, trivial⟩⟩, ⟨?_, ?_, ⟨?_, ?_, trivial⟩⟩, trivial⟩
        all_goals first | (with_reducible assumption) | omega | (simp; omega) | (simp [go_sem]; done) | (simp [go_sem, *]; done) | (intro o; first | (simp [go_sem]; done) | (simp [go_sem, *]; done))
      clear hW0 hF hB hs
      (with_reducible refine (Order_any _ _ _ _ _ _ _ _ _).mono ?_)
      rw [q1.out]
      rintro e w3 ⟨rfl, hb⟩
      have hF := OwnL.ext hb H0
      simp only [OwnL, cellsL, and_true] at hF
      have hB := Ext.from hb hB0 hB0.size
      have hs := hB.size
      clear hb H0 hB0
      go_wp2_with fail
      refine at_calls (fun W0 hW0 => ?_)
      have hB0 : Below w.heap.size w W0 := by rw [hW0]; first | (with_reducible assumption) | (go_grown; done)
      have H0 : OwnL W0 [(w1.heap.size, [.int .i64 (0), .int .i64 (2 + N - 1)]), (w1.heap.size + 1, [.int .i64 (1), .int .i64 (2 + N)]), (w1.heap.size + 1 + 1, [.int .i64 (0), .int .i64 (2 + N - 2)]), (wa.heap.size, [.int .i64 (0), .int .i64 (M)]), (wb.heap.size, [.int .i64 (1 + K), .int .i64 (Z)])] := by
        rw [hW0]; simp only [OwnL, cellsL]
        refine ⟨⟨?_, ?_, ⟨?_, ?_, trivial⟩⟩, ⟨?_, ?_, ⟨?_, ?_, trivial⟩⟩, ⟨?_, ?_, ⟨?_, ?_, trivial⟩⟩, ⟨?_, ?_, ⟨?_, ?_, trivial⟩⟩, ⟨?_, ?_, ⟨?_, ?_, trivial⟩⟩, trivial⟩
        all_goals first | (with_reducible assumption) | omega | (simp; omega) | (simp [go_sem]; done) | (simp [go_sem, *]; done) | (intro o; first | (simp [go_sem]; done) | (simp [go_sem, *]; done))
      clear hW0 hF hB hs
      (with_reducible refine (Order_any _ _ _ _ _ _ _ _ _).mono ?_)
      rw [q2.out]
      rintro e w4 ⟨rfl, hb⟩
      have hF := OwnL.ext hb H0
      simp only [OwnL, cellsL, and_true] at hF
      have hB := Ext.from hb hB0 hB0.size
      have hs := hB.size
      clear hb H0 hB0
      go_wp2_with fail
      refine at_calls (fun W0 hW0 => ?_)
      have hB0 : Below w.heap.size w W0 := by rw [hW0]; first | (with_reducible assumption) | (go_grown; done)
      have H0 : OwnL W0 [(w1.heap.size, [.int .i64 (0), .int .i64 (2 + N - 1)]), (w1.heap.size + 1, [.int .i64 (1), .int .i64 (2 + N)]), (w1.heap.size + 1 + 1, [.int .i64 (0), .int .i64 (2 + N - 2)]), (wa.heap.size, [.int .i64 (0), .int .i64 (M)]), (wb.heap.size, [.int .i64 (1 + K), .int .i64 (Z)])] := by
        rw [hW0]; simp only [OwnL, cellsL]
        refine ⟨⟨?_, ?_, ⟨?_, ?_, trivial⟩⟩, ⟨?_, ?_, ⟨?_, ?_, trivial⟩⟩, ⟨?_, ?_, ⟨?_, ?_, trivial⟩⟩, ⟨?_, ?_, ⟨?_, ?_, trivial⟩⟩, ⟨?_, ?_, ⟨?_, ?_, trivial⟩⟩, trivial⟩
        all_goals first | (with_reducible assumption) | omega | (simp; omega) | (simp [go_sem]; done) | (simp [go_sem, *]; done) | (intro o; first | (simp [go_sem]; done) | (simp [go_sem, *]; done))
      clear hW0 hF hB hs
      (with_reducible refine (Order_any _ _ _ _ _ _ _ _ _).mono ?_)
      rw [q3.out]
      rintro e w5 ⟨rfl, hb⟩
      have hF := OwnL.ext hb H0
      simp only [OwnL, cellsL, and_true] at hF
      have hB := Ext.from hb hB0 hB0.size
      have hs := hB.size
      clear hb H0 hB0
      go_wp2_with fail
      refine at_calls (fun W0 hW0 => ?_)
      have hB0 : Below w.heap.size w W0 := by rw [hW0]; first | (with_reducible assumption) | (go_grown; done)
      have H0 : OwnL W0 [(w1.heap.size, [.int .i64 (0), .int .i64 (2 + N - 1)]), (w1.heap.size + 1, [.int .i64 (1), .int .i64 (2 + N)]), (w1.heap.size + 1 + 1, [.int .i64 (0), .int .i64 (2 + N - 2)]), (wa.heap.size, [.int .i64 (0), .int .i64 (M)]), (wb.heap.size, [.int .i64 (1 + K), .int .i64 (Z)])] := by
        rw [hW0]; simp only [OwnL, cellsL]
        refine ⟨⟨?_, ?_, ⟨?_, ?_, trivial⟩⟩, ⟨?_, ?_, ⟨?_, ?_, trivial⟩⟩, ⟨?_, ?_, ⟨?_, ?_, trivial⟩⟩, ⟨?_, ?_, ⟨?_, ?_, trivial⟩⟩, ⟨?_, ?_, ⟨?_, ?_, trivial⟩⟩, trivial⟩
        all_goals first | (with_reducible assumption) | omega | (simp; omega) | (simp [go_sem]; done) | (simp [go_sem, *]; done) | (intro o; first | (simp [go_sem]; done) | (simp [go_sem, *]; done))
      clear hW0 hF hB hs
      (with_reducible refine (Order_any _ _ _ _ _ _ _ _ _).mono ?_)
      rw [q4.out]
      rintro e w6 ⟨rfl, hb⟩
      have hF := OwnL.ext hb H0
      simp only [OwnL, cellsL, and_true] at hF
      have hB := Ext.from hb hB0 hB0.size
      have hs := hB.size
      clear hb H0 hB0
      go_wp2
      go_ret
      exact ⟨by simp, by go_grown⟩
    · skip
      have hA := Lib.hid ((Ext.drew W0).trans ka)
      have zA := hA.out.size
      clear ka
      ((with_reducible refine op_of ?_ ?_ ?_ ?_); rotate_left; (rfl); (first | exact want_none rfl | exact want_some rfl rfl rfl rfl))
      go_simp
      refine ⟨(LBelow_way _).ext ((Below.refl _ _).alloc (Nat.le_refl _) _), fun wb kb => ?_⟩
      have hO := Lib.hid (OwnL.ext kb (show OwnL (wa.alloc (.cells #[.int .i64 0, .int .i64 0] 23)) [(wa.heap.size, [.int .i64 0, .int .i64 0])] by simp only [OwnL, cellsL]; refine ⟨⟨?_, ?_, ?_, ?_, trivial⟩, trivial⟩ <;> first | (simp; done) | (simp [go_sem]; done)))
      have hA := Lib.hid ((hA.out.trans ((Below.refl _ _).alloc (Nat.le_refl _) _)).trans kb)
      have zB : wa.heap.size < wb.heap.size := by have := kb.size; simp at this; omega
      clear kb
      ((with_reducible refine op_of ?_ ?_ ?_ ?_); rotate_left; (rfl); (first | exact want_none rfl | exact want_some rfl rfl rfl rfl))
      go_simp
      refine ⟨(LBelow_way _).ext ((Below.refl _ _).alloc (Nat.le_refl _) _), ?_⟩
      try simp only [Act.put, List.setIfInBounds_toArray, List.set_cons_zero, List.set_cons_succ]
      have hX : Ext wb (wb.alloc (.cells #[.int .i64 0, .int .i64 0] 23)) := (Below.refl _ _).alloc (Nat.le_refl _) _
      have hO := Lib.hid (OwnL.ext hX hO.out)
      have hP := Lib.hid (show OwnL (wb.alloc (.cells #[.int .i64 0, .int .i64 0] 23)) [(wb.heap.size, [.int .i64 0, .int .i64 0])] by simp only [OwnL, cellsL]; refine ⟨⟨?_, ?_, ?_, ?_, trivial⟩, trivial⟩ <;> first | (simp; done) | (simp [go_sem]; done))
      have hA := Lib.hid (hA.out.trans hX)
      clear hX
      ((with_reducible refine plan_step ?_ ?_ ?_ (fun wk k1 => ?_)); rotate_left; (rfl); (first | exact want_none rfl | exact want_some rfl rfl rfl rfl))
      have hA := Lib.hid (hA.out.trans k1)
      have hO := Lib.hid (OwnL.ext k1 hO.out)
      have hP := Lib.hid (OwnL.ext k1 hP.out)
      have fO := hO.out; have fP := hP.out; have fB := OwnL.ext hA.out H0
      simp only [OwnL, cellsL, and_true] at fO fP fB
      clear k1
      go_simp
      refine ⟨fun _ => ((Below.refl _ _).setCell (by simp; omega) _).setCell (by simp; omega) _, ?_⟩
      try simp only [Act.put, List.setIfInBounds_toArray, List.set_cons_zero, List.set_cons_succ]
      refine at_P (fun V8 hV8 => ?_)
      have hO8 : OwnL V8 [(wa.heap.size, [.int .i64 0, .int .i64 0])] := by rw [hV8]; simp only [OwnL, cellsL]; refine ⟨⟨?_, ?_, ?_, ?_, trivial⟩, trivial⟩ <;> first | (with_reducible assumption) | (simp; omega) | (simp [go_sem]; done) | (simp [go_sem, *]; done) | (intro o; first | (simp [go_sem]; done) | (simp [go_sem, *]; done))
      have hP8 : OwnL V8 [(wb.heap.size, [.int .i64 (0), .int .i64 (M)])] := by rw [hV8]; simp only [OwnL, cellsL]; refine ⟨⟨?_, ?_, ?_, ?_, trivial⟩, trivial⟩ <;> first | (with_reducible assumption) | (simp; omega) | (simp [go_sem]; done) | (simp [go_sem, *]; done) | (intro o; first | (simp [go_sem]; done) | (simp [go_sem, *]; done))
      have hA8 : Ext W0 V8 := by rw [hV8]; exact (Below.setCell hA.out (by simp; omega) _).setCell (by simp; omega) _
      clear hV8 fO fP fB hO hP hA
      have hO := Lib.hid hO8; have hP := Lib.hid hP8; have hA := Lib.hid hA8; clear hO8 hP8 hA8
      ((with_reducible refine plan_step ?_ ?_ ?_ (fun wk k1 => ?_)); rotate_left; (rfl); (first | exact want_none rfl | exact want_some rfl rfl rfl rfl))
      have hA := Lib.hid (hA.out.trans k1)
      have hO := Lib.hid (OwnL.ext k1 hO.out)
      have hP := Lib.hid (OwnL.ext k1 hP.out)
      have fO := hO.out; have fP := hP.out; have fB := OwnL.ext hA.out H0
      simp only [OwnL, cellsL, and_true] at fO fP fB
      clear k1
      go_simp
      refine ⟨fun _ => ((Below.refl _ _).setCell (by simp; omega) _).setCell (by simp; omega) _, ?_⟩
      try simp only [Act.put, List.setIfInBounds_toArray, List.set_cons_zero, List.set_cons_succ]
      refine at_P (fun V9 hV9 => ?_)
      have hO9 : OwnL V9 [(wa.heap.size, [.int .i64 (1 + K), .int .i64 (Z)])] := by rw [hV9]; simp only [OwnL, cellsL]; refine ⟨⟨?_, ?_, ?_, ?_, trivial⟩, trivial⟩ <;> first | (with_reducible assumption) | (simp; omega) | (simp [go_sem]; done) | (simp [go_sem, *]; done) | (intro o; first | (simp [go_sem]; done) | (simp [go_sem, *]; done))
      have hP9 : OwnL V9 [(wb.heap.size, [.int .i64 (0), .int .i64 (M)])] := by rw [hV9]; simp only [OwnL, cellsL]; refine ⟨⟨?_, ?_, ?_, ?_, trivial⟩, trivial⟩ <;> first | (with_reducible assumption) | (simp; omega) | (simp [go_sem]; done) | (simp [go_sem, *]; done) | (intro o; first | (simp [go_sem]; done) | (simp [go_sem, *]; done))
      have hA9 : Ext W0 V9 := by rw [hV9]; exact (Below.setCell hA.out (by simp; omega) _).setCell (by simp; omega) _
      clear hV9 fO fP fB hO hP hA
      refine plan_done (fun w2 k1 => ?_)
      have hF : OwnL w2 [(w1.heap.size, [.int .i64 (0), .int .i64 (2 + N - 1)]), (w1.heap.size + 1, [.int .i64 (1), .int .i64 (2 + N)]), (w1.heap.size + 1 + 1, [.int .i64 (0), .int .i64 (2 + N - 2)]), (wa.heap.size, [.int .i64 (1 + K), .int .i64 (Z)]), (wb.heap.size, [.int .i64 (0), .int .i64 (M)])] := by
        have f1 := OwnL.ext (hA9.trans k1) H0; have f2 := OwnL.ext k1 hO9; have f3 := OwnL.ext k1 hP9
        simp only [OwnL, and_true] at f1 f2 f3 ⊢
        exact ⟨f1.1, f1.2.1, f1.2.2, f2, f3⟩
      simp only [OwnL, cellsL, and_true] at hF
      have hB := Ext.from (hA9.trans k1) hB0 hB0.size
      have hs := hB.size
      clear hA9 hO9 hP9 k1 H0 hB0
      go_wp2_with fail
      refine at_calls (fun W0 hW0 => ?_)
      have hB0 : Below w.heap.size w W0 := by rw [hW0]; first | (with_reducible assumption) | (go_grown; done)
      have H0 : OwnL W0 [(w1.heap.size, [.int .i64 (0), .int .i64 (2 + N - 1)]), (w1.heap.size + 1, [.int .i64 (1), .int .i64 (2 + N)]), (w1.heap.size + 1 + 1, [.int .i64 (0), .int .i64 (2 + N - 2)]), (wa.heap.size, [.int .i64 (1 + K), .int .i64 (Z)]), (wb.heap.size, [.int .i64 (0), .int .i64 (M)])] := by
        rw [hW0]; simp only [OwnL, cellsL]
        refine ⟨⟨?_, ?_, ⟨?_, ?_, trivial⟩⟩, ⟨?_, ?_, ⟨?_, ?_, trivial⟩⟩, ⟨?_, ?_, ⟨?_, ?_, trivial⟩⟩, ⟨?_, ?_, ⟨?_, ?_, trivial⟩⟩, ⟨?_, ?_, ⟨?_, ?_, trivial⟩⟩, trivial⟩
        all_goals first | (with_reducible assumption) | omega | (simp; omega) | (simp [go_sem]; done) | (simp [go_sem, *]; done) | (intro o; first | (simp [go_sem]; done) | (simp [go_sem, *]; done))
      clear hW0 hF hB hs
      (with_reducible refine (Order_any _ _ _ _ _ _ _ _ _).mono ?_)
      rw [q1.out]
      rintro e w3 ⟨rfl, hb⟩
      have hF := OwnL.ext hb H0
      simp only [OwnL, cellsL, and_true] at hF
      have hB := Ext.from hb hB0 hB0.size
      have hs := hB.size
      clear hb H0 hB0
      go_wp2_with fail
      refine at_calls (fun W0 hW0 => ?_)
      have hB0 : Below w.heap.size w W0 := by rw [hW0]; first | (with_reducible assumption) | (go_grown; done)
      have H0 : OwnL W0 [(w1.heap.size, [.int .i64 (0), .int .i64 (2 + N - 1)]), (w1.heap.size + 1, [.int .i64 (1), .int .i64 (2 + N)]), (w1.heap.size + 1 + 1, [.int .i64 (0), .int .i64 (2 + N - 2)]), (wa.heap.size, [.int .i64 (1 + K), .int .i64 (Z)]), (wb.heap.size, [.int .i64 (0), .int .i64 (M)])] := by
        rw [hW0]; simp only [OwnL, cellsL]
        refine ⟨⟨?_, ?_, ⟨?_, ?_, trivial⟩⟩, ⟨?_, ?_, ⟨?_, ?_, trivial⟩⟩, ⟨?_, ?_, ⟨?_, ?_, trivial⟩⟩, ⟨?_, ?_, ⟨?_, ?_, trivial⟩⟩, ⟨?_, ?_, ⟨?_, ?_, trivial⟩⟩, trivial⟩
        all_goals first | (with_reducible assumption) | omega | (simp; omega) | (simp [go_sem]; done) | (simp [go_sem, *]; done) | (intro o; first | (simp [go_sem]; done) | (simp [go_sem, *]; done))
      clear hW0 hF hB hs
      (with_reducible refine (Order_any _ _ _ _ _ _ _ _ _).mono ?_)
      rw [q2.out]
      rintro e w4 ⟨rfl, hb⟩
      have hF := OwnL.ext hb H0
      simp only [OwnL, cellsL, and_true] at hF
      have hB := Ext.from hb hB0 hB0.size
      have hs := hB.size
      clear hb H0 hB0
      go_wp2_with fail
      refine at_calls (fun W0 hW0 => ?_)
      have hB0 : Below w.heap.size w W0 := by rw [hW0]; first | (with_reducible assumption) | (go_grown; done)
      have H0 : OwnL W0 [(w1.heap.size, [.int .i64 (0), .int .i64 (2 + N - 1)]), (w1.heap.size + 1, [.int .i64 (1), .int .i64 (2 + N)]), (w1.heap.size + 1 + 1, [.int .i64 (0), .int .i64 (2 + N - 2)]), (wa.heap.size, [.int .i64 (1 + K), .int .i64 (Z)]), (wb.heap.size, [.int .i64 (0), .int .i64 (M)])] := by
        rw [hW0]; simp only [OwnL, cellsL]
        refine ⟨⟨?_, ?_, ⟨?_, ?_, trivial⟩⟩, ⟨?_, ?_, ⟨?_, ?_, trivial⟩⟩, ⟨?_, ?_, ⟨?_, ?_, trivial⟩⟩, ⟨?_, ?_, ⟨?_, ?_, trivial⟩⟩, ⟨?_, ?_, ⟨?_, ?_, trivial⟩⟩, trivial⟩
        all_goals first | (with_reducible assumption) | omega | (simp; omega) | (simp [go_sem]; done) | (simp [go_sem, *]; done) | (intro o; first | (simp [go_sem]; done) | (simp [go_sem, *]; done))
      clear hW0 hF hB hs
      (with_reducible refine (Order_any _ _ _ _ _ _ _ _ _).mono ?_)
      rw [q3.out]
      rintro e w5 ⟨rfl, hb⟩
      have hF := OwnL.ext hb H0
      simp only [OwnL, cellsL, and_true] at hF
      have hB := Ext.from hb hB0 hB0.size
      have hs := hB.size
      clear hb H0 hB0
      go_wp2_with fail
      refine at_calls (fun W0 hW0 => ?_)
      have hB0 : Below w.heap.size w W0 := by rw [hW0]; first | (with_reducible assumption) | (go_grown; done)
      have H0 : OwnL W0 [(w1.heap.size, [.int .i64 (0), .int .i64 (2 + N - 1)]), (w1.heap.size + 1, [.int .i64 (1), .int .i64 (2 + N)]), (w1.heap.size + 1 + 1, [.int .i64 (0), .int .i64 (2 + N - 2)]), (wa.heap.size, [.int .i64 (1 + K), .int .i64 (Z)]), (wb.heap.size, [.int .i64 (0), .int .i64 (M)])] := by
        rw [hW0]; simp only [OwnL, cellsL]
        refine ⟨⟨?_, ?_, ⟨?_, ?_, trivial⟩⟩, ⟨?_, ?_, ⟨?_, ?_, trivial⟩⟩, ⟨?_, ?_, ⟨?_, ?_, trivial⟩⟩, ⟨?_, ?_, ⟨?_, ?_, trivial⟩⟩, ⟨?_, ?_, ⟨?_, ?_, trivial⟩⟩, trivial⟩
        all_goals first | (with_reducible assumption) | omega | (simp; omega) | (simp [go_sem]; done) | (simp [go_sem, *]; done) | (intro o; first | (simp [go_sem]; done) | (simp [go_sem, *]; done))
      clear hW0 hF hB hs
      (with_reducible refine (Order_any _ _ _ _ _ _ _ _ _).mono ?_)
      rw [q4.out]
      rintro e w6 ⟨rfl, hb⟩
      have hF := OwnL.ext hb H0
      simp only [OwnL, cellsL, and_true] at hF
      have hB := Ext.from hb hB0 hB0.size
      have hs := hB.size
      clear hb H0 hB0
      go_wp2
      go_ret
      exact ⟨by simp, by go_grown⟩

theorem own : ownKnob Try.prog.godebug = none := by kernel_rfl
set_option maxRecDepth 100000 in
theorem lifted (os : Os) (started : os.Started) (H : Type) (enc : TypeId × Value → H) :
    ReturnsInHanded {} Try.checked os 6 .any (Rows.rvecWideSpec.pre6 enc Try.prog Try.f6 Rows.rvecWideRow.domain false) (Rows.rvecWideSpec.post enc Try.prog Try.f6 false true false false) := by
  refine returnsInHanded_of_change (C := Try.checked) own started (by kernel_rfl) Try.func6
    (ChangeSpec.witness6 (enc := enc) (C := Try.checked) false ⟨#[], #[.int .i64 0, .int .i64 0, .bool false], []⟩ 8 (by kernel_rfl) (by kernel_rfl) (by kernel_rfl) (by kernel_rfl)) ?_
  intro W base args ds gs before hval0 hW hcnd _
  have hval : ∀ (j : Nat) t v, Try.f6.params[j]? = some t → args[j]? = some v → Value.okWide Try.prog W .any base t v := hval0
  have hW' := hW
  obtain ⟨p, q, hA0, hV, rfl, hfz, hnd⟩ := hW
  have hA : DataW.TrodAll enc Try.prog W 0 (fun _ => true) true Try.f6.params.toList args.toList ds p := hA0
  rw [Try.params6] at hA hval
  obtain ⟨v0, vs0, d0, ds0, p0, q0, hargs, rfl, rfl, h0, r0⟩ := trodAll_cons hA
  obtain ⟨v1, vs1, d1, ds1, p1, q1, rfl, rfl, rfl, h1, r1⟩ := trodAll_cons r0
  obtain ⟨v2, vs2, d2, ds2, p2, q2, rfl, rfl, rfl, h2, r2⟩ := trodAll_cons r1
  obtain ⟨rfl, rfl, rfl⟩ := trodAll_nil r2
  obtain rfl : args = #[v0, v1, v2] := by cases args; simp_all
  obtain ⟨rfl, rfl⟩ := trodVars_none hV
  obtain ⟨a0, rfl, rfl, rfl, w0⟩ := open_int Try.underlying3 (hval 0 3 v0 rfl rfl) h0
  obtain ⟨a1, rfl, rfl, rfl, w1⟩ := open_int Try.underlying3 (hval 1 3 v1 rfl rfl) h1
  obtain ⟨a2, rfl, rfl, rfl⟩ := open_bool Try.underlying4 (hval 2 4 v2 rfl rfl) h2
  clear hA0 hval0
  refine (walk a0 w0 a1 w1 a2 W).mono fun e W' ⟨he, bel⟩ => ?_
  subst he
  exact ⟨_, rfl, _, _, _, [], _, [], hW', trodAll_mk1 (shut_bool Try.underlying4 _), (trodAll_cons_mk (shut_int Try.underlying3 w0) (trodAll_cons_mk (shut_int Try.underlying3 w1) (trodAll_cons_mk (shut_bool Try.underlying4 _) trodAll_mk0))), rfl, bel.frame _, fun h => by cases h⟩

theorem over : Rows.rvecWideRow.holds Try.pinned (OpenSpec.ofChange Rows.rvecWideSpec) :=
  OpenClaim.holds_of_wide 6 Try.f6 rfl rfl rfl rfl rfl rfl rfl ⟨rfl, rfl, rfl, rfl, rfl⟩ rfl rfl rfl rfl rfl (by kernel_rfl) Try.func6 (by kernel_rfl)
    (of_decide_eq_true (by kernel_rfl)) (by unfold Func.isWrapper; first | (rw [if_pos (by decide +kernel)]; kernel_rfl) | (rw [if_neg (by decide +kernel)]; exact ⟨rfl, rfl⟩))
    (fun os started H enc _ => lifted os started H enc)

theorem proved : Rows.RvecWideSaid := over
#print axioms proved
end Go.Proofs.Ytlifgdhieelihaa.RvecWide
