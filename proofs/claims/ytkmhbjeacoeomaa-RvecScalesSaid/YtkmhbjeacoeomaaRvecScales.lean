/- The law RvecScales holds at every input: any vector is scaled by any number of basis points as the reference has it; never above it by 10000 or less. No condition. -/
import Derived.Test.YtkmhbjeacoeomaaLaw
import Derived.Test.YtkmhbjeacoeomaaOwnL
import Derived.Test.YtkmhbjeacoeomaaLeafC
import Derived.Test.YtkmhbjeacoeomaaRefB
import Derived.OpenShut
import Derived.ChangeOld
import Derived.ChangeSame
import Derived.JoinedOf
import Derived.JoinedAt
import Derived.RowKit3
import Derived.Lib.SmallJoins
namespace Go.Proofs.Ytkmhbjeacoeomaa.RvecScales
open Go.ChangeShapes Go.WideShapes Go.ChangeAt Go.RowKit Go.Joins

theorem scI_le {n k : Int} (hn : 0 ≤ n) (hk : 0 ≤ k ∧ k ≤ 10000) : 0 ≤ scI n k ∧ scI n k ≤ n := by
  obtain ⟨k0, k1⟩ := hk
  have q0 : 0 ≤ n / 10000 := by omega
  have r0 : 0 ≤ n % 10000 := by omega
  have a0 := Int.mul_nonneg q0 k0
  have b0 := Int.mul_nonneg r0 k0
  have a1 := Int.mul_le_mul_of_nonneg_left k1 q0
  have b1 := Int.mul_le_mul_of_nonneg_left k1 r0
  unfold scI
  omega
theorem scI_all (n : Int) : scI n 10000 = n := by unfold scI; omega

theorem okS_k {how a b k : Int} (hk : 0 ≤ k ∧ k ≤ 10000) : okS (vp how a) (vp how b) k = true := by
  have : k ≤ 1000000 := by omega
  simp [okS, okV_vp, hk.1, this]
theorem okV_s {how a b k : Int} (hk : 0 ≤ k ∧ k ≤ 10000) : okV (scI (vp how a) k) (scI (vp how b) k) = true := by
  have h1 := vp_bd how a; have h2 := vp_bd how b
  have h3 := scI_le h1.1 hk; have h4 := scI_le h2.1 hk
  simp [okV, okI]; omega
theorem s_E {how a b k : Int} (hk : 0 ≤ k ∧ k ≤ 10000) : scE (vp how a) (vp how b) k = 0 := by simp [scE, resE, okS_k hk, okV_s hk]
theorem s_X {how a b k p : Int} (hk : 0 ≤ k ∧ k ≤ 10000) : scX (vp how a) (vp how b) k p = scI p k := by simp [scX, resP, okS_k hk, okV_s hk]

set_option maxHeartbeats 8000000 in
theorem walk (a0 b0 : Int) (_ : (Lit.int .i64 a0).wf = true) (_ : (Lit.int .i64 b0).wf = true) (bp : Int) (_ : (Lit.int .i64 bp).wf = true) (how : Int) (_ : (Lit.int .i64 how).wf = true) (w : World) :
    Calls Try.prog 4 #[.agg #[.int .i64 a0, .int .i64 b0], .int .i64 bp, .int .i64 how] w fun e w' => e = .returned (.bool true) ∧ Below w.heap.size w w' := by
  have hk : 0 ≤ bp % 10001 ∧ bp % 10001 ≤ 10000 := by omega
  have hE : scE (vp how a0) (vp how b0) (bp % 10001) = 0 := s_E hk
  have h1 := scI_le (vp_bd how a0).1 hk
  have h2 := scI_le (vp_bd how b0).1 hk
  have hF' : fitB (scI (vp how a0) (bp % 10001)) (scI (vp how b0) (bp % 10001)) (vp how a0) (vp how b0) = true := by simp [fitB]; omega
  have hX1 : scX (vp how a0) (vp how b0) (bp % 10001) (vp how a0) = scI (vp how a0) (bp % 10001) := s_X hk
  have hX2 : scX (vp how a0) (vp how b0) (bp % 10001) (vp how b0) = scI (vp how b0) (bp % 10001) := s_X hk
  have h3 : (0 : Int) < 10001 ∧ (10001 : Int) ≤ 1125899906842625 := ⟨by decide, by decide⟩
  clear h1 h2
  obtain ⟨hk0, hk1⟩ := hk
  by_cases hlt : bp % 10001 < 10000
  · skip
    go_enter Try.func4, Try.ntmps4
    go_wp2_with fail
    refine at_calls (fun W0 hW0 => ?_)
    have hB0 : Below w.heap.size w W0 := by rw [hW0]; first | (with_reducible assumption) | (go_grown; done)
    have H0 : OwnL W0 [(w.heap.size, [.int .i64 (a0), .int .i64 (b0)])] := by
      rw [hW0]; simp only [OwnL, cellsL]
      refine ⟨⟨?_, ?_, ⟨?_, ?_, trivial⟩⟩, trivial⟩
      all_goals first | (with_reducible assumption) | omega | (simp; omega) | (simp [go_sem]; done) | (simp [go_sem, *]; done) | (intro o; first | (simp [go_sem]; done) | (simp [go_sem, *]; done))
    clear hW0
    (with_reducible refine (known_any _).mono ?_)
    rintro e w1 ⟨rfl, hb⟩
    have hF := OwnL.ext hb H0
    simp only [OwnL, cellsL, and_true] at hF
    have hB := Ext.from hb hB0 hB0.size
    have hs := hB.size
    clear hb H0 hB0
    go_wp2_with fail
    refine at_calls (fun W0 hW0 => ?_)
    have hB0 : Below w.heap.size w W0 := by rw [hW0]; first | (with_reducible assumption) | (go_grown; done)
    have H0 : OwnL W0 [(w.heap.size, [.int .i64 (a0), .int .i64 (b0)])] := by
      rw [hW0]; simp only [OwnL, cellsL]
      refine ⟨⟨?_, ?_, ⟨?_, ?_, trivial⟩⟩, trivial⟩
      all_goals first | (with_reducible assumption) | omega | (simp; omega) | (simp [go_sem]; done) | (simp [go_sem, *]; done) | (intro o; first | (simp [go_sem]; done) | (simp [go_sem, *]; done))
    clear hW0 hF hB hs
    (with_reducible refine (vec_any _ _ _ _).mono ?_)
    rintro e w2 ⟨rfl, hb⟩
    have hF := OwnL.ext hb H0
    simp only [OwnL, cellsL, and_true] at hF
    have hB := Ext.from hb hB0 hB0.size
    have hs := hB.size
    clear hb H0 hB0
    go_wp2_with fail
    (with_reducible refine (within_any _ _ _ h3).mono ?_)
    rintro e wq ⟨rfl, rfl⟩
    go_wp2_with fail
    refine at_calls (fun W0 hW0 => ?_)
    have hB0 : Below w.heap.size w W0 := by rw [hW0]; first | (with_reducible assumption) | (go_grown; done)
    have H0 : OwnL W0 [(w.heap.size, [.int .i64 (a0), .int .i64 (b0)]), (w2.heap.size, [.int .i64 (vp how a0), .int .i64 (vp how b0)])] := by
      rw [hW0]; simp only [OwnL, cellsL]
      refine ⟨⟨?_, ?_, ⟨?_, ?_, trivial⟩⟩, ⟨?_, ?_, ⟨?_, ?_, trivial⟩⟩, trivial⟩
      all_goals first | (with_reducible assumption) | omega | (simp; omega) | (simp [go_sem]; done) | (simp [go_sem, *]; done) | (intro o; first | (simp [go_sem]; done) | (simp [go_sem, *]; done))
    clear hW0 hF hB hs
    (with_reducible refine (Scale_any _ _ _ _).mono ?_)
    rintro e w3 ⟨rfl, hb⟩
    have hF := OwnL.ext hb H0
    simp only [OwnL, cellsL, and_true] at hF
    have hB := Ext.from hb hB0 hB0.size
    have hs := hB.size
    clear hb H0 hB0
    go_wp2_with fail
    refine at_calls (fun W0 hW0 => ?_)
    have hB0 : Below w.heap.size w W0 := by rw [hW0]; first | (with_reducible assumption) | (go_grown; done)
    have H0 : OwnL W0 [(w.heap.size, [.int .i64 (a0), .int .i64 (b0)]), (w2.heap.size, [.int .i64 (vp how a0), .int .i64 (vp how b0)]), (w3.heap.size, [.int .i64 (scX a0 b0 bp a0), .int .i64 (scX a0 b0 bp b0)])] := by
      rw [hW0]; simp only [OwnL, cellsL]
      refine ⟨⟨?_, ?_, ⟨?_, ?_, trivial⟩⟩, ⟨?_, ?_, ⟨?_, ?_, trivial⟩⟩, ⟨?_, ?_, ⟨?_, ?_, trivial⟩⟩, trivial⟩
      all_goals first | (with_reducible assumption) | omega | (simp; omega) | (simp [go_sem]; done) | (simp [go_sem, *]; done) | (intro o; first | (simp [go_sem]; done) | (simp [go_sem, *]; done))
    clear hW0 hF hB hs
    (with_reducible refine (rScale_any _ _ _ _).mono ?_)
    rintro e w4 ⟨rfl, hb⟩
    have hF := OwnL.ext hb H0
    simp only [OwnL, cellsL, and_true] at hF
    have hB := Ext.from hb hB0 hB0.size
    have hs := hB.size
    clear hb H0 hB0
    go_wp2_with fail
    refine at_calls (fun W0 hW0 => ?_)
    have hB0 : Below w.heap.size w W0 := by rw [hW0]; first | (with_reducible assumption) | (go_grown; done)
    have H0 : OwnL W0 [(w.heap.size, [.int .i64 (a0), .int .i64 (b0)]), (w2.heap.size, [.int .i64 (vp how a0), .int .i64 (vp how b0)]), (w3.heap.size, [.int .i64 (scX a0 b0 bp a0), .int .i64 (scX a0 b0 bp b0)]), (w4.heap.size, [.int .i64 (scX a0 b0 bp a0), .int .i64 (scX a0 b0 bp b0)])] := by
      rw [hW0]; simp only [OwnL, cellsL]
      refine ⟨⟨?_, ?_, ⟨?_, ?_, trivial⟩⟩, ⟨?_, ?_, ⟨?_, ?_, trivial⟩⟩, ⟨?_, ?_, ⟨?_, ?_, trivial⟩⟩, ⟨?_, ?_, ⟨?_, ?_, trivial⟩⟩, trivial⟩
      all_goals first | (with_reducible assumption) | omega | (simp; omega) | (simp [go_sem]; done) | (simp [go_sem, *]; done) | (intro o; first | (simp [go_sem]; done) | (simp [go_sem, *]; done))
    clear hW0 hF hB hs
    (with_reducible refine (Scale_any _ _ _ _).mono ?_)
    rintro e w5 ⟨rfl, hb⟩
    have hF := OwnL.ext hb H0
    simp only [OwnL, cellsL, and_true] at hF
    have hB := Ext.from hb hB0 hB0.size
    have hs := hB.size
    clear hb H0 hB0
    go_wp2_with fail
    refine at_calls (fun W0 hW0 => ?_)
    have hB0 : Below w.heap.size w W0 := by rw [hW0]; first | (with_reducible assumption) | (go_grown; done)
    have H0 : OwnL W0 [(w.heap.size, [.int .i64 (a0), .int .i64 (b0)]), (w2.heap.size, [.int .i64 (vp how a0), .int .i64 (vp how b0)]), (w3.heap.size, [.int .i64 (scX a0 b0 bp a0), .int .i64 (scX a0 b0 bp b0)]), (w4.heap.size, [.int .i64 (scX a0 b0 bp a0), .int .i64 (scX a0 b0 bp b0)]), (w5.heap.size, [.int .i64 (scI (vp how a0) (bp % 10001)), .int .i64 (scI (vp how b0) (bp % 10001))])] := by
      rw [hW0]; simp only [OwnL, cellsL]
      refine ⟨⟨?_, ?_, ⟨?_, ?_, trivial⟩⟩, ⟨?_, ?_, ⟨?_, ?_, trivial⟩⟩, ⟨?_, ?_, ⟨?_, ?_, trivial⟩⟩, ⟨?_, ?_, ⟨?_, ?_, trivial⟩⟩, ⟨?_, ?_, ⟨?_, ?_, trivial⟩⟩, trivial⟩
      all_goals first | (with_reducible assumption) | omega | (simp; omega) | (simp [go_sem]; done) | (simp [go_sem, *]; done) | (intro o; first | (simp [go_sem]; done) | (simp [go_sem, *]; done))
    clear hW0 hF hB hs
    (with_reducible refine (rScale_any _ _ _ _).mono ?_)
    rintro e w6 ⟨rfl, hb⟩
    have hF := OwnL.ext hb H0
    simp only [OwnL, cellsL, and_true] at hF
    have hB := Ext.from hb hB0 hB0.size
    have hs := hB.size
    clear hb H0 hB0
    go_wp2_with fail
    refine at_calls (fun W0 hW0 => ?_)
    have hB0 : Below w.heap.size w W0 := by rw [hW0]; first | (with_reducible assumption) | (go_grown; done)
    have H0 : OwnL W0 [(w.heap.size, [.int .i64 (a0), .int .i64 (b0)]), (w2.heap.size, [.int .i64 (vp how a0), .int .i64 (vp how b0)]), (w3.heap.size, [.int .i64 (scX a0 b0 bp a0), .int .i64 (scX a0 b0 bp b0)]), (w4.heap.size, [.int .i64 (scX a0 b0 bp a0), .int .i64 (scX a0 b0 bp b0)]), (w5.heap.size, [.int .i64 (scI (vp how a0) (bp % 10001)), .int .i64 (scI (vp how b0) (bp % 10001))]), (w6.heap.size, [.int .i64 (scI (vp how a0) (bp % 10001)), .int .i64 (scI (vp how b0) (bp % 10001))])] := by
      rw [hW0]; simp only [OwnL, cellsL]
      refine ⟨⟨?_, ?_, ⟨?_, ?_, trivial⟩⟩, ⟨?_, ?_, ⟨?_, ?_, trivial⟩⟩, ⟨?_, ?_, ⟨?_, ?_, trivial⟩⟩, ⟨?_, ?_, ⟨?_, ?_, trivial⟩⟩, ⟨?_, ?_, ⟨?_, ?_, trivial⟩⟩, ⟨?_, ?_, ⟨?_, ?_, trivial⟩⟩, trivial⟩
      all_goals first | (with_reducible assumption) | omega | (simp; omega) | (simp [go_sem]; done) | (simp [go_sem, *]; done) | (intro o; first | (simp [go_sem]; done) | (simp [go_sem, *]; done))
    clear hW0 hF hB hs
    (with_reducible refine (Fits_any _ _ _ _ _).mono ?_)
    rintro e w7 ⟨rfl, hb⟩
    have hF := OwnL.ext hb H0
    simp only [OwnL, cellsL, and_true] at hF
    have hB := Ext.from hb hB0 hB0.size
    have hs := hB.size
    clear hb H0 hB0
    go_wp2
    go_ret
    exact ⟨rfl, by go_grown⟩
  · have hk : bp % 10001 = 10000 := by omega
    rw [hk] at hE hF' hX1 hX2
    rw [scI_all] at hX1 hX2 hF'
    rw [scI_all] at hF'
    go_enter Try.func4, Try.ntmps4
    go_wp2_with fail
    refine at_calls (fun W0 hW0 => ?_)
    have hB0 : Below w.heap.size w W0 := by rw [hW0]; first | (with_reducible assumption) | (go_grown; done)
    have H0 : OwnL W0 [(w.heap.size, [.int .i64 (a0), .int .i64 (b0)])] := by
      rw [hW0]; simp only [OwnL, cellsL]
      refine ⟨⟨?_, ?_, ⟨?_, ?_, trivial⟩⟩, trivial⟩
      all_goals first | (with_reducible assumption) | omega | (simp; omega) | (simp [go_sem]; done) | (simp [go_sem, *]; done) | (intro o; first | (simp [go_sem]; done) | (simp [go_sem, *]; done))
    clear hW0
    (with_reducible refine (known_any _).mono ?_)
    rintro e w1 ⟨rfl, hb⟩
    have hF := OwnL.ext hb H0
    simp only [OwnL, cellsL, and_true] at hF
    have hB := Ext.from hb hB0 hB0.size
    have hs := hB.size
    clear hb H0 hB0
    go_wp2_with fail
    refine at_calls (fun W0 hW0 => ?_)
    have hB0 : Below w.heap.size w W0 := by rw [hW0]; first | (with_reducible assumption) | (go_grown; done)
    have H0 : OwnL W0 [(w.heap.size, [.int .i64 (a0), .int .i64 (b0)])] := by
      rw [hW0]; simp only [OwnL, cellsL]
      refine ⟨⟨?_, ?_, ⟨?_, ?_, trivial⟩⟩, trivial⟩
      all_goals first | (with_reducible assumption) | omega | (simp; omega) | (simp [go_sem]; done) | (simp [go_sem, *]; done) | (intro o; first | (simp [go_sem]; done) | (simp [go_sem, *]; done))
    clear hW0 hF hB hs
    (with_reducible refine (vec_any _ _ _ _).mono ?_)
    rintro e w2 ⟨rfl, hb⟩
    have hF := OwnL.ext hb H0
    simp only [OwnL, cellsL, and_true] at hF
    have hB := Ext.from hb hB0 hB0.size
    have hs := hB.size
    clear hb H0 hB0
    go_wp2_with fail
    (with_reducible refine (within_any _ _ _ h3).mono ?_)
    rintro e wq ⟨rfl, rfl⟩
    go_wp2_with fail
    refine at_calls (fun W0 hW0 => ?_)
    have hB0 : Below w.heap.size w W0 := by rw [hW0]; first | (with_reducible assumption) | (go_grown; done)
    have H0 : OwnL W0 [(w.heap.size, [.int .i64 (a0), .int .i64 (b0)]), (w2.heap.size, [.int .i64 (vp how a0), .int .i64 (vp how b0)])] := by
      rw [hW0]; simp only [OwnL, cellsL]
      refine ⟨⟨?_, ?_, ⟨?_, ?_, trivial⟩⟩, ⟨?_, ?_, ⟨?_, ?_, trivial⟩⟩, trivial⟩
      all_goals first | (with_reducible assumption) | omega | (simp; omega) | (simp [go_sem]; done) | (simp [go_sem, *]; done) | (intro o; first | (simp [go_sem]; done) | (simp [go_sem, *]; done))
    clear hW0 hF hB hs
    (with_reducible refine (Scale_any _ _ _ _).mono ?_)
    rintro e w3 ⟨rfl, hb⟩
    have hF := OwnL.ext hb H0
    simp only [OwnL, cellsL, and_true] at hF
    have hB := Ext.from hb hB0 hB0.size
    have hs := hB.size
    clear hb H0 hB0
    go_wp2_with fail
    refine at_calls (fun W0 hW0 => ?_)
    have hB0 : Below w.heap.size w W0 := by rw [hW0]; first | (with_reducible assumption) | (go_grown; done)
    have H0 : OwnL W0 [(w.heap.size, [.int .i64 (a0), .int .i64 (b0)]), (w2.heap.size, [.int .i64 (vp how a0), .int .i64 (vp how b0)]), (w3.heap.size, [.int .i64 (scX a0 b0 bp a0), .int .i64 (scX a0 b0 bp b0)])] := by
      rw [hW0]; simp only [OwnL, cellsL]
      refine ⟨⟨?_, ?_, ⟨?_, ?_, trivial⟩⟩, ⟨?_, ?_, ⟨?_, ?_, trivial⟩⟩, ⟨?_, ?_, ⟨?_, ?_, trivial⟩⟩, trivial⟩
      all_goals first | (with_reducible assumption) | omega | (simp; omega) | (simp [go_sem]; done) | (simp [go_sem, *]; done) | (intro o; first | (simp [go_sem]; done) | (simp [go_sem, *]; done))
    clear hW0 hF hB hs
    (with_reducible refine (rScale_any _ _ _ _).mono ?_)
    rintro e w4 ⟨rfl, hb⟩
    have hF := OwnL.ext hb H0
    simp only [OwnL, cellsL, and_true] at hF
    have hB := Ext.from hb hB0 hB0.size
    have hs := hB.size
    clear hb H0 hB0
    go_wp2_with fail
    refine at_calls (fun W0 hW0 => ?_)
    have hB0 : Below w.heap.size w W0 := by rw [hW0]; first | (with_reducible assumption) | (go_grown; done)
    have H0 : OwnL W0 [(w.heap.size, [.int .i64 (a0), .int .i64 (b0)]), (w2.heap.size, [.int .i64 (vp how a0), .int .i64 (vp how b0)]), (w3.heap.size, [.int .i64 (scX a0 b0 bp a0), .int .i64 (scX a0 b0 bp b0)]), (w4.heap.size, [.int .i64 (scX a0 b0 bp a0), .int .i64 (scX a0 b0 bp b0)])] := by
      rw [hW0]; simp only [OwnL, cellsL]
      refine ⟨⟨?_, ?_, ⟨?_, ?_, trivial⟩⟩, ⟨?_, ?_, ⟨?_, ?_, trivial⟩⟩, ⟨?_, ?_, ⟨?_, ?_, trivial⟩⟩, ⟨?_, ?_, ⟨?_, ?_, trivial⟩⟩, trivial⟩
      all_goals first | (with_reducible assumption) | omega | (simp; omega) | (simp [go_sem]; done) | (simp [go_sem, *]; done) | (intro o; first | (simp [go_sem]; done) | (simp [go_sem, *]; done))
    clear hW0 hF hB hs
    (with_reducible refine (Scale_any _ _ _ _).mono ?_)
    rintro e w5 ⟨rfl, hb⟩
    have hF := OwnL.ext hb H0
    simp only [OwnL, cellsL, and_true] at hF
    have hB := Ext.from hb hB0 hB0.size
    have hs := hB.size
    clear hb H0 hB0
    go_wp2_with fail
    refine at_calls (fun W0 hW0 => ?_)
    have hB0 : Below w.heap.size w W0 := by rw [hW0]; first | (with_reducible assumption) | (go_grown; done)
    have H0 : OwnL W0 [(w.heap.size, [.int .i64 (a0), .int .i64 (b0)]), (w2.heap.size, [.int .i64 (vp how a0), .int .i64 (vp how b0)]), (w3.heap.size, [.int .i64 (scX a0 b0 bp a0), .int .i64 (scX a0 b0 bp b0)]), (w4.heap.size, [.int .i64 (scX a0 b0 bp a0), .int .i64 (scX a0 b0 bp b0)]), (w5.heap.size, [.int .i64 (vp how a0), .int .i64 (vp how b0)])] := by
      rw [hW0]; simp only [OwnL, cellsL]
      refine ⟨⟨?_, ?_, ⟨?_, ?_, trivial⟩⟩, ⟨?_, ?_, ⟨?_, ?_, trivial⟩⟩, ⟨?_, ?_, ⟨?_, ?_, trivial⟩⟩, ⟨?_, ?_, ⟨?_, ?_, trivial⟩⟩, ⟨?_, ?_, ⟨?_, ?_, trivial⟩⟩, trivial⟩
      all_goals first | (with_reducible assumption) | omega | (simp; omega) | (simp [go_sem]; done) | (simp [go_sem, *]; done) | (intro o; first | (simp [go_sem]; done) | (simp [go_sem, *]; done))
    clear hW0 hF hB hs
    (with_reducible refine (rScale_any _ _ _ _).mono ?_)
    rintro e w6 ⟨rfl, hb⟩
    have hF := OwnL.ext hb H0
    simp only [OwnL, cellsL, and_true] at hF
    have hB := Ext.from hb hB0 hB0.size
    have hs := hB.size
    clear hb H0 hB0
    go_wp2_with fail
    refine at_calls (fun W0 hW0 => ?_)
    have hB0 : Below w.heap.size w W0 := by rw [hW0]; first | (with_reducible assumption) | (go_grown; done)
    have H0 : OwnL W0 [(w.heap.size, [.int .i64 (a0), .int .i64 (b0)]), (w2.heap.size, [.int .i64 (vp how a0), .int .i64 (vp how b0)]), (w3.heap.size, [.int .i64 (scX a0 b0 bp a0), .int .i64 (scX a0 b0 bp b0)]), (w4.heap.size, [.int .i64 (scX a0 b0 bp a0), .int .i64 (scX a0 b0 bp b0)]), (w5.heap.size, [.int .i64 (vp how a0), .int .i64 (vp how b0)]), (w6.heap.size, [.int .i64 (vp how a0), .int .i64 (vp how b0)])] := by
      rw [hW0]; simp only [OwnL, cellsL]
      refine ⟨⟨?_, ?_, ⟨?_, ?_, trivial⟩⟩, ⟨?_, ?_, ⟨?_, ?_, trivial⟩⟩, ⟨?_, ?_, ⟨?_, ?_, trivial⟩⟩, ⟨?_, ?_, ⟨?_, ?_, trivial⟩⟩, ⟨?_, ?_, ⟨?_, ?_, trivial⟩⟩, ⟨?_, ?_, ⟨?_, ?_, trivial⟩⟩, trivial⟩
      all_goals first | (with_reducible assumption) | omega | (simp; omega) | (simp [go_sem]; done) | (simp [go_sem, *]; done) | (intro o; first | (simp [go_sem]; done) | (simp [go_sem, *]; done))
    clear hW0 hF hB hs
    (with_reducible refine (Fits_any _ _ _ _ _).mono ?_)
    rintro e w7 ⟨rfl, hb⟩
    have hF := OwnL.ext hb H0
    simp only [OwnL, cellsL, and_true] at hF
    have hB := Ext.from hb hB0 hB0.size
    have hs := hB.size
    clear hb H0 hB0
    go_wp2
    go_ret
    exact ⟨rfl, by go_grown⟩

theorem own : ownKnob Try.prog.godebug = none := by kernel_rfl
theorem cellsVec : Try.prog.cellsOf 23 = 2 := by kernel_rfl
set_option maxRecDepth 100000 in
theorem lifted (os : Os) (started : os.Started) (H : Type) (enc : TypeId × Value → H) :
    ReturnsInHanded {} Try.checked os 4 .any (Rows.rvecScalesSpec.pre6 enc Try.prog Try.f4 Rows.rvecScalesRow.domain false) (Rows.rvecScalesSpec.post enc Try.prog Try.f4 false true false false) := by
  refine returnsInHanded_of_change (C := Try.checked) own started (by kernel_rfl) Try.func4
    (ChangeSpec.witness6 (enc := enc) (C := Try.checked) false ⟨#[], #[.agg #[.int .i64 0, .int .i64 0], .int .i64 0, .int .i64 0], []⟩ 8 (by kernel_rfl) (by kernel_rfl) (by kernel_rfl) (by kernel_rfl)) ?_
  intro W base args ds gs before hval0 hW hcnd _
  have hval : ∀ (j : Nat) t v, Try.f4.params[j]? = some t → args[j]? = some v → Value.okWide Try.prog W .any base t v := hval0
  have hW' := hW
  obtain ⟨p, q, hA0, hV, rfl, hfz, hnd⟩ := hW
  have hA : DataW.TrodAll enc Try.prog W 0 (fun _ => true) true Try.f4.params.toList args.toList ds p := hA0
  rw [Try.params4] at hA hval
  obtain ⟨v0, vs0, d0, ds0, p0, q0, hargs, rfl, rfl, h0, r0⟩ := trodAll_cons hA
  obtain ⟨v1, vs1, d1, ds1, p1, q1, rfl, rfl, rfl, h1, r1⟩ := trodAll_cons r0
  obtain ⟨v2, vs2, d2, ds2, p2, q2, rfl, rfl, rfl, h2, r2⟩ := trodAll_cons r1
  obtain ⟨rfl, rfl, rfl⟩ := trodAll_nil r2
  obtain rfl : args = #[v0, v1, v2] := by cases args; simp_all
  obtain ⟨rfl, rfl⟩ := trodVars_none hV
  obtain ⟨c0, e0, y0, z0, m0, rfl, rfl, rfl, hy0, hz0⟩ := open_agg2 Try.underlying23 (by kernel_rfl) cellsVec (hval 0 23 v0 rfl rfl) h0
  obtain ⟨a0, ea0, rfl, wa0⟩ := DataW.trod_int Try.underlying3 hy0
  obtain ⟨b0, eb0, rfl, wb0⟩ := DataW.trod_int Try.underlying3 hz0
  simp at ea0 eb0
  subst ea0 eb0
  obtain ⟨a1, rfl, rfl, rfl, w1⟩ := open_int Try.underlying3 (hval 1 3 v1 rfl rfl) h1
  obtain ⟨a2, rfl, rfl, rfl, w2⟩ := open_int Try.underlying3 (hval 2 3 v2 rfl rfl) h2
  clear hA0 hval0
  have structReads0 : ∀ (W' : World) (sp : Nat → Bool), DataW.Trod enc Try.prog W' 0 sp true 23 (.agg #[.int .i64 a0, .int .i64 b0]) (.agg [.lit (.int .i64 a0), .lit (.int .i64 b0)]) [] := fun W' sp =>
    shut_agg2 (y0 := (.lit (.int .i64 a0), [])) (y1 := (.lit (.int .i64 b0), [])) Try.underlying23 (by kernel_rfl) cellsVec ⟨1, by simp [DataW.trod, Try.underlying3, wa0]⟩ ⟨1, by simp [DataW.trod, Try.underlying3, wb0]⟩
  refine (walk a0 b0 wa0 wb0 a1 w1 a2 w2 W).mono fun e W' ⟨he, bel⟩ => ?_
  subst he
  exact ⟨_, rfl, _, _, _, [], _, [], hW', trodAll_mk1 (shut_bool Try.underlying4 _), (trodAll_cons_mk (structReads0 W' _) (trodAll_cons_mk (shut_int Try.underlying3 w1) (trodAll_cons_mk (shut_int Try.underlying3 w2) trodAll_mk0))), rfl, bel.frame _, fun h => by cases h⟩

theorem over : Rows.rvecScalesRow.holds Try.pinned (OpenSpec.ofChange Rows.rvecScalesSpec) :=
  OpenClaim.holds_of_wide 4 Try.f4 rfl rfl rfl rfl rfl rfl rfl ⟨rfl, rfl, rfl, rfl, rfl⟩ rfl rfl rfl rfl rfl (by kernel_rfl) Try.func4 (by kernel_rfl)
    (of_decide_eq_true (by kernel_rfl)) (by unfold Func.isWrapper; first | (rw [if_pos (by decide +kernel)]; kernel_rfl) | (rw [if_neg (by decide +kernel)]; exact ⟨rfl, rfl⟩))
    (fun os started H enc _ => lifted os started H enc)

theorem proved : Rows.RvecScalesSaid := over
#print axioms proved
end Go.Proofs.Ytkmhbjeacoeomaa.RvecScales
