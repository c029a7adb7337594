/- The law RvecNought holds at every input: nothing of nothing is nought; something of nothing is more than any load. No condition. -/
import Derived.Test.YtkmhbjeacoeomaaLaw
import Derived.Test.YtkmhbjeacoeomaaOwnL
import Derived.Test.YtkmhbjeacoeomaaOrdC
import Derived.OpenShut
import Derived.ChangeOld
import Derived.ChangeSame
import Derived.JoinedOf
import Derived.JoinedAt
import Derived.RowKit3
import Derived.Lib.SmallJoins
namespace Go.Proofs.Ytkmhbjeacoeomaa.RvecNought
open Go.ChangeShapes Go.WideShapes Go.ChangeAt Go.RowKit Go.Joins

theorem cmpI_pos {x y : Int} (h : y < x) : cmpI x y = 1 := by unfold cmpI; rw [if_neg (by omega), if_pos h]
theorem cmpI_neg {x y : Int} (h : x < y) : cmpI x y = -1 := by unfold cmpI; rw [if_pos h]

theorem load_zero (p q : Int) : ldA 0 0 p q = 0 ∧ ldN 0 0 p q = 1 := by
  have h : ordI 0 p 0 q = 0 := by simp [ordI, cmpI]
  have hA : ldA 0 0 p q = 0 := by simp [ldA]
  exact ⟨hA, by unfold ldN; rw [hA]; rfl⟩

theorem nrm_pos {a p : Int} (hp : 1 ≤ p) : 1 ≤ nrm a p := by unfold nrm; split <;> omega

theorem load_inf (a m : Int) (hm : 1 ≤ m) : ldA a m 1125899906842624 0 = m ∧ ldN a m 1125899906842624 0 = 0 := by
  have hz : m ≠ 0 := by omega
  have h1 : nrm m 0 = 0 := by simp [nrm, hz]
  have h2 : 0 < m * nrm a 1125899906842624 := Int.mul_pos (by omega) (by have := nrm_pos (a := a) (p := 1125899906842624) (by decide); omega)
  have h : ordI a 1125899906842624 m 0 < 0 := by
    unfold ordI; rw [h1, cmpI_neg (by simpa using h2)]; decide
  have hA : ldA a m 1125899906842624 0 = m := if_pos h
  have hP : ldP a m 1125899906842624 0 = 0 := if_pos h
  exact ⟨hA, by unfold ldN; rw [hA, hP, h1]⟩

theorem ldN_pos {a b p q : Int} (hp : 1 ≤ p) (hq : 1 ≤ q) : 1 ≤ ldN a b p q := by
  refine nrm_pos ?_
  unfold ldP; split <;> assumption

theorem ldA_pos {a m p q : Int} (ha : 0 ≤ a) (hm : 1 ≤ m) (hp : 1 ≤ p) (hq : 1 ≤ q) : 0 < ldA a m p q := by
  unfold ldA
  split
  · omega
  · rename_i h
    have h2 : 0 < m * nrm a p := Int.mul_pos (by omega) (by have := nrm_pos (a := a) hp; omega)
    rcases Int.lt_or_eq_of_le ha with h3 | h3
    · exact h3
    · exfalso; apply h; subst h3; unfold ordI; rw [Int.zero_mul, cmpI_neg h2]; decide

theorem okV_of {a b : Int} (ha : 0 ≤ a ∧ a ≤ 1125899906842624) (hb : 0 ≤ b ∧ b ≤ 1125899906842624) : okV a b = true := by simp [okV, okI]; omega

theorem o1 (p q : Int) (hp : Bd p) (hq : Bd q) : orderF 0 0 0 0 0 0 p q = 0 := by
  have h0 : okV 0 0 = true := by decide
  simp only [orderF, h0, okV_of hp hq, if_true, ordV, (load_zero 0 0).1, (load_zero 0 0).2, (load_zero p q).1, (load_zero p q).2]
  decide
theorem o2 (a b m f g : Int) (ha : Bd a) (hb : Bd b) (hm : 1 ≤ m ∧ m ≤ 1125899906842624) (hf : 1 ≤ f ∧ f ≤ 1125899906842624) (hg : 1 ≤ g ∧ g ≤ 1125899906842624) : orderF a m 1125899906842624 0 a b f g = 1 := by
  have h0 : okV 1125899906842624 0 = true := by decide
  have h1 : 0 < m * ldN a b f g := Int.mul_pos (by omega) (by have := ldN_pos (a := a) (b := b) hf.1 hg.1; omega)
  simp only [orderF, h0, okV_of ha hb, okV_of ha ⟨by omega, hm.2⟩, okV_of (a := f) (b := g) ⟨by omega, hf.2⟩ ⟨by omega, hg.2⟩, if_true, ordV, (load_inf a m hm.1).1, (load_inf a m hm.1).2, Int.mul_zero]
  exact cmpI_pos h1
theorem o3 (a m : Int) : orderF a m 0 0 a m 0 0 = 0 := by
  unfold orderF
  cases okV a m <;> cases okV 0 0 <;> simp [ordV, cmpI]
theorem o4 (a m f g : Int) (ha : Bd a) (hm : 1 ≤ m ∧ m ≤ 1125899906842624) (hf : 1 ≤ f ∧ f ≤ 1125899906842624) (hg : 1 ≤ g ∧ g ≤ 1125899906842624) : orderF 0 0 0 0 a m f g = -1 := by
  have h0 : okV 0 0 = true := by decide
  have h1 := ldA_pos ha.1 hm.1 hf.1 hg.1
  simp only [orderF, h0, okV_of ha ⟨by omega, hm.2⟩, okV_of (a := f) (b := g) ⟨by omega, hf.2⟩ ⟨by omega, hg.2⟩, if_true, ordV, (load_zero 0 0).1, (load_zero 0 0).2, Int.zero_mul, Int.mul_one]
  exact cmpI_neg h1

set_option maxHeartbeats 8000000 in
theorem walk (a0 b0 : Int) (_ : (Lit.int .i64 a0).wf = true) (_ : (Lit.int .i64 b0).wf = true) (a1 b1 : Int) (_ : (Lit.int .i64 a1).wf = true) (_ : (Lit.int .i64 b1).wf = true) (w : World) :
    Calls Try.prog 10 #[.agg #[.int .i64 a0, .int .i64 b0], .agg #[.int .i64 a1, .int .i64 b1]] w fun e w' => e = .returned (.bool true) ∧ Below w.heap.size w w' := by
  go_enter Try.func10, Try.ntmps10
  go_wp2_with fail
  refine at_calls (fun W0 hW0 => ?_)
  have hB0 : Below w.heap.size w W0 := by rw [hW0]; first | (with_reducible assumption) | (go_grown; done)
  have H0 : OwnL W0 [(w.heap.size, [.int .i64 (a0), .int .i64 (b0)]), (w.heap.size + 1, [.int .i64 (a1), .int .i64 (b1)])] := by
    rw [hW0]; simp only [OwnL, cellsL]
    refine ⟨⟨?_, ?_, ⟨?_, ?_, trivial⟩⟩, ⟨?_, ?_, ⟨?_, ?_, trivial⟩⟩, trivial⟩
    all_goals first | (with_reducible assumption) | omega | (simp; omega) | (simp [go_sem]; done) | (simp [go_sem, *]; done) | (intro o; first | (simp [go_sem]; done) | (simp [go_sem, *]; done))
  clear hW0
  (with_reducible refine (known_any _).mono ?_)
  rintro e w1 ⟨rfl, hb⟩
  have hF := OwnL.ext hb H0
  simp only [OwnL, cellsL, and_true] at hF
  have hB := Ext.from hb hB0 hB0.size
  have hs := hB.size
  clear hb H0 hB0
  go_upto_region 3 with fail
  refine at_world (fun W0 hW0 => ?_)
  have hB0 : Below w.heap.size w W0 := by rw [hW0]; first | (with_reducible assumption) | (go_grown; done)
  have H0 : OwnL W0 [(w.heap.size, [.int .i64 (a0), .int .i64 (b0)]), (w.heap.size + 1, [.int .i64 (a1), .int .i64 (b1)])] := by
    rw [hW0]; simp only [OwnL, cellsL]
    refine ⟨⟨?_, ?_, ⟨?_, ?_, trivial⟩⟩, ⟨?_, ?_, ⟨?_, ?_, trivial⟩⟩, trivial⟩
    all_goals first | (with_reducible assumption) | omega | (simp; omega) | (simp [go_sem]; done) | (simp [go_sem, *]; done) | (intro o; first | (simp [go_sem]; done) | (simp [go_sem, *]; done))
  clear hW0 hF hB hs
  refine wp_region_lex 4 (by kernel_rfl) (by kernel_rfl) (fun _ _ _ _ _ h => h) ?_
  simp only [List.take_succ_cons, List.take_zero, List.drop_succ_cons, List.drop_zero]
  repeat first | (refine seq_take ?_ (by rfl) (fun wk hb => ?_) ?_; rotate_left; (have hF := OwnL.ext hb H0; simp only [OwnL, cellsL, and_true] at hF; go_simp; first | exact OkX.val | (refine OkX.eqv (OkX.call (vec_any _ _ _ _)) ?_; exact rfl)); simp only [Act.put, List.setIfInBounds_toArray, List.set_cons_zero, List.set_cons_succ]) | (refine seq_skip (by rfl) ?_; simp only [Act.put, List.setIfInBounds_toArray, List.set_cons_zero, List.set_cons_succ])
  refine seq_nil (fun w2 hb => ?_)
  have hF := OwnL.ext hb H0
  simp only [OwnL, cellsL, and_true] at hF
  have hB := Ext.from hb hB0 hB0.size
  have hs := hB.size
  clear hb H0 hB0
  have dA := vp_bd 1 a0
  have dB := vp_bd 1 b0
  have dP := vp_bd 1 a1
  have dQ := vp_bd 1 b1
  generalize vp 1 a0 = A at *
  generalize vp 1 b0 = B at *
  generalize vp 1 a1 = P at *
  generalize vp 1 b1 = Q at *
  go_upto_region 4 with fail
  have q1 := o1 P Q dP dQ
  by_cases hb1 : B < 1 <;> by_cases hp1 : P < 1 <;> by_cases hq1 : Q < 1
  · have q2 := o2 A B 1 1 1 dA dB (by omega) (by omega) (by omega)
    have q3 := o3 A 1
    have q4 := o4 A 1 1 1 dA (by omega) (by omega) (by omega)
    go_wp2_with fail
    refine at_calls (fun W0 hW0 => ?_)
    have hB0 : Below w.heap.size w W0 := by rw [hW0]; first | (with_reducible assumption) | (go_grown; done)
    have H0 : OwnL W0 [(w.heap.size, [.int .i64 (A), .int .i64 (B)]), (w.heap.size + 1, [.int .i64 (P), .int .i64 (Q)]), (w2.heap.size, [.int .i64 (A), .int .i64 (1)]), (w2.heap.size + 1, [.int .i64 (1), .int .i64 (1)])] := by
      rw [hW0]; simp only [OwnL, cellsL]
      refine ⟨⟨?_, ?_, ⟨?_, ?_, trivial⟩⟩, ⟨?_, ?_, ⟨?_, ?_, trivial⟩⟩, ⟨?_, ?_, ⟨?_, ?_, trivial⟩⟩, ⟨?_, ?_, ⟨?_, ?_, trivial⟩⟩, trivial⟩
      all_goals first | (with_reducible assumption) | omega | (simp; omega) | (simp [go_sem]; done) | (simp [go_sem, *]; done) | (intro o; first | (simp [go_sem]; done) | (simp [go_sem, *]; done))
    clear hW0 hF hB hs
    (with_reducible refine (Order_any _ _ _ _ _ _ _ _ _).mono ?_)
    rw [q1]
    rintro e w3 ⟨rfl, hb⟩
    have hF := OwnL.ext hb H0
    simp only [OwnL, cellsL, and_true] at hF
    have hB := Ext.from hb hB0 hB0.size
    have hs := hB.size
    clear hb H0 hB0
    go_wp2_with fail
    refine at_calls (fun W0 hW0 => ?_)
    have hB0 : Below w.heap.size w W0 := by rw [hW0]; first | (with_reducible assumption) | (go_grown; done)
    have H0 : OwnL W0 [(w.heap.size, [.int .i64 (A), .int .i64 (B)]), (w.heap.size + 1, [.int .i64 (P), .int .i64 (Q)]), (w2.heap.size, [.int .i64 (A), .int .i64 (1)]), (w2.heap.size + 1, [.int .i64 (1), .int .i64 (1)])] := by
      rw [hW0]; simp only [OwnL, cellsL]
      refine ⟨⟨?_, ?_, ⟨?_, ?_, trivial⟩⟩, ⟨?_, ?_, ⟨?_, ?_, trivial⟩⟩, ⟨?_, ?_, ⟨?_, ?_, trivial⟩⟩, ⟨?_, ?_, ⟨?_, ?_, trivial⟩⟩, trivial⟩
      all_goals first | (with_reducible assumption) | omega | (simp; omega) | (simp [go_sem]; done) | (simp [go_sem, *]; done) | (intro o; first | (simp [go_sem]; done) | (simp [go_sem, *]; done))
    clear hW0 hF hB hs
    (with_reducible refine (Order_any _ _ _ _ _ _ _ _ _).mono ?_)
    rw [q2]
    rintro e w4 ⟨rfl, hb⟩
    have hF := OwnL.ext hb H0
    simp only [OwnL, cellsL, and_true] at hF
    have hB := Ext.from hb hB0 hB0.size
    have hs := hB.size
    clear hb H0 hB0
    go_wp2_with fail
    refine at_calls (fun W0 hW0 => ?_)
    have hB0 : Below w.heap.size w W0 := by rw [hW0]; first | (with_reducible assumption) | (go_grown; done)
    have H0 : OwnL W0 [(w.heap.size, [.int .i64 (A), .int .i64 (B)]), (w.heap.size + 1, [.int .i64 (P), .int .i64 (Q)]), (w2.heap.size, [.int .i64 (A), .int .i64 (1)]), (w2.heap.size + 1, [.int .i64 (1), .int .i64 (1)])] := by
      rw [hW0]; simp only [OwnL, cellsL]
      refine ⟨⟨?_, ?_, ⟨?_, ?_, trivial⟩⟩, ⟨?_, ?_, ⟨?_, ?_, trivial⟩⟩, ⟨?_, ?_, ⟨?_, ?_, trivial⟩⟩, ⟨?_, ?_, ⟨?_, ?_, trivial⟩⟩, trivial⟩
      all_goals first | (with_reducible assumption) | omega | (simp; omega) | (simp [go_sem]; done) | (simp [go_sem, *]; done) | (intro o; first | (simp [go_sem]; done) | (simp [go_sem, *]; done))
    clear hW0 hF hB hs
    (with_reducible refine (Order_any _ _ _ _ _ _ _ _ _).mono ?_)
    rw [q3]
    rintro e w5 ⟨rfl, hb⟩
    have hF := OwnL.ext hb H0
    simp only [OwnL, cellsL, and_true] at hF
    have hB := Ext.from hb hB0 hB0.size
    have hs := hB.size
    clear hb H0 hB0
    go_wp2_with fail
    refine at_calls (fun W0 hW0 => ?_)
    have hB0 : Below w.heap.size w W0 := by rw [hW0]; first | (with_reducible assumption) | (go_grown; done)
    have H0 : OwnL W0 [(w.heap.size, [.int .i64 (A), .int .i64 (B)]), (w.heap.size + 1, [.int .i64 (P), .int .i64 (Q)]), (w2.heap.size, [.int .i64 (A), .int .i64 (1)]), (w2.heap.size + 1, [.int .i64 (1), .int .i64 (1)])] := by
      rw [hW0]; simp only [OwnL, cellsL]
      refine ⟨⟨?_, ?_, ⟨?_, ?_, trivial⟩⟩, ⟨?_, ?_, ⟨?_, ?_, trivial⟩⟩, ⟨?_, ?_, ⟨?_, ?_, trivial⟩⟩, ⟨?_, ?_, ⟨?_, ?_, trivial⟩⟩, trivial⟩
      all_goals first | (with_reducible assumption) | omega | (simp; omega) | (simp [go_sem]; done) | (simp [go_sem, *]; done) | (intro o; first | (simp [go_sem]; done) | (simp [go_sem, *]; done))
    clear hW0 hF hB hs
    (with_reducible refine (Order_any _ _ _ _ _ _ _ _ _).mono ?_)
    rw [q4]
    rintro e w6 ⟨rfl, hb⟩
    have hF := OwnL.ext hb H0
    simp only [OwnL, cellsL, and_true] at hF
    have hB := Ext.from hb hB0 hB0.size
    have hs := hB.size
    clear hb H0 hB0
    go_wp2
    go_ret
    exact ⟨by simp, by go_grown⟩
  · have q2 := o2 A B 1 1 Q dA dB (by omega) (by omega) (by omega)
    have q3 := o3 A 1
    have q4 := o4 A 1 1 Q dA (by omega) (by omega) (by omega)
    go_wp2_with fail
    refine at_calls (fun W0 hW0 => ?_)
    have hB0 : Below w.heap.size w W0 := by rw [hW0]; first | (with_reducible assumption) | (go_grown; done)
    have H0 : OwnL W0 [(w.heap.size, [.int .i64 (A), .int .i64 (B)]), (w.heap.size + 1, [.int .i64 (P), .int .i64 (Q)]), (w2.heap.size, [.int .i64 (A), .int .i64 (1)]), (w2.heap.size + 1, [.int .i64 (1), .int .i64 (Q)])] := by
      rw [hW0]; simp only [OwnL, cellsL]
      refine ⟨⟨?_, ?_, ⟨?_, ?_, trivial⟩⟩, ⟨?_, ?_, ⟨?_, ?_, trivial⟩⟩, ⟨?_, ?_, ⟨?_, ?_, trivial⟩⟩, ⟨?_, ?_, ⟨?_, ?_, trivial⟩⟩, trivial⟩
      all_goals first | (with_reducible assumption) | omega | (simp; omega) | (simp [go_sem]; done) | (simp [go_sem, *]; done) | (intro o; first | (simp [go_sem]; done) | (simp [go_sem, *]; done))
    clear hW0 hF hB hs
    (with_reducible refine (Order_any _ _ _ _ _ _ _ _ _).mono ?_)
    rw [q1]
    rintro e w3 ⟨rfl, hb⟩
    have hF := OwnL.ext hb H0
    simp only [OwnL, cellsL, and_true] at hF
    have hB := Ext.from hb hB0 hB0.size
    have hs := hB.size
    clear hb H0 hB0
    go_wp2_with fail
    refine at_calls (fun W0 hW0 => ?_)
    have hB0 : Below w.heap.size w W0 := by rw [hW0]; first | (with_reducible assumption) | (go_grown; done)
    have H0 : OwnL W0 [(w.heap.size, [.int .i64 (A), .int .i64 (B)]), (w.heap.size + 1, [.int .i64 (P), .int .i64 (Q)]), (w2.heap.size, [.int .i64 (A), .int .i64 (1)]), (w2.heap.size + 1, [.int .i64 (1), .int .i64 (Q)])] := by
      rw [hW0]; simp only [OwnL, cellsL]
      refine ⟨⟨?_, ?_, ⟨?_, ?_, trivial⟩⟩, ⟨?_, ?_, ⟨?_, ?_, trivial⟩⟩, ⟨?_, ?_, ⟨?_, ?_, trivial⟩⟩, ⟨?_, ?_, ⟨?_, ?_, trivial⟩⟩, trivial⟩
      all_goals first | (with_reducible assumption) | omega | (simp; omega) | (simp [go_sem]; done) | (simp [go_sem, *]; done) | (intro o; first | (simp [go_sem]; done) | (simp [go_sem, *]; done))
    clear hW0 hF hB hs
    (with_reducible refine (Order_any _ _ _ _ _ _ _ _ _).mono ?_)
    rw [q2]
    rintro e w4 ⟨rfl, hb⟩
    have hF := OwnL.ext hb H0
    simp only [OwnL, cellsL, and_true] at hF
    have hB := Ext.from hb hB0 hB0.size
    have hs := hB.size
    clear hb H0 hB0
    go_wp2_with fail
    refine at_calls (fun W0 hW0 => ?_)
    have hB0 : Below w.heap.size w W0 := by rw [hW0]; first | (with_reducible assumption) | (go_grown; done)
    have H0 : OwnL W0 [(w.heap.size, [.int .i64 (A), .int .i64 (B)]), (w.heap.size + 1, [.int .i64 (P), .int .i64 (Q)]), (w2.heap.size, [.int .i64 (A), .int .i64 (1)]), (w2.heap.size + 1, [.int .i64 (1), .int .i64 (Q)])] := by
      rw [hW0]; simp only [OwnL, cellsL]
      refine ⟨⟨?_, ?_, ⟨?_, ?_, trivial⟩⟩, ⟨?_, ?_, ⟨?_, ?_, trivial⟩⟩, ⟨?_, ?_, ⟨?_, ?_, trivial⟩⟩, ⟨?_, ?_, ⟨?_, ?_, trivial⟩⟩, trivial⟩
      all_goals first | (with_reducible assumption) | omega | (simp; omega) | (simp [go_sem]; done) | (simp [go_sem, *]; done) | (intro o; first | (simp [go_sem]; done) | (simp [go_sem, *]; done))
    clear hW0 hF hB hs
    (with_reducible refine (Order_any _ _ _ _ _ _ _ _ _).mono ?_)
    rw [q3]
    rintro e w5 ⟨rfl, hb⟩
    have hF := OwnL.ext hb H0
    simp only [OwnL, cellsL, and_true] at hF
    have hB := Ext.from hb hB0 hB0.size
    have hs := hB.size
    clear hb H0 hB0
    go_wp2_with fail
    refine at_calls (fun W0 hW0 => ?_)
    have hB0 : Below w.heap.size w W0 := by rw [hW0]; first | (with_reducible assumption) | (go_grown; done)
    have H0 : OwnL W0 [(w.heap.size, [.int .i64 (A), .int .i64 (B)]), (w.heap.size + 1, [.int .i64 (P), .int .i64 (Q)]), (w2.heap.size, [.int .i64 (A), .int .i64 (1)]), (w2.heap.size + 1, [.int .i64 (1), .int .i64 (Q)])] := by
      rw [hW0]; simp only [OwnL, cellsL]
      refine ⟨⟨?_, ?_, ⟨?_, ?_, trivial⟩⟩, ⟨?_, ?_, ⟨?_, ?_, trivial⟩⟩, ⟨?_, ?_, ⟨?_, ?_, trivial⟩⟩, ⟨?_, ?_, ⟨?_, ?_, trivial⟩⟩, trivial⟩
      all_goals first | (with_reducible assumption) | omega | (simp; omega) | (simp [go_sem]; done) | (simp [go_sem, *]; done) | (intro o; first | (simp [go_sem]; done) | (simp [go_sem, *]; done))
    clear hW0 hF hB hs
    (with_reducible refine (Order_any _ _ _ _ _ _ _ _ _).mono ?_)
    rw [q4]
    rintro e w6 ⟨rfl, hb⟩
    have hF := OwnL.ext hb H0
    simp only [OwnL, cellsL, and_true] at hF
    have hB := Ext.from hb hB0 hB0.size
    have hs := hB.size
    clear hb H0 hB0
    go_wp2
    go_ret
    exact ⟨by simp, by go_grown⟩
  · have q2 := o2 A B 1 P 1 dA dB (by omega) (by omega) (by omega)
    have q3 := o3 A 1
    have q4 := o4 A 1 P 1 dA (by omega) (by omega) (by omega)
    go_wp2_with fail
    refine at_calls (fun W0 hW0 => ?_)
    have hB0 : Below w.heap.size w W0 := by rw [hW0]; first | (with_reducible assumption) | (go_grown; done)
    have H0 : OwnL W0 [(w.heap.size, [.int .i64 (A), .int .i64 (B)]), (w.heap.size + 1, [.int .i64 (P), .int .i64 (Q)]), (w2.heap.size, [.int .i64 (A), .int .i64 (1)]), (w2.heap.size + 1, [.int .i64 (P), .int .i64 (1)])] := by
      rw [hW0]; simp only [OwnL, cellsL]
      refine ⟨⟨?_, ?_, ⟨?_, ?_, trivial⟩⟩, ⟨?_, ?_, ⟨?_, ?_, trivial⟩⟩, ⟨?_, ?_, ⟨?_, ?_, trivial⟩⟩, ⟨?_, ?_, ⟨?_, ?_, trivial⟩⟩, trivial⟩
      all_goals first | (with_reducible assumption) | omega | (simp; omega) | (simp [go_sem]; done) | (simp [go_sem, *]; done) | (intro o; first | (simp [go_sem]; done) | (simp [go_sem, *]; done))
    clear hW0 hF hB hs
    (with_reducible refine (Order_any _ _ _ _ _ _ _ _ _).mono ?_)
    rw [q1]
    rintro e w3 ⟨rfl, hb⟩
    have hF := OwnL.ext hb H0
    simp only [OwnL, cellsL, and_true] at hF
    have hB := Ext.from hb hB0 hB0.size
    have hs := hB.size
    clear hb H0 hB0
    go_wp2_with fail
    refine at_calls (fun W0 hW0 => ?_)
    have hB0 : Below w.heap.size w W0 := by rw [hW0]; first | (with_reducible assumption) | (go_grown; done)
    have H0 : OwnL W0 [(w.heap.size, [.int .i64 (A), .int .i64 (B)]), (w.heap.size + 1, [.int .i64 (P), .int .i64 (Q)]), (w2.heap.size, [.int .i64 (A), .int .i64 (1)]), (w2.heap.size + 1, [.int .i64 (P), .int .i64 (1)])] := by
      rw [hW0]; simp only [OwnL, cellsL]
      refine ⟨⟨?_, ?_, ⟨?_, ?_, trivial⟩⟩, ⟨?_, ?_, ⟨?_, ?_, trivial⟩⟩, ⟨?_, ?_, ⟨?_, ?_, trivial⟩⟩, ⟨?_, ?_, ⟨?_, ?_, trivial⟩⟩, trivial⟩
      all_goals first | (with_reducible assumption) | omega | (simp; omega) | (simp [go_sem]; done) | (simp [go_sem, *]; done) | (intro o; first | (simp [go_sem]; done) | (simp [go_sem, *]; done))
    clear hW0 hF hB hs
    (with_reducible refine (Order_any _ _ _ _ _ _ _ _ _).mono ?_)
    rw [q2]
    rintro e w4 ⟨rfl, hb⟩
    have hF := OwnL.ext hb H0
    simp only [OwnL, cellsL, and_true] at hF
    have hB := Ext.from hb hB0 hB0.size
    have hs := hB.size
    clear hb H0 hB0
    go_wp2_with fail
    refine at_calls (fun W0 hW0 => ?_)
    have hB0 : Below w.heap.size w W0 := by rw [hW0]; first | (with_reducible assumption) | (go_grown; done)
    have H0 : OwnL W0 [(w.heap.size, [.int .i64 (A), .int .i64 (B)]), (w.heap.size + 1, [.int .i64 (P), .int .i64 (Q)]), (w2.heap.size, [.int .i64 (A), .int .i64 (1)]), (w2.heap.size + 1, [.int .i64 (P), .int .i64 (1)])] := by
      rw [hW0]; simp only [OwnL, cellsL]
      refine ⟨⟨?_, ?_, ⟨?_, ?_, trivial⟩⟩, ⟨?_, ?_, ⟨?_, ?_, trivial⟩⟩, ⟨?_, ?_, ⟨?_, ?_, trivial⟩⟩, ⟨?_, ?_, ⟨?_, ?_, trivial⟩⟩, trivial⟩
      all_goals first | (with_reducible assumption) | omega | (simp; omega) | (simp [go_sem]; done) | (simp [go_sem, *]; done) | (intro o; first | (simp [go_sem]; done) | (simp [go_sem, *]; done))
    clear hW0 hF hB hs
    (with_reducible refine (Order_any _ _ _ _ _ _ _ _ _).mono ?_)
    rw [q3]
    rintro e w5 ⟨rfl, hb⟩
    have hF := OwnL.ext hb H0
    simp only [OwnL, cellsL, and_true] at hF
    have hB := Ext.from hb hB0 hB0.size
    have hs := hB.size
    clear hb H0 hB0
    go_wp2_with fail
    refine at_calls (fun W0 hW0 => ?_)
    have hB0 : Below w.heap.size w W0 := by rw [hW0]; first | (with_reducible assumption) | (go_grown; done)
    have H0 : OwnL W0 [(w.heap.size, [.int .i64 (A), .int .i64 (B)]), (w.heap.size + 1, [.int .i64 (P), .int .i64 (Q)]), (w2.heap.size, [.int .i64 (A), .int .i64 (1)]), (w2.heap.size + 1, [.int .i64 (P), .int .i64 (1)])] := by
      rw [hW0]; simp only [OwnL, cellsL]
      refine ⟨⟨?_, ?_, ⟨?_, ?_, trivial⟩⟩, ⟨?_, ?_, ⟨?_, ?_, trivial⟩⟩, ⟨?_, ?_, ⟨?_, ?_, trivial⟩⟩, ⟨?_, ?_, ⟨?_, ?_, trivial⟩⟩, trivial⟩
      all_goals first | (with_reducible assumption) | omega | (simp; omega) | (simp [go_sem]; done) | (simp [go_sem, *]; done) | (intro o; first | (simp [go_sem]; done) | (simp [go_sem, *]; done))
    clear hW0 hF hB hs
    (with_reducible refine (Order_any _ _ _ _ _ _ _ _ _).mono ?_)
    rw [q4]
    rintro e w6 ⟨rfl, hb⟩
    have hF := OwnL.ext hb H0
    simp only [OwnL, cellsL, and_true] at hF
    have hB := Ext.from hb hB0 hB0.size
    have hs := hB.size
    clear hb H0 hB0
    go_wp2
    go_ret
    exact ⟨by simp, by go_grown⟩
  · have q2 := o2 A B 1 P Q dA dB (by omega) (by omega) (by omega)
    have q3 := o3 A 1
    have q4 := o4 A 1 P Q dA (by omega) (by omega) (by omega)
    go_wp2_with fail
    refine at_calls (fun W0 hW0 => ?_)
    have hB0 : Below w.heap.size w W0 := by rw [hW0]; first | (with_reducible assumption) | (go_grown; done)
    have H0 : OwnL W0 [(w.heap.size, [.int .i64 (A), .int .i64 (B)]), (w.heap.size + 1, [.int .i64 (P), .int .i64 (Q)]), (w2.heap.size, [.int .i64 (A), .int .i64 (1)]), (w2.heap.size + 1, [.int .i64 (P), .int .i64 (Q)])] := by
      rw [hW0]; simp only [OwnL, cellsL]
      refine ⟨⟨?_, ?_, ⟨?_, ?_, trivial⟩⟩, ⟨?_, ?_, ⟨?_, ?_, trivial⟩⟩, ⟨?_, ?_, ⟨?_, ?_, trivial⟩⟩, ⟨?_, ?_, ⟨?_, ?_, trivial⟩⟩, trivial⟩
      all_goals first | (with_reducible assumption) | omega | (simp; omega) | (simp [go_sem]; done) | (simp [go_sem, *]; done) | (intro o; first | (simp [go_sem]; done) | (simp [go_sem, *]; done))
    clear hW0 hF hB hs
    (with_reducible refine (Order_any _ _ _ _ _ _ _ _ _).mono ?_)
    rw [q1]
    rintro e w3 ⟨rfl, hb⟩
    have hF := OwnL.ext hb H0
    simp only [OwnL, cellsL, and_true] at hF
    have hB := Ext.from hb hB0 hB0.size
    have hs := hB.size
    clear hb H0 hB0
    go_wp2_with fail
    refine at_calls (fun W0 hW0 => ?_)
    have hB0 : Below w.heap.size w W0 := by rw [hW0]; first | (with_reducible assumption) | (go_grown; done)
    have H0 : OwnL W0 [(w.heap.size, [.int .i64 (A), .int .i64 (B)]), (w.heap.size + 1, [.int .i64 (P), .int .i64 (Q)]), (w2.heap.size, [.int .i64 (A), .int .i64 (1)]), (w2.heap.size + 1, [.int .i64 (P), .int .i64 (Q)])] := by
      rw [hW0]; simp only [OwnL, cellsL]
      refine ⟨⟨?_, ?_, ⟨?_, ?_, trivial⟩⟩, ⟨?_, ?_, ⟨?_, ?_, trivial⟩⟩, ⟨?_, ?_, ⟨?_, ?_, trivial⟩⟩, ⟨?_, ?_, ⟨?_, ?_, trivial⟩⟩, trivial⟩
      all_goals first | (with_reducible assumption) | omega | (simp; omega) | (simp [go_sem]; done) | (simp [go_sem, *]; done) | (intro o; first | (simp [go_sem]; done) | (simp [go_sem, *]; done))
    clear hW0 hF hB hs
    (with_reducible refine (Order_any _ _ _ _ _ _ _ _ _).mono ?_)
    rw [q2]
    rintro e w4 ⟨rfl, hb⟩
    have hF := OwnL.ext hb H0
    simp only [OwnL, cellsL, and_true] at hF
    have hB := Ext.from hb hB0 hB0.size
    have hs := hB.size
    clear hb H0 hB0
    go_wp2_with fail
    refine at_calls (fun W0 hW0 => ?_)
    have hB0 : Below w.heap.size w W0 := by rw [hW0]; first | (with_reducible assumption) | (go_grown; done)
    have H0 : OwnL W0 [(w.heap.size, [.int .i64 (A), .int .i64 (B)]), (w.heap.size + 1, [.int .i64 (P), .int .i64 (Q)]), (w2.heap.size, [.int .i64 (A), .int .i64 (1)]), (w2.heap.size + 1, [.int .i64 (P), .int .i64 (Q)])] := by
      rw [hW0]; simp only [OwnL, cellsL]
      refine ⟨⟨?_, ?_, ⟨?_, ?_, trivial⟩⟩, ⟨?_, ?_, ⟨?_, ?_, trivial⟩⟩, ⟨?_, ?_, ⟨?_, ?_, trivial⟩⟩, ⟨?_, ?_, ⟨?_, ?_, trivial⟩⟩, trivial⟩
      all_goals first | (with_reducible assumption) | omega | (simp; omega) | (simp [go_sem]; done) | (simp [go_sem, *]; done) | (intro o; first | (simp [go_sem]; done) | (simp [go_sem, *]; done))
    clear hW0 hF hB hs
    (with_reducible refine (Order_any _ _ _ _ _ _ _ _ _).mono ?_)
    rw [q3]
    rintro e w5 ⟨rfl, hb⟩
    have hF := OwnL.ext hb H0
    simp only [OwnL, cellsL, and_true] at hF
    have hB := Ext.from hb hB0 hB0.size
    have hs := hB.size
    clear hb H0 hB0
    go_wp2_with fail
    refine at_calls (fun W0 hW0 => ?_)
    have hB0 : Below w.heap.size w W0 := by rw [hW0]; first | (with_reducible assumption) | (go_grown; done)
    have H0 : OwnL W0 [(w.heap.size, [.int .i64 (A), .int .i64 (B)]), (w.heap.size + 1, [.int .i64 (P), .int .i64 (Q)]), (w2.heap.size, [.int .i64 (A), .int .i64 (1)]), (w2.heap.size + 1, [.int .i64 (P), .int .i64 (Q)])] := by
      rw [hW0]; simp only [OwnL, cellsL]
      refine ⟨⟨?_, ?_, ⟨?_, ?_, trivial⟩⟩, ⟨?_, ?_, ⟨?_, ?_, trivial⟩⟩, ⟨?_, ?_, ⟨?_, ?_, trivial⟩⟩, ⟨?_, ?_, ⟨?_, ?_, trivial⟩⟩, trivial⟩
      all_goals first | (with_reducible assumption) | omega | (simp; omega) | (simp [go_sem]; done) | (simp [go_sem, *]; done) | (intro o; first | (simp [go_sem]; done) | (simp [go_sem, *]; done))
    clear hW0 hF hB hs
    (with_reducible refine (Order_any _ _ _ _ _ _ _ _ _).mono ?_)
    rw [q4]
    rintro e w6 ⟨rfl, hb⟩
    have hF := OwnL.ext hb H0
    simp only [OwnL, cellsL, and_true] at hF
    have hB := Ext.from hb hB0 hB0.size
    have hs := hB.size
    clear hb H0 hB0
    go_wp2
    go_ret
    exact ⟨by simp, by go_grown⟩
  · have q2 := o2 A B B 1 1 dA dB (by omega) (by omega) (by omega)
    have q3 := o3 A B
    have q4 := o4 A B 1 1 dA (by omega) (by omega) (by omega)
    go_wp2_with fail
    refine at_calls (fun W0 hW0 => ?_)
    have hB0 : Below w.heap.size w W0 := by rw [hW0]; first | (with_reducible assumption) | (go_grown; done)
    have H0 : OwnL W0 [(w.heap.size, [.int .i64 (A), .int .i64 (B)]), (w.heap.size + 1, [.int .i64 (P), .int .i64 (Q)]), (w2.heap.size, [.int .i64 (A), .int .i64 (B)]), (w2.heap.size + 1, [.int .i64 (1), .int .i64 (1)])] := by
      rw [hW0]; simp only [OwnL, cellsL]
      refine ⟨⟨?_, ?_, ⟨?_, ?_, trivial⟩⟩, ⟨?_, ?_, ⟨?_, ?_, trivial⟩⟩, ⟨?_, ?_, ⟨?_, ?_, trivial⟩⟩, ⟨?_, ?_, ⟨?_, ?_, trivial⟩⟩, trivial⟩
      all_goals first | (with_reducible assumption) | omega | (simp; omega) | (simp [go_sem]; done) | (simp [go_sem, *]; done) | (intro o; first | (simp [go_sem]; done) | (simp [go_sem, *]; done))
    clear hW0 hF hB hs
    (with_reducible refine (Order_any _ _ _ _ _ _ _ _ _).mono ?_)
    rw [q1]
    rintro e w3 ⟨rfl, hb⟩
    have hF := OwnL.ext hb H0
    simp only [OwnL, cellsL, and_true] at hF
    have hB := Ext.from hb hB0 hB0.size
    have hs := hB.size
    clear hb H0 hB0
    go_wp2_with fail
    refine at_calls (fun W0 hW0 => ?_)
    have hB0 : Below w.heap.size w W0 := by rw [hW0]; first | (with_reducible assumption) | (go_grown; done)
    have H0 : OwnL W0 [(w.heap.size, [.int .i64 (A), .int .i64 (B)]), (w.heap.size + 1, [.int .i64 (P), .int .i64 (Q)]), (w2.heap.size, [.int .i64 (A), .int .i64 (B)]), (w2.heap.size + 1, [.int .i64 (1), .int .i64 (1)])] := by
      rw [hW0]; simp only [OwnL, cellsL]
      refine ⟨⟨?_, ?_, ⟨?_, ?_, trivial⟩⟩, ⟨?_, ?_, ⟨?_, ?_, trivial⟩⟩, ⟨?_, ?_, ⟨?_, ?_, trivial⟩⟩, ⟨?_, ?_, ⟨?_, ?_, trivial⟩⟩, trivial⟩
      all_goals first | (with_reducible assumption) | omega | (simp; omega) | (simp [go_sem]; done) | (simp [go_sem, *]; done) | (intro o; first | (simp [go_sem]; done) | (simp [go_sem, *]; done))
    clear hW0 hF hB hs
    (with_reducible refine (Order_any _ _ _ _ _ _ _ _ _).mono ?_)
    rw [q2]
    rintro e w4 ⟨rfl, hb⟩
    have hF := OwnL.ext hb H0
    simp only [OwnL, cellsL, and_true] at hF
    have hB := Ext.from hb hB0 hB0.size
    have hs := hB.size
    clear hb H0 hB0
    go_wp2_with fail
    refine at_calls (fun W0 hW0 => ?_)
    have hB0 : Below w.heap.size w W0 := by rw [hW0]; first | (with_reducible assumption) | (go_grown; done)
    have H0 : OwnL W0 [(w.heap.size, [.int .i64 (A), .int .i64 (B)]), (w.heap.size + 1, [.int .i64 (P), .int .i64 (Q)]), (w2.heap.size, [.int .i64 (A), .int .i64 (B)]), (w2.heap.size + 1, [.int .i64 (1), .int .i64 (1)])] := by
      rw [hW0]; simp only [OwnL, cellsL]
      refine ⟨⟨?_, ?_, ⟨?_, ?_, trivial⟩⟩, ⟨?_, ?_, ⟨?_, ?_, trivial⟩⟩, ⟨?_, ?_, ⟨?_, ?_, trivial⟩⟩, ⟨?_, ?_, ⟨?_, ?_, trivial⟩⟩, trivial⟩
      all_goals first | (with_reducible assumption) | omega | (simp; omega) | (simp [go_sem]; done) | (simp [go_sem, *]; done) | (intro o; first | (simp [go_sem]; done) | (simp [go_sem, *]; done))
    clear hW0 hF hB hs
    (with_reducible refine (Order_any _ _ _ _ _ _ _ _ _).mono ?_)
    rw [q3]
    rintro e w5 ⟨rfl, hb⟩
    have hF := OwnL.ext hb H0
    simp only [OwnL, cellsL, and_true] at hF
    have hB := Ext.from hb hB0 hB0.size
    have hs := hB.size
    clear hb H0 hB0
    go_wp2_with fail
    refine at_calls (fun W0 hW0 => ?_)
    have hB0 : Below w.heap.size w W0 := by rw [hW0]; first | (with_reducible assumption) | (go_grown; done)
    have H0 : OwnL W0 [(w.heap.size, [.int .i64 (A), .int .i64 (B)]), (w.heap.size + 1, [.int .i64 (P), .int .i64 (Q)]), (w2.heap.size, [.int .i64 (A), .int .i64 (B)]), (w2.heap.size + 1, [.int .i64 (1), .int .i64 (1)])] := by
      rw [hW0]; simp only [OwnL, cellsL]
      refine ⟨⟨?_, ?_, ⟨?_, ?_, trivial⟩⟩, ⟨?_, ?_, ⟨?_, ?_, trivial⟩⟩, ⟨?_, ?_, ⟨?_, ?_, trivial⟩⟩, ⟨?_, ?_, ⟨?_, ?_, trivial⟩⟩, trivial⟩
      all_goals first | (with_reducible assumption) | omega | (simp; omega) | (simp [go_sem]; done) | (simp [go_sem, *]; done) | (intro o; first | (simp [go_sem]; done) | (simp [go_sem, *]; done))
    clear hW0 hF hB hs
    (with_reducible refine (Order_any _ _ _ _ _ _ _ _ _).mono ?_)
    rw [q4]
    rintro e w6 ⟨rfl, hb⟩
    have hF := OwnL.ext hb H0
    simp only [OwnL, cellsL, and_true] at hF
    have hB := Ext.from hb hB0 hB0.size
    have hs := hB.size
    clear hb H0 hB0
    go_wp2
    go_ret
    exact ⟨by simp, by go_grown⟩
  · have q2 := o2 A B B 1 Q dA dB (by omega) (by omega) (by omega)
    have q3 := o3 A B
    have q4 := o4 A B 1 Q dA (by omega) (by omega) (by omega)
    go_wp2_with fail
    refine at_calls (fun W0 hW0 => ?_)
    have hB0 : Below w.heap.size w W0 := by rw [hW0]; first | (with_reducible assumption) | (go_grown; done)
    have H0 : OwnL W0 [(w.heap.size, [.int .i64 (A), .int .i64 (B)]), (w.heap.size + 1, [.int .i64 (P), .int .i64 (Q)]), (w2.heap.size, [.int .i64 (A), .int .i64 (B)]), (w2.heap.size + 1, [.int .i64 (1), .int .i64 (Q)])] := by
      rw [hW0]; simp only [OwnL, cellsL]
      refine ⟨⟨?_, ?_, ⟨?_, ?_, trivial⟩⟩, ⟨?_, ?_, ⟨?_, ?_, trivial⟩⟩, ⟨?_, ?_, ⟨?_, ?_, trivial⟩⟩, ⟨?_, ?_, ⟨?_, ?_, trivial⟩⟩, trivial⟩
      all_goals first | (with_reducible assumption) | omega | (simp; omega) | (simp [go_sem]; done) | (simp [go_sem, *]; done) | (intro o; first | (simp [go_sem]; done) | (simp [go_sem, *]; done))
    clear hW0 hF hB hs
    (with_reducible refine (Order_any _ _ _ _ _ _ _ _ _).mono ?_)
    rw [q1]
    rintro e w3 ⟨rfl, hb⟩
    have hF := OwnL.ext hb H0
    simp only [OwnL, cellsL, and_true] at hF
    have hB := Ext.from hb hB0 hB0.size
    have hs := hB.size
    clear hb H0 hB0
    go_wp2_with fail
    refine at_calls (fun W0 hW0 => ?_)
    have hB0 : Below w.heap.size w W0 := by rw [hW0]; first | (with_reducible assumption) | (go_grown; done)
    have H0 : OwnL W0 [(w.heap.size, [.int .i64 (A), .int .i64 (B)]), (w.heap.size + 1, [.int .i64 (P), .int .i64 (Q)]), (w2.heap.size, [.int .i64 (A), .int .i64 (B)]), (w2.heap.size + 1, [.int .i64 (1), .int .i64 (Q)])] := by
      rw [hW0]; simp only [OwnL, cellsL]
      refine ⟨⟨?_, ?_, ⟨?_, ?_, trivial⟩⟩, ⟨?_, ?_, ⟨?_, ?_, trivial⟩⟩, ⟨?_, ?_, ⟨?_, ?_, trivial⟩⟩, ⟨?_, ?_, ⟨?_, ?_, trivial⟩⟩, trivial⟩
      all_goals first | (with_reducible assumption) | omega | (simp; omega) | (simp [go_sem]; done) | (simp [go_sem, *]; done) | (intro o; first | (simp [go_sem]; done) | (simp [go_sem, *]; done))
    clear hW0 hF hB hs
    (with_reducible refine (Order_any _ _ _ _ _ _ _ _ _).mono ?_)
    rw [q2]
    rintro e w4 ⟨rfl, hb⟩
    have hF := OwnL.ext hb H0
    simp only [OwnL, cellsL, and_true] at hF
    have hB := Ext.from hb hB0 hB0.size
    have hs := hB.size
    clear hb H0 hB0
    go_wp2_with fail
    refine at_calls (fun W0 hW0 => ?_)
    have hB0 : Below w.heap.size w W0 := by rw [hW0]; first | (with_reducible assumption) | (go_grown; done)
    have H0 : OwnL W0 [(w.heap.size, [.int .i64 (A), .int .i64 (B)]), (w.heap.size + 1, [.int .i64 (P), .int .i64 (Q)]), (w2.heap.size, [.int .i64 (A), .int .i64 (B)]), (w2.heap.size + 1, [.int .i64 (1), .int .i64 (Q)])] := by
      rw [hW0]; simp only [OwnL, cellsL]
      refine ⟨⟨?_, ?_, ⟨?_, ?_, trivial⟩⟩, ⟨?_, ?_, ⟨?_, ?_, trivial⟩⟩, ⟨?_, ?_, ⟨?_, ?_, trivial⟩⟩, ⟨?_, ?_, ⟨?_, ?_, trivial⟩⟩, trivial⟩
      all_goals first | (with_reducible assumption) | omega | (simp; omega) | (simp [go_sem]; done) | (simp [go_sem, *]; done) | (intro o; first | (simp [go_sem]; done) | (simp [go_sem, *]; done))
    clear hW0 hF hB hs
    (with_reducible refine (Order_any _ _ _ _ _ _ _ _ _).mono ?_)
    rw [q3]
    rintro e w5 ⟨rfl, hb⟩
    have hF := OwnL.ext hb H0
    simp only [OwnL, cellsL, and_true] at hF
    have hB := Ext.from hb hB0 hB0.size
    have hs := hB.size
    clear hb H0 hB0
    go_wp2_with fail
    refine at_calls (fun W0 hW0 => ?_)
    have hB0 : Below w.heap.size w W0 := by rw [hW0]; first | (with_reducible assumption) | (go_grown; done)
    have H0 : OwnL W0 [(w.heap.size, [.int .i64 (A), .int .i64 (B)]), (w.heap.size + 1, [.int .i64 (P), .int .i64 (Q)]), (w2.heap.size, [.int .i64 (A), .int .i64 (B)]), (w2.heap.size + 1, [.int .i64 (1), .int .i64 (Q)])] := by
      rw [hW0]; simp only [OwnL, cellsL]
      refine ⟨⟨?_, ?_, ⟨?_, ?_, trivial⟩⟩, ⟨?_, ?_, ⟨?_, ?_, trivial⟩⟩, ⟨?_, ?_, ⟨?_, ?_, trivial⟩⟩, ⟨?_, ?_, ⟨?_, ?_, trivial⟩⟩, trivial⟩
      all_goals first | (with_reducible assumption) | omega | (simp; omega) | (simp [go_sem]; done) | (simp [go_sem, *]; done) | (intro o; first | (simp [go_sem]; done) | (simp [go_sem, *]; done))
    clear hW0 hF hB hs
    (with_reducible refine (Order_any _ _ _ _ _ _ _ _ _).mono ?_)
    rw [q4]
    rintro e w6 ⟨rfl, hb⟩
    have hF := OwnL.ext hb H0
    simp only [OwnL, cellsL, and_true] at hF
    have hB := Ext.from hb hB0 hB0.size
    have hs := hB.size
    clear hb H0 hB0
    go_wp2
    go_ret
    exact ⟨by simp, by go_grown⟩
  · have q2 := o2 A B B P 1 dA dB (by omega) (by omega) (by omega)
    have q3 := o3 A B
    have q4 := o4 A B P 1 dA (by omega) (by omega) (by omega)
    go_wp2_with fail
    refine at_calls (fun W0 hW0 => ?_)
    have hB0 : Below w.heap.size w W0 := by rw [hW0]; first | (with_reducible assumption) | (go_grown; done)
    have H0 : OwnL W0 [(w.heap.size, [.int .i64 (A), .int .i64 (B)]), (w.heap.size + 1, [.int .i64 (P), .int .i64 (Q)]), (w2.heap.size, [.int .i64 (A), .int .i64 (B)]), (w2.heap.size + 1, [.int .i64 (P), .int .i64 (1)])] := by
      rw [hW0]; simp only [OwnL, cellsL]
      refine ⟨⟨?_, ?_, ⟨?_, ?_, trivial⟩⟩, ⟨?_, ?_, ⟨?_, ?_, trivial⟩⟩, ⟨?_, ?_, ⟨?_, ?_, trivial⟩⟩, ⟨?_, ?_, ⟨?_, ?_, trivial⟩⟩, trivial⟩
      all_goals first | (with_reducible assumption) | omega | (simp; omega) | (simp [go_sem]; done) | (simp [go_sem, *]; done) | (intro o; first | (simp [go_sem]; done) | (simp [go_sem, *]; done))
    clear hW0 hF hB hs
    (with_reducible refine (Order_any _ _ _ _ _ _ _ _ _).mono ?_)
    rw [q1]
    rintro e w3 ⟨rfl, hb⟩
    have hF := OwnL.ext hb H0
    simp only [OwnL, cellsL, and_true] at hF
    have hB := Ext.from hb hB0 hB0.size
    have hs := hB.size
    clear hb H0 hB0
    go_wp2_with fail
    refine at_calls (fun W0 hW0 => ?_)
    have hB0 : Below w.heap.size w W0 := by rw [hW0]; first | (with_reducible assumption) | (go_grown; done)
    have H0 : OwnL W0 [(w.heap.size, [.int .i64 (A), .int .i64 (B)]), (w.heap.size + 1, [.int .i64 (P), .int .i64 (Q)]), (w2.heap.size, [.int .i64 (A), .int .i64 (B)]), (w2.heap.size + 1, [.int .i64 (P), .int .i64 (1)])] := by
      rw [hW0]; simp only [OwnL, cellsL]
      refine ⟨⟨?_, ?_, ⟨?_, ?_, trivial⟩⟩, ⟨?_, ?_, ⟨?_, ?_, trivial⟩⟩, ⟨?_, ?_, ⟨?_, ?_, trivial⟩⟩, ⟨?_, ?_, ⟨?_, ?_, trivial⟩⟩, trivial⟩
      all_goals first | (with_reducible assumption) | omega | (simp; omega) | (simp [go_sem]; done) | (simp [go_sem, *]; done) | (intro o; first | (simp [go_sem]; done) | (simp [go_sem, *]; done))
    clear hW0 hF hB hs
    (with_reducible refine (Order_any _ _ _ _ _ _ _ _ _).mono ?_)
    rw [q2]
    rintro e w4 ⟨rfl, hb⟩
    have hF := OwnL.ext hb H0
    simp only [OwnL, cellsL, and_true] at hF
    have hB := Ext.from hb hB0 hB0.size
    have hs := hB.size
    clear hb H0 hB0
    go_wp2_with fail
    refine at_calls (fun W0 hW0 => ?_)
    have hB0 : Below w.heap.size w W0 := by rw [hW0]; first | (with_reducible assumption) | (go_grown; done)
    have H0 : OwnL W0 [(w.heap.size, [.int .i64 (A), .int .i64 (B)]), (w.heap.size + 1, [.int .i64 (P), .int .i64 (Q)]), (w2.heap.size, [.int .i64 (A), .int .i64 (B)]), (w2.heap.size + 1, [.int .i64 (P), .int .i64 (1)])] := by
      rw [hW0]; simp only [OwnL, cellsL]
      refine ⟨⟨?_, ?_, ⟨?_, ?_, trivial⟩⟩, ⟨?_, ?_, ⟨?_, ?_, trivial⟩⟩, ⟨?_, ?_, ⟨?_, ?_, trivial⟩⟩, ⟨?_, ?_, ⟨?_, ?_, trivial⟩⟩, trivial⟩
      all_goals first | (with_reducible assumption) | omega | (simp; omega) | (simp [go_sem]; done) | (simp [go_sem, *]; done) | (intro o; first | (simp [go_sem]; done) | (simp [go_sem, *]; done))
    clear hW0 hF hB hs
    (with_reducible refine (Order_any _ _ _ _ _ _ _ _ _).mono ?_)
    rw [q3]
    rintro e w5 ⟨rfl, hb⟩
    have hF := OwnL.ext hb H0
    simp only [OwnL, cellsL, and_true] at hF
    have hB := Ext.from hb hB0 hB0.size
    have hs := hB.size
    clear hb H0 hB0
    go_wp2_with fail
    refine at_calls (fun W0 hW0 => ?_)
    have hB0 : Below w.heap.size w W0 := by rw [hW0]; first | (with_reducible assumption) | (go_grown; done)
    have H0 : OwnL W0 [(w.heap.size, [.int .i64 (A), .int .i64 (B)]), (w.heap.size + 1, [.int .i64 (P), .int .i64 (Q)]), (w2.heap.size, [.int .i64 (A), .int .i64 (B)]), (w2.heap.size + 1, [.int .i64 (P), .int .i64 (1)])] := by
      rw [hW0]; simp only [OwnL, cellsL]
      refine ⟨⟨?_, ?_, ⟨?_, ?_, trivial⟩⟩, ⟨?_, ?_, ⟨?_, ?_, trivial⟩⟩, ⟨?_, ?_, ⟨?_, ?_, trivial⟩⟩, ⟨?_, ?_, ⟨?_, ?_, trivial⟩⟩, trivial⟩
      all_goals first | (with_reducible assumption) | omega | (simp; omega) | (simp [go_sem]; done) | (simp [go_sem, *]; done) | (intro o; first | (simp [go_sem]; done) | (simp [go_sem, *]; done))
    clear hW0 hF hB hs
    (with_reducible refine (Order_any _ _ _ _ _ _ _ _ _).mono ?_)
    rw [q4]
    rintro e w6 ⟨rfl, hb⟩
    have hF := OwnL.ext hb H0
    simp only [OwnL, cellsL, and_true] at hF
    have hB := Ext.from hb hB0 hB0.size
    have hs := hB.size
    clear hb H0 hB0
    go_wp2
    go_ret
    exact ⟨by simp, by go_grown⟩
  · have q2 := o2 A B B P Q dA dB (by omega) (by omega) (by omega)
    have q3 := o3 A B
    have q4 := o4 A B P Q dA (by omega) (by omega) (by omega)
    go_wp2_with fail
    refine at_calls (fun W0 hW0 => ?_)
    have hB0 : Below w.heap.size w W0 := by rw [hW0]; first | (with_reducible assumption) | (go_grown; done)
    have H0 : OwnL W0 [(w.heap.size, [.int .i64 (A), .int .i64 (B)]), (w.heap.size + 1, [.int .i64 (P), .int .i64 (Q)]), (w2.heap.size, [.int .i64 (A), .int .i64 (B)]), (w2.heap.size + 1, [.int .i64 (P), .int .i64 (Q)])] := by
      rw [hW0]; simp only [OwnL, cellsL]
      refine ⟨⟨?_, ?_, ⟨?_, ?_, trivial⟩⟩, ⟨?_, ?_, ⟨?_, ?_, trivial⟩⟩, ⟨?_, ?_, ⟨?_, ?_, trivial⟩⟩, ⟨?_, ?_, ⟨?_, ?_, trivial⟩⟩, trivial⟩
      all_goals first | (with_reducible assumption) | omega | (simp; omega) | (simp [go_sem]; done) | (simp [go_sem, *]; done) | (intro o; first | (simp [go_sem]; done) | (simp [go_sem, *]; done))
    clear hW0 hF hB hs
    (with_reducible refine (Order_any _ _ _ _ _ _ _ _ _).mono ?_)
    rw [q1]
    rintro e w3 ⟨rfl, hb⟩
    have hF := OwnL.ext hb H0
    simp only [OwnL, cellsL, and_true] at hF
    have hB := Ext.from hb hB0 hB0.size
    have hs := hB.size
    clear hb H0 hB0
    go_wp2_with fail
    refine at_calls (fun W0 hW0 => ?_)
    have hB0 : Below w.heap.size w W0 := by rw [hW0]; first | (with_reducible assumption) | (go_grown; done)
    have H0 : OwnL W0 [(w.heap.size, [.int .i64 (A), .int .i64 (B)]), (w.heap.size + 1, [.int .i64 (P), .int .i64 (Q)]), (w2.heap.size, [.int .i64 (A), .int .i64 (B)]), (w2.heap.size + 1, [.int .i64 (P), .int .i64 (Q)])] := by
      rw [hW0]; simp only [OwnL, cellsL]
      refine ⟨⟨?_, ?_, ⟨?_, ?_, trivial⟩⟩, ⟨?_, ?_, ⟨?_, ?_, trivial⟩⟩, ⟨?_, ?_, ⟨?_, ?_, trivial⟩⟩, ⟨?_, ?_, ⟨?_, ?_, trivial⟩⟩, trivial⟩
      all_goals first | (with_reducible assumption) | omega | (simp; omega) | (simp [go_sem]; done) | (simp [go_sem, *]; done) | (intro o; first | (simp [go_sem]; done) | (simp [go_sem, *]; done))
    clear hW0 hF hB hs
    (with_reducible refine (Order_any _ _ _ _ _ _ _ _ _).mono ?_)
    rw [q2]
    rintro e w4 ⟨rfl, hb⟩
    have hF := OwnL.ext hb H0
    simp only [OwnL, cellsL, and_true] at hF
    have hB := Ext.from hb hB0 hB0.size
    have hs := hB.size
    clear hb H0 hB0
    go_wp2_with fail
    refine at_calls (fun W0 hW0 => ?_)
    have hB0 : Below w.heap.size w W0 := by rw [hW0]; first | (with_reducible assumption) | (go_grown; done)
    have H0 : OwnL W0 [(w.heap.size, [.int .i64 (A), .int .i64 (B)]), (w.heap.size + 1, [.int .i64 (P), .int .i64 (Q)]), (w2.heap.size, [.int .i64 (A), .int .i64 (B)]), (w2.heap.size + 1, [.int .i64 (P), .int .i64 (Q)])] := by
      rw [hW0]; simp only [OwnL, cellsL]
      refine ⟨⟨?_, ?_, ⟨?_, ?_, trivial⟩⟩, ⟨?_, ?_, ⟨?_, ?_, trivial⟩⟩, ⟨?_, ?_, ⟨?_, ?_, trivial⟩⟩, ⟨?_, ?_, ⟨?_, ?_, trivial⟩⟩, trivial⟩
      all_goals first | (with_reducible assumption) | omega | (simp; omega) | (simp [go_sem]; done) | (simp [go_sem, *]; done) | (intro o; first | (simp [go_sem]; done) | (simp [go_sem, *]; done))
    clear hW0 hF hB hs
    (with_reducible refine (Order_any _ _ _ _ _ _ _ _ _).mono ?_)
    rw [q3]
    rintro e w5 ⟨rfl, hb⟩
    have hF := OwnL.ext hb H0
    simp only [OwnL, cellsL, and_true] at hF
    have hB := Ext.from hb hB0 hB0.size
    have hs := hB.size
    clear hb H0 hB0
    go_wp2_with fail
    refine at_calls (fun W0 hW0 => ?_)
    have hB0 : Below w.heap.size w W0 := by rw [hW0]; first | (with_reducible assumption) | (go_grown; done)
    have H0 : OwnL W0 [(w.heap.size, [.int .i64 (A), .int .i64 (B)]), (w.heap.size + 1, [.int .i64 (P), .int .i64 (Q)]), (w2.heap.size, [.int .i64 (A), .int .i64 (B)]), (w2.heap.size + 1, [.int .i64 (P), .int .i64 (Q)])] := by
      rw [hW0]; simp only [OwnL, cellsL]
      refine ⟨⟨?_, ?_, ⟨?_, ?_, trivial⟩⟩, ⟨?_, ?_, ⟨?_, ?_, trivial⟩⟩, ⟨?_, ?_, ⟨?_, ?_, trivial⟩⟩, ⟨?_, ?_, ⟨?_, ?_, trivial⟩⟩, trivial⟩
      all_goals first | (with_reducible assumption) | omega | (simp; omega) | (simp [go_sem]; done) | (simp [go_sem, *]; done) | (intro o; first | (simp [go_sem]; done) | (simp [go_sem, *]; done))
    clear hW0 hF hB hs
    (with_reducible refine (Order_any _ _ _ _ _ _ _ _ _).mono ?_)
    rw [q4]
    rintro e w6 ⟨rfl, hb⟩
    have hF := OwnL.ext hb H0
    simp only [OwnL, cellsL, and_true] at hF
    have hB := Ext.from hb hB0 hB0.size
    have hs := hB.size
    clear hb H0 hB0
    go_wp2
    go_ret
    exact ⟨by simp, by go_grown⟩

theorem own : ownKnob Try.prog.godebug = none := by kernel_rfl
theorem cellsVec : Try.prog.cellsOf 23 = 2 := by kernel_rfl
set_option maxRecDepth 100000 in
theorem lifted (os : Os) (started : os.Started) (H : Type) (enc : TypeId × Value → H) :
    ReturnsInHanded {} Try.checked os 10 .any (Rows.rvecNoughtSpec.pre6 enc Try.prog Try.f10 Rows.rvecNoughtRow.domain false) (Rows.rvecNoughtSpec.post enc Try.prog Try.f10 false true false false) := by
  refine returnsInHanded_of_change (C := Try.checked) own started (by kernel_rfl) Try.func10
    (ChangeSpec.witness6 (enc := enc) (C := Try.checked) false ⟨#[], #[.agg #[.int .i64 0, .int .i64 0], .agg #[.int .i64 0, .int .i64 0]], []⟩ 8 (by kernel_rfl) (by kernel_rfl) (by kernel_rfl) (by kernel_rfl)) ?_
  intro W base args ds gs before hval0 hW hcnd _
  have hval : ∀ (j : Nat) t v, Try.f10.params[j]? = some t → args[j]? = some v → Value.okWide Try.prog W .any base t v := hval0
  have hW' := hW
  obtain ⟨p, q, hA0, hV, rfl, hfz, hnd⟩ := hW
  have hA : DataW.TrodAll enc Try.prog W 0 (fun _ => true) true Try.f10.params.toList args.toList ds p := hA0
  rw [Try.params10] at hA hval
  obtain ⟨v0, vs0, d0, ds0, p0, q0, hargs, rfl, rfl, h0, r0⟩ := trodAll_cons hA
  obtain ⟨v1, vs1, d1, ds1, p1, q1, rfl, rfl, rfl, h1, r1⟩ := trodAll_cons r0
  obtain ⟨rfl, rfl, rfl⟩ := trodAll_nil r1
  obtain rfl : args = #[v0, v1] := by cases args; simp_all
  obtain ⟨rfl, rfl⟩ := trodVars_none hV
  obtain ⟨c0, e0, y0, z0, m0, rfl, rfl, rfl, hy0, hz0⟩ := open_agg2 Try.underlying23 (by kernel_rfl) cellsVec (hval 0 23 v0 rfl rfl) h0
  obtain ⟨a0, ea0, rfl, wa0⟩ := DataW.trod_int Try.underlying3 hy0
  obtain ⟨b0, eb0, rfl, wb0⟩ := DataW.trod_int Try.underlying3 hz0
  simp at ea0 eb0
  subst ea0 eb0
  obtain ⟨c1, e1, y1, z1, m1, rfl, rfl, rfl, hy1, hz1⟩ := open_agg2 Try.underlying23 (by kernel_rfl) cellsVec (hval 1 23 v1 rfl rfl) h1
  obtain ⟨a1, ea1, rfl, wa1⟩ := DataW.trod_int Try.underlying3 hy1
  obtain ⟨b1, eb1, rfl, wb1⟩ := DataW.trod_int Try.underlying3 hz1
  simp at ea1 eb1
  subst ea1 eb1
  clear hA0 hval0
  have structReads0 : ∀ (W' : World) (sp : Nat → Bool), DataW.Trod enc Try.prog W' 0 sp true 23 (.agg #[.int .i64 a0, .int .i64 b0]) (.agg [.lit (.int .i64 a0), .lit (.int .i64 b0)]) [] := fun W' sp =>
    shut_agg2 (y0 := (.lit (.int .i64 a0), [])) (y1 := (.lit (.int .i64 b0), [])) Try.underlying23 (by kernel_rfl) cellsVec ⟨1, by simp [DataW.trod, Try.underlying3, wa0]⟩ ⟨1, by simp [DataW.trod, Try.underlying3, wb0]⟩
  have structReads1 : ∀ (W' : World) (sp : Nat → Bool), DataW.Trod enc Try.prog W' 0 sp true 23 (.agg #[.int .i64 a1, .int .i64 b1]) (.agg [.lit (.int .i64 a1), .lit (.int .i64 b1)]) [] := fun W' sp =>
    shut_agg2 (y0 := (.lit (.int .i64 a1), [])) (y1 := (.lit (.int .i64 b1), [])) Try.underlying23 (by kernel_rfl) cellsVec ⟨1, by simp [DataW.trod, Try.underlying3, wa1]⟩ ⟨1, by simp [DataW.trod, Try.underlying3, wb1]⟩
  refine (walk a0 b0 wa0 wb0 a1 b1 wa1 wb1 W).mono fun e W' ⟨he, bel⟩ => ?_
  subst he
  exact ⟨_, rfl, _, _, _, [], _, [], hW', trodAll_mk1 (shut_bool Try.underlying4 _), (trodAll_cons_mk (structReads0 W' _) (trodAll_cons_mk (structReads1 W' _) trodAll_mk0)), rfl, bel.frame _, fun h => by cases h⟩

theorem over : Rows.rvecNoughtRow.holds Try.pinned (OpenSpec.ofChange Rows.rvecNoughtSpec) :=
  OpenClaim.holds_of_wide 10 Try.f10 rfl rfl rfl rfl rfl rfl rfl ⟨rfl, rfl, rfl, rfl, rfl⟩ rfl rfl rfl rfl rfl (by kernel_rfl) Try.func10 (by kernel_rfl)
    (of_decide_eq_true (by kernel_rfl)) (by unfold Func.isWrapper; first | (rw [if_pos (by decide +kernel)]; kernel_rfl) | (rw [if_neg (by decide +kernel)]; exact ⟨rfl, rfl⟩))
    (fun os started H enc _ => lifted os started H enc)

theorem proved : Rows.RvecNoughtSaid := over
#print axioms proved
end Go.Proofs.Ytkmhbjeacoeomaa.RvecNought
