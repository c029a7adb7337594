/- The law RvecParts holds at every input: what was added is taken off again; two halves are no more than the whole, and one less at most. No condition. -/
import Derived.Test.YtlifgdhieelihaaLaw
import Derived.Test.YtlifgdhieelihaaOwnL
import Derived.Test.YtlifgdhieelihaaLeafC
import Derived.OpenShut
import Derived.ChangeOld
import Derived.ChangeSame
import Derived.JoinedOf
import Derived.JoinedAt
import Derived.RowKit3
import Derived.Lib.SmallJoins
namespace Go.Proofs.Ytlifgdhieelihaa.RvecParts
open Go.ChangeShapes Go.WideShapes Go.ChangeAt Go.RowKit Go.Joins

theorem okV_of {a b : Int} (ha : 0 ≤ a ∧ a ≤ 1125899906842624) (hb : 0 ≤ b ∧ b ≤ 1125899906842624) : okV a b = true := by simp [okV, okI]; omega
theorem halves (n K : Int) : scI n K + scI n (10000 - K) ≤ n ∧ n ≤ scI n K + scI n (10000 - K) + 1 := by
  unfold scI
  have h1 : n / 10000 * (10000 - K) = n / 10000 * 10000 - n / 10000 * K := Int.mul_sub _ _ _
  have h2 : n % 10000 * (10000 - K) = n % 10000 * 10000 - n % 10000 * K := Int.mul_sub _ _ _
  rw [h1, h2]
  generalize n / 10000 * K = u
  generalize n % 10000 * K = v
  omega
theorem sc_nonneg (n K : Int) (hn : 0 ≤ n ∧ n ≤ 1125899906842624) (hK : 0 ≤ K ∧ K ≤ 10000) : 0 ≤ scI n K := by
  obtain ⟨⟨h1, _⟩, h2, _⟩ := scI_parts hn (bp := K) (by omega)
  unfold scI
  omega
theorem sc_bd (n K : Int) (hn : 0 ≤ n ∧ n ≤ 1125899906842624) (hK : 0 ≤ K ∧ K ≤ 10000) : 0 ≤ scI n K ∧ scI n K ≤ 1125899906842624 := by
  have h1 := sc_nonneg n K hn hK
  have h2 := sc_nonneg n (10000 - K) hn (by omega)
  have h3 := halves n K
  omega
theorem sc_vals (A B K : Int) (hA : 0 ≤ A ∧ A ≤ 1125899906842624) (hB : 0 ≤ B ∧ B ≤ 1125899906842624) (hK : 0 ≤ K ∧ K ≤ 10000) : scX A B K A = scI A K ∧ scX A B K B = scI B K ∧ scE A B K = 0 := by
  have h0 : okS A B K = true := by simp [okS, okV_of hA hB]; omega
  have h1 := okV_of (sc_bd A K hA hK) (sc_bd B K hB hK)
  simp [scX, scE, h0, resP, resE, h1]
theorem sum_ok (A B P Q x y p : Int) (h : okV A B = true) (k : okV P Q = true) (m : okV x y = true) : sumX A B P Q x y p = p ∧ sumE A B P Q x y = 0 := by
  simp [sumX, sumE, resP, resE, h, k, m]
theorem sum_over (A B P Q x y p : Int) (h : okV A B = true) (k : okV P Q = true) (m : okV x y = false) : sumX A B P Q x y p = 0 ∧ sumE A B P Q x y = 11 := by
  simp [sumX, sumE, resP, resE, h, k, m]

set_option maxHeartbeats 8000000 in
theorem walk (a0 b0 : Int) (_ : (Lit.int .i64 a0).wf = true) (_ : (Lit.int .i64 b0).wf = true) (a1 b1 : Int) (_ : (Lit.int .i64 a1).wf = true) (_ : (Lit.int .i64 b1).wf = true) (bp : Int) (_ : (Lit.int .i64 bp).wf = true) (how : Int) (_ : (Lit.int .i64 how).wf = true) (w : World) :
    Calls Try.prog 5 #[.agg #[.int .i64 a0, .int .i64 b0], .agg #[.int .i64 a1, .int .i64 b1], .int .i64 bp, .int .i64 how] w fun e w' => e = .returned (.bool true) ∧ Below w.heap.size w w' := by
  go_enter Try.func5, Try.ntmps5
  go_wp2_with fail
  refine at_calls (fun W0 hW0 => ?_)
  have hB0 : Below w.heap.size w W0 := by rw [hW0]; first | (with_reducible assumption) | (go_grown; done)
  have H0 : OwnL W0 [(w.heap.size, [.int .i64 (a0), .int .i64 (b0)]), (w.heap.size + 1, [.int .i64 (a1), .int .i64 (b1)])] := by
    rw [hW0]; simp only [OwnL, cellsL]
    refine ⟨⟨?_, ?_, ⟨?_, ?_, trivial⟩⟩, ⟨?_, ?_, ⟨?_, ?_, trivial⟩⟩, trivial⟩
    all_goals first | (with_reducible assumption) | omega | (simp; omega) | (simp [go_sem]; done) | (simp [go_sem, *]; done) | (intro o; first | (simp [go_sem]; done) | (simp [go_sem, *]; done))
  clear hW0
  (with_reducible refine (known_any _).mono ?_)
  rintro e w1 ⟨rfl, hb⟩
  have hF := OwnL.ext hb H0
  simp only [OwnL, cellsL, and_true] at hF
  have hB := Ext.from hb hB0 hB0.size
  have hs := hB.size
  clear hb H0 hB0
  go_upto_region 3 with fail
  refine at_world (fun W0 hW0 => ?_)
  have hB0 : Below w.heap.size w W0 := by rw [hW0]; first | (with_reducible assumption) | (go_grown; done)
  have H0 : OwnL W0 [(w.heap.size, [.int .i64 (a0), .int .i64 (b0)]), (w.heap.size + 1, [.int .i64 (a1), .int .i64 (b1)])] := by
    rw [hW0]; simp only [OwnL, cellsL]
    refine ⟨⟨?_, ?_, ⟨?_, ?_, trivial⟩⟩, ⟨?_, ?_, ⟨?_, ?_, trivial⟩⟩, trivial⟩
    all_goals first | (with_reducible assumption) | omega | (simp; omega) | (simp [go_sem]; done) | (simp [go_sem, *]; done) | (intro o; first | (simp [go_sem]; done) | (simp [go_sem, *]; done))
  clear hW0 hF hB hs
  refine wp_region_lex 6 (by kernel_rfl) (by kernel_rfl) (fun _ _ _ _ _ h => h) ?_
  simp only [List.take_succ_cons, List.take_zero, List.drop_succ_cons, List.drop_zero]
  repeat first | (refine seq_take ?_ (by rfl) (fun wk hb => ?_) ?_; rotate_left; (have hF := OwnL.ext hb H0; simp only [OwnL, cellsL, and_true] at hF; go_simp; first | exact OkX.val | (refine OkX.eqv (OkX.call (vec_any _ _ _ _)) ?_; exact rfl)); simp only [Act.put, List.setIfInBounds_toArray, List.set_cons_zero, List.set_cons_succ]) | (refine seq_skip (by rfl) ?_; simp only [Act.put, List.setIfInBounds_toArray, List.set_cons_zero, List.set_cons_succ])
  refine seq_nil (fun w2 hb => ?_)
  have hF := OwnL.ext hb H0
  simp only [OwnL, cellsL, and_true] at hF
  have hB := Ext.from hb hB0 hB0.size
  have hs := hB.size
  clear hb H0 hB0
  have dA := vp_bd how a0
  have dB := vp_bd how b0
  have dP := vp_bd how a1
  have dQ := vp_bd how b1
  generalize vp how a0 = A at *
  generalize vp how b0 = B at *
  generalize vp how a1 = P at *
  generalize vp how b1 = Q at *
  go_upto_region 4 with fail
  have dK : 0 ≤ bp % 10001 ∧ bp % 10001 ≤ 10000 := by omega
  go_wp2_with fail
  (with_reducible refine (within_any _ _ _ ⟨by decide, by decide⟩).mono ?_)
  rintro e wq ⟨rfl, rfl⟩
  generalize bp % 10001 = K at *
  obtain ⟨K0, K1⟩ := dK
  have s1 := sc_vals A B K dA dB ⟨K0, K1⟩
  have s2 := sc_vals A B (10000 - K) dA dB ⟨by omega, by omega⟩
  have h1 := halves A K
  have h2 := halves B K
  have n1 := sc_bd A K dA ⟨K0, K1⟩
  have n2 := sc_bd B K dB ⟨K0, K1⟩
  have n3 := sc_bd A (10000 - K) dA ⟨by omega, by omega⟩
  have n4 := sc_bd B (10000 - K) dB ⟨by omega, by omega⟩
  have S1 := Lib.hid s1; have S2 := Lib.hid s2
  clear s1 s2
  generalize scI A K = X1 at *; generalize scI B K = X2 at *; generalize scI A (10000 - K) = Y1 at *; generalize scI B (10000 - K) = Y2 at *
  have okA := Lib.hid (okV_of dA dB); have okP := Lib.hid (okV_of dP dQ)
  by_cases hs : A + P ≤ 1125899906842624 ∧ B + Q ≤ 1125899906842624
  · obtain ⟨hs1, hs2⟩ := hs
    have hm : okV (A + P) (B + Q) = true := okV_of (by omega) (by omega)
    have q := Lib.hid (fun p => sum_ok A B P Q (A + P) (B + Q) p okA.out okP.out hm)
    have r := Lib.hid (fun p => sum_ok (A + P) (B + Q) P Q (A + P - P) (B + Q - Q) p hm okP.out (by rw [show A + P - P = A from by omega, show B + Q - Q = B from by omega]; exact okA.out))
    have e1 := Lib.hid (show A + P - P = A from by omega); have e2 := Lib.hid (show B + Q - Q = B from by omega)
    clear hm
    go_wp2_with fail
    refine at_calls (fun W0 hW0 => ?_)
    have hB0 : Below w.heap.size w W0 := by rw [hW0]; first | (with_reducible assumption) | (go_grown; done)
    have H0 : OwnL W0 [(w.heap.size, [.int .i64 (A), .int .i64 (B)]), (w.heap.size + 1, [.int .i64 (P), .int .i64 (Q)])] := by
      rw [hW0]; simp only [OwnL, cellsL]
      refine ⟨⟨?_, ?_, ⟨?_, ?_, trivial⟩⟩, ⟨?_, ?_, ⟨?_, ?_, trivial⟩⟩, trivial⟩
      all_goals first | (with_reducible assumption) | omega | (simp; omega) | (simp [go_sem]; done) | (simp [go_sem, *]; done) | (intro o; first | (simp [go_sem]; done) | (simp [go_sem, *]; done))
    clear hW0 hF hB hs
    (with_reducible refine (Add_any _ _ _ _ _).mono ?_)
    rw [(q.out _).1, (q.out _).1, (q.out 0).2]
    rintro e w3 ⟨rfl, hb⟩
    have hF := OwnL.ext hb H0
    simp only [OwnL, cellsL, and_true] at hF
    have hB := Ext.from hb hB0 hB0.size
    have hs := hB.size
    clear hb H0 hB0
    go_wp2_with fail
    refine at_calls (fun W0 hW0 => ?_)
    have hB0 : Below w.heap.size w W0 := by rw [hW0]; first | (with_reducible assumption) | (go_grown; done)
    have H0 : OwnL W0 [(w.heap.size, [.int .i64 (A), .int .i64 (B)]), (w.heap.size + 1, [.int .i64 (P), .int .i64 (Q)]), (w3.heap.size, [.int .i64 (A + P), .int .i64 (B + Q)])] := by
      rw [hW0]; simp only [OwnL, cellsL]
      refine ⟨⟨?_, ?_, ⟨?_, ?_, trivial⟩⟩, ⟨?_, ?_, ⟨?_, ?_, trivial⟩⟩, ⟨?_, ?_, ⟨?_, ?_, trivial⟩⟩, trivial⟩
      all_goals first | (with_reducible assumption) | omega | (simp; omega) | (simp [go_sem]; done) | (simp [go_sem, *]; done) | (intro o; first | (simp [go_sem]; done) | (simp [go_sem, *]; done))
    clear hW0 hF hB hs
    (with_reducible refine (Sub_any _ _ _ _ _).mono ?_)
    rw [(r.out _).1, (r.out _).1, (r.out 0).2, e1.out, e2.out]
    rintro e w4 ⟨rfl, hb⟩
    have hF := OwnL.ext hb H0
    simp only [OwnL, cellsL, and_true] at hF
    have hB := Ext.from hb hB0 hB0.size
    have hs := hB.size
    clear hb H0 hB0
    go_wp2_with fail
    refine at_calls (fun W0 hW0 => ?_)
    have hB0 : Below w.heap.size w W0 := by rw [hW0]; first | (with_reducible assumption) | (go_grown; done)
    have H0 : OwnL W0 [(w.heap.size, [.int .i64 (A), .int .i64 (B)]), (w.heap.size + 1, [.int .i64 (P), .int .i64 (Q)]), (w4.heap.size, [.int .i64 (A), .int .i64 (B)])] := by
      rw [hW0]; simp only [OwnL, cellsL]
      refine ⟨⟨?_, ?_, ⟨?_, ?_, trivial⟩⟩, ⟨?_, ?_, ⟨?_, ?_, trivial⟩⟩, ⟨?_, ?_, ⟨?_, ?_, trivial⟩⟩, trivial⟩
      all_goals first | (with_reducible assumption) | omega | (simp; omega) | (simp [go_sem]; done) | (simp [go_sem, *]; done) | (intro o; first | (simp [go_sem]; done) | (simp [go_sem, *]; done))
    clear hW0 hF hB hs
    (with_reducible refine (Scale_any _ _ _ _).mono ?_)
    rw [S1.out.1, S1.out.2.1, S1.out.2.2]
    rintro e w5 ⟨rfl, hb⟩
    have hF := OwnL.ext hb H0
    simp only [OwnL, cellsL, and_true] at hF
    have hB := Ext.from hb hB0 hB0.size
    have hs := hB.size
    clear hb H0 hB0
    go_wp2_with fail
    refine at_calls (fun W0 hW0 => ?_)
    have hB0 : Below w.heap.size w W0 := by rw [hW0]; first | (with_reducible assumption) | (go_grown; done)
    have H0 : OwnL W0 [(w.heap.size, [.int .i64 (A), .int .i64 (B)]), (w.heap.size + 1, [.int .i64 (P), .int .i64 (Q)]), (w4.heap.size, [.int .i64 (A), .int .i64 (B)]), (w5.heap.size, [.int .i64 (X1), .int .i64 (X2)])] := by
      rw [hW0]; simp only [OwnL, cellsL]
      refine ⟨⟨?_, ?_, ⟨?_, ?_, trivial⟩⟩, ⟨?_, ?_, ⟨?_, ?_, trivial⟩⟩, ⟨?_, ?_, ⟨?_, ?_, trivial⟩⟩, ⟨?_, ?_, ⟨?_, ?_, trivial⟩⟩, trivial⟩
      all_goals first | (with_reducible assumption) | omega | (simp; omega) | (simp [go_sem]; done) | (simp [go_sem, *]; done) | (intro o; first | (simp [go_sem]; done) | (simp [go_sem, *]; done))
    clear hW0 hF hB hs
    (with_reducible refine (Scale_any _ _ _ _).mono ?_)
    rw [S2.out.1, S2.out.2.1, S2.out.2.2]
    rintro e w6 ⟨rfl, hb⟩
    have hF := OwnL.ext hb H0
    simp only [OwnL, cellsL, and_true] at hF
    have hB := Ext.from hb hB0 hB0.size
    have hs := hB.size
    clear hb H0 hB0
    go_wp2
    go_ret
    exact ⟨by simp, by go_grown⟩
  · skip
    have hm : okV (A + P) (B + Q) = false := by rw [Bool.eq_false_iff]; intro h; have := okV_true h; omega
    have q := fun p => sum_over A B P Q (A + P) (B + Q) p okA.out okP.out hm
    clear hm
    have q := Lib.hid q
    go_wp2_with fail
    refine at_calls (fun W0 hW0 => ?_)
    have hB0 : Below w.heap.size w W0 := by rw [hW0]; first | (with_reducible assumption) | (go_grown; done)
    have H0 : OwnL W0 [(w.heap.size, [.int .i64 (A), .int .i64 (B)]), (w.heap.size + 1, [.int .i64 (P), .int .i64 (Q)])] := by
      rw [hW0]; simp only [OwnL, cellsL]
      refine ⟨⟨?_, ?_, ⟨?_, ?_, trivial⟩⟩, ⟨?_, ?_, ⟨?_, ?_, trivial⟩⟩, trivial⟩
      all_goals first | (with_reducible assumption) | omega | (simp; omega) | (simp [go_sem]; done) | (simp [go_sem, *]; done) | (intro o; first | (simp [go_sem]; done) | (simp [go_sem, *]; done))
    clear hW0 hF hB hs
    (with_reducible refine (Add_any _ _ _ _ _).mono ?_)
    rw [(q.out _).1, (q.out _).1, (q.out 0).2]
    rintro e w3 ⟨rfl, hb⟩
    have hF := OwnL.ext hb H0
    simp only [OwnL, cellsL, and_true] at hF
    have hB := Ext.from hb hB0 hB0.size
    have hs := hB.size
    clear hb H0 hB0
    go_wp2
    go_ret
    exact ⟨by simp, by go_grown⟩

theorem own : ownKnob Try.prog.godebug = none := by kernel_rfl
theorem cellsVec : Try.prog.cellsOf 23 = 2 := by kernel_rfl
set_option maxRecDepth 100000 in
theorem lifted (os : Os) (started : os.Started) (H : Type) (enc : TypeId × Value → H) :
    ReturnsInHanded {} Try.checked os 5 .any (Rows.rvecPartsSpec.pre6 enc Try.prog Try.f5 Rows.rvecPartsRow.domain false) (Rows.rvecPartsSpec.post enc Try.prog Try.f5 false true false false) := by
  refine returnsInHanded_of_change (C := Try.checked) own started (by kernel_rfl) Try.func5
    (ChangeSpec.witness6 (enc := enc) (C := Try.checked) false ⟨#[], #[.agg #[.int .i64 0, .int .i64 0], .agg #[.int .i64 0, .int .i64 0], .int .i64 0, .int .i64 0], []⟩ 8 (by kernel_rfl) (by kernel_rfl) (by kernel_rfl) (by kernel_rfl)) ?_
  intro W base args ds gs before hval0 hW hcnd _
  have hval : ∀ (j : Nat) t v, Try.f5.params[j]? = some t → args[j]? = some v → Value.okWide Try.prog W .any base t v := hval0
  have hW' := hW
  obtain ⟨p, q, hA0, hV, rfl, hfz, hnd⟩ := hW
  have hA : DataW.TrodAll enc Try.prog W 0 (fun _ => true) true Try.f5.params.toList args.toList ds p := hA0
  rw [Try.params5] at hA hval
  obtain ⟨v0, vs0, d0, ds0, p0, q0, hargs, rfl, rfl, h0, r0⟩ := trodAll_cons hA
  obtain ⟨v1, vs1, d1, ds1, p1, q1, rfl, rfl, rfl, h1, r1⟩ := trodAll_cons r0
  obtain ⟨v2, vs2, d2, ds2, p2, q2, rfl, rfl, rfl, h2, r2⟩ := trodAll_cons r1
  obtain ⟨v3, vs3, d3, ds3, p3, q3, rfl, rfl, rfl, h3, r3⟩ := trodAll_cons r2
  obtain ⟨rfl, rfl, rfl⟩ := trodAll_nil r3
  obtain rfl : args = #[v0, v1, v2, v3] := by cases args; simp_all
  obtain ⟨rfl, rfl⟩ := trodVars_none hV
  obtain ⟨c0, e0, y0, z0, m0, rfl, rfl, rfl, hy0, hz0⟩ := open_agg2 Try.underlying23 (by kernel_rfl) cellsVec (hval 0 23 v0 rfl rfl) h0
  obtain ⟨a0, ea0, rfl, wa0⟩ := DataW.trod_int Try.underlying3 hy0
  obtain ⟨b0, eb0, rfl, wb0⟩ := DataW.trod_int Try.underlying3 hz0
  simp at ea0 eb0
  subst ea0 eb0
  obtain ⟨c1, e1, y1, z1, m1, rfl, rfl, rfl, hy1, hz1⟩ := open_agg2 Try.underlying23 (by kernel_rfl) cellsVec (hval 1 23 v1 rfl rfl) h1
  obtain ⟨a1, ea1, rfl, wa1⟩ := DataW.trod_int Try.underlying3 hy1
  obtain ⟨b1, eb1, rfl, wb1⟩ := DataW.trod_int Try.underlying3 hz1
  simp at ea1 eb1
  subst ea1 eb1
  obtain ⟨a2, rfl, rfl, rfl, w2⟩ := open_int Try.underlying3 (hval 2 3 v2 rfl rfl) h2
  obtain ⟨a3, rfl, rfl, rfl, w3⟩ := open_int Try.underlying3 (hval 3 3 v3 rfl rfl) h3
  clear hA0 hval0
  have structReads0 : ∀ (W' : World) (sp : Nat → Bool), DataW.Trod enc Try.prog W' 0 sp true 23 (.agg #[.int .i64 a0, .int .i64 b0]) (.agg [.lit (.int .i64 a0), .lit (.int .i64 b0)]) [] := fun W' sp =>
    shut_agg2 (y0 := (.lit (.int .i64 a0), [])) (y1 := (.lit (.int .i64 b0), [])) Try.underlying23 (by kernel_rfl) cellsVec ⟨1, by simp [DataW.trod, Try.underlying3, wa0]⟩ ⟨1, by simp [DataW.trod, Try.underlying3, wb0]⟩
  have structReads1 : ∀ (W' : World) (sp : Nat → Bool), DataW.Trod enc Try.prog W' 0 sp true 23 (.agg #[.int .i64 a1, .int .i64 b1]) (.agg [.lit (.int .i64 a1), .lit (.int .i64 b1)]) [] := fun W' sp =>
    shut_agg2 (y0 := (.lit (.int .i64 a1), [])) (y1 := (.lit (.int .i64 b1), [])) Try.underlying23 (by kernel_rfl) cellsVec ⟨1, by simp [DataW.trod, Try.underlying3, wa1]⟩ ⟨1, by simp [DataW.trod, Try.underlying3, wb1]⟩
  refine (walk a0 b0 wa0 wb0 a1 b1 wa1 wb1 a2 w2 a3 w3 W).mono fun e W' ⟨he, bel⟩ => ?_
  subst he
  exact ⟨_, rfl, _, _, _, [], _, [], hW', trodAll_mk1 (shut_bool Try.underlying4 _), (trodAll_cons_mk (structReads0 W' _) (trodAll_cons_mk (structReads1 W' _) (trodAll_cons_mk (shut_int Try.underlying3 w2) (trodAll_cons_mk (shut_int Try.underlying3 w3) trodAll_mk0)))), rfl, bel.frame _, fun h => by cases h⟩

theorem over : Rows.rvecPartsRow.holds Try.pinned (OpenSpec.ofChange Rows.rvecPartsSpec) :=
  OpenClaim.holds_of_wide 5 Try.f5 rfl rfl rfl rfl rfl rfl rfl ⟨rfl, rfl, rfl, rfl, rfl⟩ rfl rfl rfl rfl rfl (by kernel_rfl) Try.func5 (by kernel_rfl)
    (of_decide_eq_true (by kernel_rfl)) (by unfold Func.isWrapper; first | (rw [if_pos (by decide +kernel)]; kernel_rfl) | (rw [if_neg (by decide +kernel)]; exact ⟨rfl, rfl⟩))
    (fun os started H enc _ => lifted os started H enc)

theorem proved : Rows.RvecPartsSaid := over
#print axioms proved
end Go.Proofs.Ytlifgdhieelihaa.RvecParts
