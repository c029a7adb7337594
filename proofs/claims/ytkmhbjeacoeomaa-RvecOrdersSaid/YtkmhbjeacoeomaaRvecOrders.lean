/- The law RvecOrders holds at every input: any two loads are held against one another as the reference has it; turned round, the answer is turned; a load against itself is like. No condition. -/
import Derived.Test.YtkmhbjeacoeomaaLaw
import Derived.Test.YtkmhbjeacoeomaaOwnL
import Derived.Test.YtkmhbjeacoeomaaOrdC
import Derived.Test.YtkmhbjeacoeomaaRefE
import Derived.OpenShut
import Derived.ChangeOld
import Derived.ChangeSame
import Derived.JoinedOf
import Derived.JoinedAt
import Derived.RowKit3
import Derived.Lib.SmallJoins
namespace Go.Proofs.Ytkmhbjeacoeomaa.RvecOrders
open Go.ChangeShapes Go.WideShapes Go.ChangeAt Go.RowKit Go.Joins

theorem cmpI_anti (x y : Int) : cmpI y x = -cmpI x y := by
  unfold cmpI
  rcases Int.lt_trichotomy x y with h | h | h
  · rw [if_neg (by omega), if_pos h, if_pos h]; rfl
  · subst h; simp
  · rw [if_pos h, if_neg (by omega), if_pos h]
theorem cmpI_bd (x y : Int) : -1 ≤ cmpI x y ∧ cmpI x y ≤ 1 := by
  unfold cmpI; split
  · omega
  · split <;> omega
theorem orderF_anti (a0 a1 p0 p1 b0 b1 q0 q1 : Int) : orderF b0 b1 q0 q1 a0 a1 p0 p1 = -orderF a0 a1 p0 p1 b0 b1 q0 q1 := by
  unfold orderF
  cases okV a0 a1 <;> cases okV p0 p1 <;> cases okV b0 b1 <;> cases okV q0 q1 <;> simp
  exact cmpI_anti _ _
theorem orderF_bd (a0 a1 p0 p1 b0 b1 q0 q1 : Int) : -1 ≤ orderF a0 a1 p0 p1 b0 b1 q0 q1 ∧ orderF a0 a1 p0 p1 b0 b1 q0 q1 ≤ 1 := by
  unfold orderF
  cases okV a0 a1 <;> cases okV p0 p1 <;> cases okV b0 b1 <;> cases okV q0 q1 <;> simp
  exact cmpI_bd _ _
theorem orderF_self (a0 a1 p0 p1 : Int) : orderF a0 a1 p0 p1 a0 a1 p0 p1 = 0 := by
  unfold orderF
  cases okV a0 a1 <;> cases okV p0 p1 <;> simp [ordV, cmpI]

set_option maxHeartbeats 8000000 in
theorem walk (a0 b0 : Int) (_ : (Lit.int .i64 a0).wf = true) (_ : (Lit.int .i64 b0).wf = true) (a1 b1 : Int) (_ : (Lit.int .i64 a1).wf = true) (_ : (Lit.int .i64 b1).wf = true) (a2 b2 : Int) (_ : (Lit.int .i64 a2).wf = true) (_ : (Lit.int .i64 b2).wf = true) (a3 b3 : Int) (_ : (Lit.int .i64 a3).wf = true) (_ : (Lit.int .i64 b3).wf = true) (how : Int) (_ : (Lit.int .i64 how).wf = true) (w : World) :
    Calls Try.prog 5 #[.agg #[.int .i64 a0, .int .i64 b0], .agg #[.int .i64 a1, .int .i64 b1], .agg #[.int .i64 a2, .int .i64 b2], .agg #[.int .i64 a3, .int .i64 b3], .int .i64 how] w fun e w' => e = .returned (.bool true) ∧ Below w.heap.size w w' := by
  go_enter Try.func5, Try.ntmps5
  go_wp2_with fail
  refine at_calls (fun W0 hW0 => ?_)
  have hB0 : Below w.heap.size w W0 := by rw [hW0]; first | (with_reducible assumption) | (go_grown; done)
  have H0 : OwnL W0 [(w.heap.size, [.int .i64 (a0), .int .i64 (b0)]), (w.heap.size + 1, [.int .i64 (a1), .int .i64 (b1)]), (w.heap.size + 1 + 1, [.int .i64 (a2), .int .i64 (b2)]), (w.heap.size + 1 + 1 + 1, [.int .i64 (a3), .int .i64 (b3)])] := by
    rw [hW0]; simp only [OwnL, cellsL]
    refine ⟨⟨?_, ?_, ⟨?_, ?_, trivial⟩⟩, ⟨?_, ?_, ⟨?_, ?_, trivial⟩⟩, ⟨?_, ?_, ⟨?_, ?_, trivial⟩⟩, ⟨?_, ?_, ⟨?_, ?_, trivial⟩⟩, trivial⟩
    all_goals first | (with_reducible assumption) | omega | (simp; omega) | (simp [go_sem]; done) | (simp [go_sem, *]; done) | (intro o; first | (simp [go_sem]; done) | (simp [go_sem, *]; done))
  clear hW0
  (with_reducible refine (known_any _).mono ?_)
  rintro e w1 ⟨rfl, hb⟩
  have hF := OwnL.ext hb H0
  simp only [OwnL, cellsL, and_true] at hF
  have hB := Ext.from hb hB0 hB0.size
  have hs := hB.size
  clear hb H0 hB0
  go_upto_region 3 with fail
  refine at_world (fun W0 hW0 => ?_)
  have hB0 : Below w.heap.size w W0 := by rw [hW0]; first | (with_reducible assumption) | (go_grown; done)
  have H0 : OwnL W0 [(w.heap.size, [.int .i64 (a0), .int .i64 (b0)]), (w.heap.size + 1, [.int .i64 (a1), .int .i64 (b1)]), (w.heap.size + 1 + 1, [.int .i64 (a2), .int .i64 (b2)]), (w.heap.size + 1 + 1 + 1, [.int .i64 (a3), .int .i64 (b3)])] := by
    rw [hW0]; simp only [OwnL, cellsL]
    refine ⟨⟨?_, ?_, ⟨?_, ?_, trivial⟩⟩, ⟨?_, ?_, ⟨?_, ?_, trivial⟩⟩, ⟨?_, ?_, ⟨?_, ?_, trivial⟩⟩, ⟨?_, ?_, ⟨?_, ?_, trivial⟩⟩, trivial⟩
    all_goals first | (with_reducible assumption) | omega | (simp; omega) | (simp [go_sem]; done) | (simp [go_sem, *]; done) | (intro o; first | (simp [go_sem]; done) | (simp [go_sem, *]; done))
  clear hW0 hF hB hs
  refine wp_region_lex 11 (by kernel_rfl) (by kernel_rfl) (fun _ _ _ _ _ h => h) ?_
  simp only [List.take_succ_cons, List.take_zero, List.drop_succ_cons, List.drop_zero]
  repeat first | (refine seq_take ?_ (by rfl) (fun wk hb => ?_) ?_; rotate_left; (have hF := OwnL.ext hb H0; simp only [OwnL, cellsL, and_true] at hF; go_simp; first | exact OkX.val | (refine OkX.eqv (OkX.call (Order_any _ _ _ _ _ _ _ _ _)) ?_; exact rfl) | (refine OkX.eqv (OkX.call (rOrder_any _ _ _ _ _ _ _ _ _)) ?_; exact rfl)); simp only [Act.put, List.setIfInBounds_toArray, List.set_cons_zero, List.set_cons_succ]) | (refine seq_skip (by rfl) ?_; simp only [Act.put, List.setIfInBounds_toArray, List.set_cons_zero, List.set_cons_succ])
  refine seq_nil (fun w2 hb => ?_)
  have hF := OwnL.ext hb H0
  simp only [OwnL, cellsL, and_true] at hF
  have hB := Ext.from hb hB0 hB0.size
  have hs := hB.size
  clear hb H0 hB0
  go_upto_region 5 with fail
  refine at_world (fun W0 hW0 => ?_)
  have hB0 : Below w.heap.size w W0 := by rw [hW0]; first | (with_reducible assumption) | (go_grown; done)
  have H0 : OwnL W0 [(w.heap.size, [.int .i64 (a0), .int .i64 (b0)]), (w.heap.size + 1, [.int .i64 (a1), .int .i64 (b1)]), (w.heap.size + 1 + 1, [.int .i64 (a2), .int .i64 (b2)]), (w.heap.size + 1 + 1 + 1, [.int .i64 (a3), .int .i64 (b3)])] := by
    rw [hW0]; simp only [OwnL, cellsL]
    refine ⟨⟨?_, ?_, ⟨?_, ?_, trivial⟩⟩, ⟨?_, ?_, ⟨?_, ?_, trivial⟩⟩, ⟨?_, ?_, ⟨?_, ?_, trivial⟩⟩, ⟨?_, ?_, ⟨?_, ?_, trivial⟩⟩, trivial⟩
    all_goals first | (with_reducible assumption) | omega | (simp; omega) | (simp [go_sem]; done) | (simp [go_sem, *]; done) | (intro o; first | (simp [go_sem]; done) | (simp [go_sem, *]; done))
  clear hW0 hF hB hs
  refine wp_region_lex 14 (by kernel_rfl) (by kernel_rfl) (fun _ _ _ _ _ h => h) ?_
  simp only [List.take_succ_cons, List.take_zero, List.drop_succ_cons, List.drop_zero]
  repeat first | (refine seq_take ?_ (by rfl) (fun wk hb => ?_) ?_; rotate_left; (have hF := OwnL.ext hb H0; simp only [OwnL, cellsL, and_true] at hF; go_simp; first | exact OkX.val | (refine OkX.eqv (OkX.call (vec_any _ _ _ _)) ?_; exact rfl)); simp only [Act.put, List.setIfInBounds_toArray, List.set_cons_zero, List.set_cons_succ]) | (refine seq_skip (by rfl) ?_; simp only [Act.put, List.setIfInBounds_toArray, List.set_cons_zero, List.set_cons_succ])
  refine seq_nil (fun w3 hb => ?_)
  have hF := OwnL.ext hb H0
  simp only [OwnL, cellsL, and_true] at hF
  have hB := Ext.from hb hB0 hB0.size
  have hs := hB.size
  clear hb H0 hB0
  go_upto_region 6 with fail
  generalize vp how a0 = A0 at *
  generalize vp how b0 = B0 at *
  generalize vp (wrap64 (how.tdiv 2)) a1 = A1 at *
  generalize vp (wrap64 (how.tdiv 2)) b1 = B1 at *
  generalize vp how a2 = A2 at *
  generalize vp how b2 = B2 at *
  generalize vp (wrap64 (how.tdiv 2)) a3 = A3 at *
  generalize vp (wrap64 (how.tdiv 2)) b3 = B3 at *
  have hA := orderF_anti A0 B0 A1 B1 A2 B2 A3 B3
  have hZ := orderF_self A0 B0 A1 B1
  obtain ⟨hO0, hO1⟩ := orderF_bd A0 B0 A1 B1 A2 B2 A3 B3
  have hW : IntKind.i64.wrap (-orderF A0 B0 A1 B1 A2 B2 A3 B3) = -orderF A0 B0 A1 B1 A2 B2 A3 B3 := IntWalk.i64_in _ (by omega)
  refine at_world (fun W0 hW0 => ?_)
  have hB0 : Below w.heap.size w W0 := by rw [hW0]; first | (with_reducible assumption) | (go_grown; done)
  have H0 : OwnL W0 [(w.heap.size, [.int .i64 (A0), .int .i64 (B0)]), (w.heap.size + 1, [.int .i64 (A1), .int .i64 (B1)]), (w.heap.size + 1 + 1, [.int .i64 (A2), .int .i64 (B2)]), (w.heap.size + 1 + 1 + 1, [.int .i64 (A3), .int .i64 (B3)])] := by
    rw [hW0]; simp only [OwnL, cellsL]
    refine ⟨⟨?_, ?_, ⟨?_, ?_, trivial⟩⟩, ⟨?_, ?_, ⟨?_, ?_, trivial⟩⟩, ⟨?_, ?_, ⟨?_, ?_, trivial⟩⟩, ⟨?_, ?_, ⟨?_, ?_, trivial⟩⟩, trivial⟩
    all_goals first | (with_reducible assumption) | omega | (simp; omega) | (simp [go_sem]; done) | (simp [go_sem, *]; done) | (intro o; first | (simp [go_sem]; done) | (simp [go_sem, *]; done))
  clear hW0 hF hB hs
  refine wp_region_lex 34 (by kernel_rfl) (by kernel_rfl) (fun _ _ _ _ _ h => h) ?_
  simp only [List.take_succ_cons, List.take_zero, List.drop_succ_cons, List.drop_zero]
  repeat first | (refine seq_take ?_ (by rfl) (fun wk hb => ?_) ?_; rotate_left; (have hF := OwnL.ext hb H0; simp only [OwnL, cellsL, and_true] at hF; go_simp; first | exact OkX.val | (refine OkX.eqv (OkX.call (Order_any _ _ _ _ _ _ _ _ _)) ?_; (try simp only [hA, hZ]); exact rfl) | (refine OkX.eqv (OkX.call (rOrder_any _ _ _ _ _ _ _ _ _)) ?_; exact rfl)); simp only [Act.put, List.setIfInBounds_toArray, List.set_cons_zero, List.set_cons_succ]) | (refine seq_skip (by rfl) ?_; simp only [Act.put, List.setIfInBounds_toArray, List.set_cons_zero, List.set_cons_succ])
  refine seq_nil (fun w4 hb => ?_)
  have hF := OwnL.ext hb H0
  simp only [OwnL, cellsL, and_true] at hF
  have hB := Ext.from hb hB0 hB0.size
  have hs := hB.size
  clear hb H0 hB0
  go_wp2
  go_ret
  exact ⟨by simp, by go_grown⟩

theorem own : ownKnob Try.prog.godebug = none := by kernel_rfl
theorem cellsVec : Try.prog.cellsOf 23 = 2 := by kernel_rfl
set_option maxRecDepth 100000 in
theorem lifted (os : Os) (started : os.Started) (H : Type) (enc : TypeId × Value → H) :
    ReturnsInHanded {} Try.checked os 5 .any (Rows.rvecOrdersSpec.pre6 enc Try.prog Try.f5 Rows.rvecOrdersRow.domain false) (Rows.rvecOrdersSpec.post enc Try.prog Try.f5 false true false false) := by
  refine returnsInHanded_of_change (C := Try.checked) own started (by kernel_rfl) Try.func5
    (ChangeSpec.witness6 (enc := enc) (C := Try.checked) false ⟨#[], #[.agg #[.int .i64 0, .int .i64 0], .agg #[.int .i64 0, .int .i64 0], .agg #[.int .i64 0, .int .i64 0], .agg #[.int .i64 0, .int .i64 0], .int .i64 0], []⟩ 8 (by kernel_rfl) (by kernel_rfl) (by kernel_rfl) (by kernel_rfl)) ?_
  intro W base args ds gs before hval0 hW hcnd _
  have hval : ∀ (j : Nat) t v, Try.f5.params[j]? = some t → args[j]? = some v → Value.okWide Try.prog W .any base t v := hval0
  have hW' := hW
  obtain ⟨p, q, hA0, hV, rfl, hfz, hnd⟩ := hW
  have hA : DataW.TrodAll enc Try.prog W 0 (fun _ => true) true Try.f5.params.toList args.toList ds p := hA0
  rw [Try.params5] at hA hval
  obtain ⟨v0, vs0, d0, ds0, p0, q0, hargs, rfl, rfl, h0, r0⟩ := trodAll_cons hA
  obtain ⟨v1, vs1, d1, ds1, p1, q1, rfl, rfl, rfl, h1, r1⟩ := trodAll_cons r0
  obtain ⟨v2, vs2, d2, ds2, p2, q2, rfl, rfl, rfl, h2, r2⟩ := trodAll_cons r1
  obtain ⟨v3, vs3, d3, ds3, p3, q3, rfl, rfl, rfl, h3, r3⟩ := trodAll_cons r2
  obtain ⟨v4, vs4, d4, ds4, p4, q4, rfl, rfl, rfl, h4, r4⟩ := trodAll_cons r3
  obtain ⟨rfl, rfl, rfl⟩ := trodAll_nil r4
  obtain rfl : args = #[v0, v1, v2, v3, v4] := by cases args; simp_all
  obtain ⟨rfl, rfl⟩ := trodVars_none hV
  obtain ⟨c0, e0, y0, z0, m0, rfl, rfl, rfl, hy0, hz0⟩ := open_agg2 Try.underlying23 (by kernel_rfl) cellsVec (hval 0 23 v0 rfl rfl) h0
  obtain ⟨a0, ea0, rfl, wa0⟩ := DataW.trod_int Try.underlying3 hy0
  obtain ⟨b0, eb0, rfl, wb0⟩ := DataW.trod_int Try.underlying3 hz0
  simp at ea0 eb0
  subst ea0 eb0
  obtain ⟨c1, e1, y1, z1, m1, rfl, rfl, rfl, hy1, hz1⟩ := open_agg2 Try.underlying23 (by kernel_rfl) cellsVec (hval 1 23 v1 rfl rfl) h1
  obtain ⟨a1, ea1, rfl, wa1⟩ := DataW.trod_int Try.underlying3 hy1
  obtain ⟨b1, eb1, rfl, wb1⟩ := DataW.trod_int Try.underlying3 hz1
  simp at ea1 eb1
  subst ea1 eb1
  obtain ⟨c2, e2, y2, z2, m2, rfl, rfl, rfl, hy2, hz2⟩ := open_agg2 Try.underlying23 (by kernel_rfl) cellsVec (hval 2 23 v2 rfl rfl) h2
  obtain ⟨a2, ea2, rfl, wa2⟩ := DataW.trod_int Try.underlying3 hy2
  obtain ⟨b2, eb2, rfl, wb2⟩ := DataW.trod_int Try.underlying3 hz2
  simp at ea2 eb2
  subst ea2 eb2
  obtain ⟨c3, e3, y3, z3, m3, rfl, rfl, rfl, hy3, hz3⟩ := open_agg2 Try.underlying23 (by kernel_rfl) cellsVec (hval 3 23 v3 rfl rfl) h3
  obtain ⟨a3, ea3, rfl, wa3⟩ := DataW.trod_int Try.underlying3 hy3
  obtain ⟨b3, eb3, rfl, wb3⟩ := DataW.trod_int Try.underlying3 hz3
  simp at ea3 eb3
  subst ea3 eb3
  obtain ⟨a4, rfl, rfl, rfl, w4⟩ := open_int Try.underlying3 (hval 4 3 v4 rfl rfl) h4
  clear hA0 hval0
  have structReads0 : ∀ (W' : World) (sp : Nat → Bool), DataW.Trod enc Try.prog W' 0 sp true 23 (.agg #[.int .i64 a0, .int .i64 b0]) (.agg [.lit (.int .i64 a0), .lit (.int .i64 b0)]) [] := fun W' sp =>
    shut_agg2 (y0 := (.lit (.int .i64 a0), [])) (y1 := (.lit (.int .i64 b0), [])) Try.underlying23 (by kernel_rfl) cellsVec ⟨1, by simp [DataW.trod, Try.underlying3, wa0]⟩ ⟨1, by simp [DataW.trod, Try.underlying3, wb0]⟩
  have structReads1 : ∀ (W' : World) (sp : Nat → Bool), DataW.Trod enc Try.prog W' 0 sp true 23 (.agg #[.int .i64 a1, .int .i64 b1]) (.agg [.lit (.int .i64 a1), .lit (.int .i64 b1)]) [] := fun W' sp =>
    shut_agg2 (y0 := (.lit (.int .i64 a1), [])) (y1 := (.lit (.int .i64 b1), [])) Try.underlying23 (by kernel_rfl) cellsVec ⟨1, by simp [DataW.trod, Try.underlying3, wa1]⟩ ⟨1, by simp [DataW.trod, Try.underlying3, wb1]⟩
  have structReads2 : ∀ (W' : World) (sp : Nat → Bool), DataW.Trod enc Try.prog W' 0 sp true 23 (.agg #[.int .i64 a2, .int .i64 b2]) (.agg [.lit (.int .i64 a2), .lit (.int .i64 b2)]) [] := fun W' sp =>
    shut_agg2 (y0 := (.lit (.int .i64 a2), [])) (y1 := (.lit (.int .i64 b2), [])) Try.underlying23 (by kernel_rfl) cellsVec ⟨1, by simp [DataW.trod, Try.underlying3, wa2]⟩ ⟨1, by simp [DataW.trod, Try.underlying3, wb2]⟩
  have structReads3 : ∀ (W' : World) (sp : Nat → Bool), DataW.Trod enc Try.prog W' 0 sp true 23 (.agg #[.int .i64 a3, .int .i64 b3]) (.agg [.lit (.int .i64 a3), .lit (.int .i64 b3)]) [] := fun W' sp =>
    shut_agg2 (y0 := (.lit (.int .i64 a3), [])) (y1 := (.lit (.int .i64 b3), [])) Try.underlying23 (by kernel_rfl) cellsVec ⟨1, by simp [DataW.trod, Try.underlying3, wa3]⟩ ⟨1, by simp [DataW.trod, Try.underlying3, wb3]⟩
  refine (walk a0 b0 wa0 wb0 a1 b1 wa1 wb1 a2 b2 wa2 wb2 a3 b3 wa3 wb3 a4 w4 W).mono fun e W' ⟨he, bel⟩ => ?_
  subst he
  exact ⟨_, rfl, _, _, _, [], _, [], hW', trodAll_mk1 (shut_bool Try.underlying4 _), (trodAll_cons_mk (structReads0 W' _) (trodAll_cons_mk (structReads1 W' _) (trodAll_cons_mk (structReads2 W' _) (trodAll_cons_mk (structReads3 W' _) (trodAll_cons_mk (shut_int Try.underlying3 w4) trodAll_mk0))))), rfl, bel.frame _, fun h => by cases h⟩

theorem over : Rows.rvecOrdersRow.holds Try.pinned (OpenSpec.ofChange Rows.rvecOrdersSpec) :=
  OpenClaim.holds_of_wide 5 Try.f5 rfl rfl rfl rfl rfl rfl rfl ⟨rfl, rfl, rfl, rfl, rfl⟩ rfl rfl rfl rfl rfl (by kernel_rfl) Try.func5 (by kernel_rfl)
    (of_decide_eq_true (by kernel_rfl)) (by unfold Func.isWrapper; first | (rw [if_pos (by decide +kernel)]; kernel_rfl) | (rw [if_neg (by decide +kernel)]; exact ⟨rfl, rfl⟩))
    (fun os started H enc _ => lifted os started H enc)

theorem proved : Rows.RvecOrdersSaid := over
#print axioms proved
end Go.Proofs.Ytkmhbjeacoeomaa.RvecOrders
