/- The law PlanFits holds at every input. No condition. -/
import Derived.Test.YtkmpjphbkhpgbaaZD
import Derived.ChangeSlices
import Derived.OpenShut
import Derived.ChangeOld
import Derived.ChangeSame
import Derived.ChangeMaps
import Derived.JoinedOf
import Derived.JoinedAt
import Derived.RowKit3
import Derived.Lib.SmallJoins
namespace Go.Proofs.Ytkmpjphbkhpgbaa.PlanFits
open Go.ChangeShapes Go.WideShapes Go.ChangeAt Go.RowKit Go.Joins

theorem mX (a0 : (List ab)) (k0 : (∀ z ∈ a0, ab.ok z) ∧ a0.length ≤ maxLen) (a1 : (List Int)) (k1 : (∀ z ∈ a1, wfI z) ∧ a1.length ≤ maxLen) (a2 : ao) (k2 : ao.ok a2) : PC Try.prog 4 [.d (.sl (a0.map ab.d)), .d (.sl (a1.map iD)), .ag ((ao.d a2).map .d)] (.d (.v (.bool true))) := (n5 (a0, a1, a2, ()) true (plain a0 k0 a1 k1 a2 k2)).1 rfl
theorem own : ownKnob Try.prog.godebug = none := by kernel_rfl
theorem laidOut : laidOutB Try.prog = true := by kernel_rfl
set_option maxRecDepth 100000 in
theorem mR (os : Os) (started : os.Started) (H : Type) (enc : TypeId × Value → H) :
    ReturnsInHanded {} Try.checked os 4 .any (Rows.planFitsSpec.pre6 enc Try.prog Try.f4 Rows.planFitsRow.domain false) (Rows.planFitsSpec.post enc Try.prog Try.f4 false true false false) := by
  refine returnsInHanded_of_change (C := Try.checked) own started (by kernel_rfl) Try.func4
    (ChangeSpec.witness6 (enc := enc) (C := Try.checked) false ⟨#[], #[.slice none 0 0, .slice none 0 0, .agg #[.int .i64 0, .int .i64 0]], []⟩ 12 (by kernel_rfl) (by kernel_rfl) (by kernel_rfl) (by kernel_rfl)) ?_
  intro W base args ds gs before hval0 hW hcnd _
  have hval : ∀ (j : Nat) t v, Try.f4.params[j]? = some t → args[j]? = some v → Value.okWide Try.prog W .any base t v := hval0
  have hW' := hW
  obtain ⟨p, q, hA0, hV, rfl, hfz, hnd⟩ := hW
  have hA : DataW.TrodAll enc Try.prog W 0 (fun _ => true) true Try.f4.params.toList args.toList ds p := hA0
  rw [Try.params4] at hA hval
  obtain ⟨v0, vs0, d0, ds0, p0, q0, hargs, rfl, rfl, h0, r0⟩ := trodAll_cons hA
  obtain ⟨v1, vs1, d1, ds1, p1, q1, rfl, rfl, rfl, h1, r1⟩ := trodAll_cons r0
  obtain ⟨v2, vs2, d2, ds2, p2, q2, rfl, rfl, rfl, h2, r2⟩ := trodAll_cons r1
  obtain ⟨rfl, rfl, rfl⟩ := trodAll_nil r2
  obtain rfl : args = #[v0, v1, v2] := by cases args; simp_all
  obtain ⟨rfl, rfl⟩ := trodVars_none hV
  have hlt0 : ∀ x ∈ p0, x.block < W.heap.size := fun x hx => by simpa using hW'.lt x (by simp [hx])
  obtain ⟨e0, s0, rp0⟩ := lS Try.underlying22 jI (hval 0 22 v0 rfl rfl) h0
  obtain ⟨a0, rfl, k0, m0⟩ := mn s0
  have hlt1 : ∀ x ∈ p1, x.block < W.heap.size := fun x hx => by simpa using hW'.lt x (by simp [hx])
  obtain ⟨e1, s1, rp1⟩ := lS Try.underlying37 mE (hval 1 37 v1 rfl rfl) h1
  obtain ⟨a1, rfl, k1, m1⟩ := qt s1
  have hlt2 : ∀ x ∈ p2, x.block < W.heap.size := fun x hx => by simpa using hW'.lt x (by simp [hx])
  obtain ⟨e2, l2, s2, rp2⟩ := pE Try.underlying24 fZ (hval 2 24 v2 rfl rfl) h2
  obtain ⟨a2, rfl, k2⟩ := tM l2 s2
  clear hA0 hval0
  refine (pD (mX a0 ⟨k0, m0⟩ a1 ⟨k1, m1⟩ a2 k2) W _ (.cons rp0 (.cons rp1 (.cons rp2 .nil)))).mono fun e W' ⟨he, bel⟩ => ?_
  subst he
  exact ⟨_, rfl, _, _, _, [], _, [], hW', trodAll_mk1 (shut_bool Try.underlying4 _), (trodAll_cons_mk (Below.trod laidOut (by kernel_rfl) (of_decide_eq_true (by kernel_rfl)) h0 bel hlt0) (trodAll_cons_mk (Below.trod laidOut (by kernel_rfl) (of_decide_eq_true (by kernel_rfl)) h1 bel hlt1) (trodAll_cons_mk (Below.trod laidOut (by kernel_rfl) (of_decide_eq_true (by kernel_rfl)) h2 bel hlt2) trodAll_mk0))), rfl, bel.frame _, fun h => by cases h⟩

set_option maxHeartbeats 0 in
theorem closed : joinedFacts Try.prog 4 Try.f4 Rows.planFitsSpec Rows.planFitsRow = true := by
  unfold joinedFacts
  simp only [Bool.and_eq_true]
  repeat' apply And.intro
  all_goals first
    | rw [sU]
    | (rw [wy]; kernel_rfl)
    | (rw [wq]; kernel_rfl)
    | (as_aux_lemma => kernel_rfl)

theorem wh : Rows.planFitsRow.holds Try.pinned (OpenSpec.ofChange Rows.planFitsSpec) :=
  OpenClaim.holds_of_wide 4 Try.f4 rfl rfl rfl rfl rfl rfl rfl ⟨rfl, rfl, rfl, rfl, rfl⟩ rfl rfl rfl rfl rfl (by kernel_rfl) Try.func4 closed
    (of_decide_eq_true (by kernel_rfl)) (by unfold Func.isWrapper; first | (rw [if_pos (by decide +kernel)]; kernel_rfl) | (rw [if_neg (by decide +kernel)]; exact ⟨rfl, rfl⟩))
    (fun os started H enc _ => mR os started H enc)

theorem proved : Rows.PlanFitsSaid := wh
#print axioms proved
end Go.Proofs.Ytkmpjphbkhpgbaa.PlanFits

