/- The law RvecEdges holds at every input: parts at the bound may be, one beyond may not. No condition. -/
import Derived.Test.YtkmhbjeacoeomaaLaw
import Derived.Test.YtkmhbjeacoeomaaLeafC
import Derived.OpenShut
import Derived.ChangeOld
import Derived.ChangeSame
import Derived.JoinedOf
import Derived.JoinedAt
import Derived.RowKit3
import Derived.Lib.SmallJoins
namespace Go.Proofs.Ytkmhbjeacoeomaa.RvecEdges
open Go.ChangeShapes Go.WideShapes Go.ChangeAt Go.RowKit Go.Joins

theorem q0 : sumE 1125899906842623 0 0 0 1125899906842623 0 = 0 := by decide
theorem q1 : sumE 0 562949953421312 0 562949953421311 0 1125899906842623 = 0 := by decide
theorem q2 : sumE 5 0 4 0 1 0 = 0 := by decide
theorem q3 : scE 1 0 999999 = 0 := by decide
theorem q4 : sumE 1125899906842624 0 0 0 1125899906842624 0 = 0 := by decide
theorem q5 : sumE 0 562949953421312 0 562949953421312 0 1125899906842624 = 0 := by decide
theorem q6 : sumE 5 0 5 0 0 0 = 0 := by decide
theorem q7 : scE 1 0 1000000 = 0 := by decide
theorem q8 : sumE 1125899906842625 0 0 0 1125899906842625 0 = 1 := by decide
theorem q9 : sumE 0 562949953421312 0 562949953421313 0 1125899906842625 = 11 := by decide
theorem q10 : sumE 5 0 6 0 (-1) 0 = 11 := by decide
theorem q11 : scE 1 0 1000001 = 1 := by decide
theorem q12 : scE 0 11258999068426 1000000 = 0 := by decide
theorem q13 : scE 0 11258999068427 1000000 = 11 := by decide
theorem q14 : scE 0 11258999068428 1000000 = 11 := by decide

set_option maxHeartbeats 8000000 in
theorem walk (which : Int) (_ : (Lit.int .i64 which).wf = true) (n : Int) (_ : (Lit.int .i64 n).wf = true) (w : World) :
    Calls Try.prog 8 #[.int .i64 which, .int .i64 n] w fun e w' => e = .returned (.bool true) ∧ Below w.heap.size w w' := by
  have q0 := q0
  have q1 := q1
  have q2 := q2
  have q3 := q3
  have q4 := q4
  have q5 := q5
  have q6 := q6
  have q7 := q7
  have q8 := q8
  have q9 := q9
  have q10 := q10
  have q11 := q11
  have q12 := q12
  have q13 := q13
  have q14 := q14
  have h3 : (0 : Int) < 3 ∧ (3 : Int) ≤ 1125899906842625 := ⟨by decide, by decide⟩
  have hw : which % 3 = 0 ∨ which % 3 = 1 ∨ which % 3 = 2 := by omega
  have hn : n % 3 = 0 ∨ n % 3 = 1 ∨ n % 3 = 2 := by omega
  rcases hw with hw | hw | hw <;> rcases hn with hn | hn | hn <;>
  · go_enter Try.func8, Try.ntmps8
    go_wp2_with (first
      | (go_at_call 12; (with_reducible refine (known_any _).mono ?_); rintro e w1 ⟨rfl, hb⟩; obtain ⟨hc, hf⟩ := bcell hb; have hz := hb.size; (try simp at hz); have hB := step_below (B := w.heap.size) (w := w) (by go_grown) (by go_size) hb)
      | (go_at_call 20; (with_reducible refine (within_any _ _ _ h3).mono ?_); (try rw [hn]); (try rw [hw]); rintro e w1 ⟨rfl, rfl⟩)
      | (go_at_call 14; (with_reducible refine (Add_any _ _ _ _ _).mono ?_); rintro e w1 ⟨rfl, hb⟩; obtain ⟨hc, hf⟩ := bcell hb; have hz := hb.size; (try simp at hz); have hB := step_below (B := w.heap.size) (w := w) (by go_grown) (by go_size) hb)
      | (go_at_call 16; (with_reducible refine (Sub_any _ _ _ _ _).mono ?_); rintro e w1 ⟨rfl, hb⟩; obtain ⟨hc, hf⟩ := bcell hb; have hz := hb.size; (try simp at hz); have hB := step_below (B := w.heap.size) (w := w) (by go_grown) (by go_size) hb)
      | (go_at_call 21; (with_reducible refine (Scale_any _ _ _ _).mono ?_); rintro e w1 ⟨rfl, hb⟩; obtain ⟨hc, hf⟩ := bcell hb; have hz := hb.size; (try simp at hz); have hB := step_below (B := w.heap.size) (w := w) (by go_grown) (by go_size) hb))
    go_ret
    exact ⟨rfl, by go_grown⟩

theorem own : ownKnob Try.prog.godebug = none := by kernel_rfl
set_option maxRecDepth 100000 in
theorem lifted (os : Os) (started : os.Started) (H : Type) (enc : TypeId × Value → H) :
    ReturnsInHanded {} Try.checked os 8 .any (Rows.rvecEdgesSpec.pre6 enc Try.prog Try.f8 Rows.rvecEdgesRow.domain false) (Rows.rvecEdgesSpec.post enc Try.prog Try.f8 false true false false) := by
  refine returnsInHanded_of_change (C := Try.checked) own started (by kernel_rfl) Try.func8
    (ChangeSpec.witness6 (enc := enc) (C := Try.checked) false ⟨#[], #[.int .i64 0, .int .i64 0], []⟩ 8 (by kernel_rfl) (by kernel_rfl) (by kernel_rfl) (by kernel_rfl)) ?_
  intro W base args ds gs before hval0 hW hcnd _
  have hval : ∀ (j : Nat) t v, Try.f8.params[j]? = some t → args[j]? = some v → Value.okWide Try.prog W .any base t v := hval0
  have hW' := hW
  obtain ⟨p, q, hA0, hV, rfl, hfz, hnd⟩ := hW
  have hA : DataW.TrodAll enc Try.prog W 0 (fun _ => true) true Try.f8.params.toList args.toList ds p := hA0
  rw [Try.params8] at hA hval
  obtain ⟨v0, vs0, d0, ds0, p0, q0, hargs, rfl, rfl, h0, r0⟩ := trodAll_cons hA
  obtain ⟨v1, vs1, d1, ds1, p1, q1, rfl, rfl, rfl, h1, r1⟩ := trodAll_cons r0
  obtain ⟨rfl, rfl, rfl⟩ := trodAll_nil r1
  obtain rfl : args = #[v0, v1] := by cases args; simp_all
  obtain ⟨rfl, rfl⟩ := trodVars_none hV
  obtain ⟨a0, rfl, rfl, rfl, w0⟩ := open_int Try.underlying3 (hval 0 3 v0 rfl rfl) h0
  obtain ⟨a1, rfl, rfl, rfl, w1⟩ := open_int Try.underlying3 (hval 1 3 v1 rfl rfl) h1
  clear hA0 hval0
  refine (walk a0 w0 a1 w1 W).mono fun e W' ⟨he, bel⟩ => ?_
  subst he
  exact ⟨_, rfl, _, _, _, [], _, [], hW', trodAll_mk1 (shut_bool Try.underlying4 _), (trodAll_cons_mk (shut_int Try.underlying3 w0) (trodAll_cons_mk (shut_int Try.underlying3 w1) trodAll_mk0)), rfl, bel.frame _, fun h => by cases h⟩

theorem over : Rows.rvecEdgesRow.holds Try.pinned (OpenSpec.ofChange Rows.rvecEdgesSpec) :=
  OpenClaim.holds_of_wide 8 Try.f8 rfl rfl rfl rfl rfl rfl rfl ⟨rfl, rfl, rfl, rfl, rfl⟩ rfl rfl rfl rfl rfl (by kernel_rfl) Try.func8 (by kernel_rfl)
    (of_decide_eq_true (by kernel_rfl)) (by unfold Func.isWrapper; first | (rw [if_pos (by decide +kernel)]; kernel_rfl) | (rw [if_neg (by decide +kernel)]; exact ⟨rfl, rfl⟩))
    (fun os started H enc _ => lifted os started H enc)

theorem proved : Rows.RvecEdgesSaid := over
#print axioms proved
end Go.Proofs.Ytkmhbjeacoeomaa.RvecEdges
