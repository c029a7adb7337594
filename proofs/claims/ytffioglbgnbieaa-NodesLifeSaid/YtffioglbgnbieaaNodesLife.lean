/- The law NodesLife holds at every input: a node that was heard of is not silent for ten ticks, one that is not live never is. No condition. -/
import Derived.Test.YtffioglbgnbieaaNdKnown
import Derived.Test.YtffioglbgnbieaaNdSil
import Derived.Deep.CutRange
import Derived.ChangeSlices
import Derived.OpenShut
import Derived.ChangeOld
import Derived.ChangeSame
import Derived.ChangeMaps
import Derived.JoinedOf
import Derived.JoinedAt
import Derived.RowKit3
import Derived.Lib.SmallJoins
namespace Go.Proofs.Ytffioglbgnbieaa.NodesLife
open Go.ChangeShapes Go.WideShapes Go.ChangeAt Go.RowKit Go.Joins

set_option maxRecDepth 100000 in
set_option maxHeartbeats 6400000 in
theorem walk (now : Int) (_ : (Lit.int .i64 now).wf = true) (seen : Int) (_ : (Lit.int .i64 seen).wf = true) (up : Bool) (w : World) :
    Calls Try.prog 5 #[.int .i64 now, .int .i64 seen, .bool up] w fun e w' => e = .returned (.bool true) ∧ Below w.heap.size w w' := by
  obtain ⟨y, hy⟩ : ∃ y, y = now % 1000 := ⟨_, rfl⟩
  obtain ⟨z, hz⟩ : ∃ z, z = seen % 25 := ⟨_, rfl⟩
  have HY := Lib.hid (show 0 ≤ y ∧ y < 1000 by omega)
  have HZ := Lib.hid (show 0 ≤ z ∧ z < 25 by omega)
  have W1 := Lib.hid (fun W => (hy ▸ within8_any now 1000 W (by omega) : Calls Try.prog 9 #[.int .i64 now, .int .i64 1000] W fun e w' => e = .returned (.int .i64 y) ∧ W = w'))
  have W2 := Lib.hid (fun W => (hz ▸ within8_any seen 25 W (by omega) : Calls Try.prog 9 #[.int .i64 seen, .int .i64 25] W fun e w' => e = .returned (.int .i64 z) ∧ W = w'))
  clear hy hz
  have w1 : wrap64 (y - z) = y - z := by have := HY.out; have := HZ.out; unfold wrap64; omega
  have w2 : IntKind.wrap .i64 (y - z) = y - z := by have := HY.out; have := HZ.out; rw [IntKind.wrap_i64]; omega
  have w3 : wrap64 (y - (y - z)) = z := by have := HY.out; have := HZ.out; unfold wrap64; omega
  have w4 : IntKind.wrap .i64 (y - (y - z)) = z := by have := HY.out; have := HZ.out; rw [IntKind.wrap_i64]; omega
  go_enter Try.func5, Try.ntmps5
  go_wp2_with fail
  (with_reducible refine (known8_any _).mono ?_)
  rintro e w5 ⟨rfl, hx⟩
  have X1 := Lib.hid hx
  clear hx
  go_wp2_with fail
  (with_reducible refine (W1.out _).mono ?_)
  rintro e w6 ⟨rfl, rfl⟩
  go_wp2_with fail
  (with_reducible refine (W2.out _).mono ?_)
  rintro e w6 ⟨rfl, rfl⟩
  go_wp2_with fail
  (with_reducible refine (New_any _).mono ?_)
  rintro e w7 ⟨rfl, hnew, hsz, hx⟩
  have X2 := Lib.hid (X1.out.trans hx)
  have HNEW := Lib.hid hnew
  have HGS := Lib.hid (show w.heap.size ≤ w7.heap.size from X2.out.size)
  obtain ⟨g, hg⟩ : ∃ g, g = w5.heap.size := ⟨_, rfl⟩
  unfold newSV
  rw [← hg] at HNEW ⊢
  have HG := Lib.hid (show w7.heap.size = g + 4 by rw [hg]; exact hsz)
  clear hx hnew hg hsz
  simp only [SV.val]
  go_upto_region 6 with fail
  refine at_world (fun W8 hW8 => ?_)
  obtain ⟨S, hS⟩ : ∃ S, S = w7.heap.size := ⟨_, rfl⟩
  have HS := Lib.hid (show W8.heap[S]? = some (.cells #[.slice (some ⟨g + 1, 0, none⟩) 1 1, .slice (some ⟨g + 1 + 1 + 1, 0, none⟩) 1 1, .slice none 0 0, .slice none 0 0, .slice none 0 0, .slice none 0 0, .slice none 0 0, .int .i64 0, .int .i64 0, .int .i64 0] 34 (0, 0)) by rw [hW8, hS]; exact heap_alloc_new w7 _)
  have E8 := Lib.hid (show Ext w7 W8 by rw [hW8]; exact ext_alloc _ _)
  have X8 := Lib.hid (X2.out.trans E8.out)
  have HN8 := Lib.hid (HNEW.out.ext E8.out)
  have HSW := Lib.hid (show w.heap.size ≤ S by rw [hS]; exact HGS.out)
  have HSG := Lib.hid (show S = g + 4 by rw [hS]; exact HG.out)
  rw [← hS]
  clear hW8 hS E8 HNEW HG HGS
  have s7 := bcel HS.out 7 (.int .i64 0) rfl
  have s2 := bcel HS.out 2 (.slice none 0 0) rfl
  have sf := fun j => bfre HS.out j
  go_upto_region 7 with fail
  refine at_world (fun W9 hW9 => ?_)
  have HS9 := Lib.hid (show W9.heap[S]? = some (.cells #[.slice (some ⟨g + 1, 0, none⟩) 1 1, .slice (some ⟨g + 1 + 1 + 1, 0, none⟩) 1 1, .slice none 0 0, .slice none 0 0, .slice none 0 0, .slice none 0 0, .slice none 0 0, .int .i64 y, .int .i64 0, .int .i64 0] 34 (0, 0)) by rw [hW9]; exact bset HS.out 7 (.int .i64 y))
  have X9 := Lib.hid (show Ext w W9 by rw [hW9]; exact ext_set X8.out HSW.out _)
  have HN9 := Lib.hid (show NewAt g W9 from ⟨by rw [hW9, heap_setCell_other _ _ _ _ (by have := HSG.out; simp; omega)]; exact HN8.out.labs, by rw [hW9, heap_setCell_other _ _ _ _ (by have := HSG.out; simp; omega)]; exact HN8.out.caps, by rw [hW9, heap_setCell_other _ _ _ _ (by have := HSG.out; simp; omega)]; exact HN8.out.queue⟩)
  clear hW9 s7 s2 sf HS HN8 X8
  have s2 := fun o => bcel (ext_blk (ext_alloc W9 o) HS9.out) 2 (.slice none 0 0) rfl
  have sf := fun o j => bfre (ext_blk (ext_alloc W9 o) HS9.out) j
  go_upto_region 8 with fail
  refine at_world (fun W10 hW10 => ?_)
  obtain ⟨C, hC⟩ : ∃ C, C = W9.heap.size := ⟨_, rfl⟩
  have hSC : S < C := by rw [hC]; exact (Array.getElem?_eq_some_iff.1 HS9.out).1
  have HSC := Lib.hid hSC
  have HS10 := Lib.hid (show W10.heap[S]? = some (.cells #[.slice (some ⟨g + 1, 0, none⟩) 1 1, .slice (some ⟨g + 1 + 1 + 1, 0, none⟩) 1 1, .slice (some ⟨C, 0, none⟩) 1 1, .slice none 0 0, .slice none 0 0, .slice none 0 0, .slice none 0 0, .int .i64 y, .int .i64 0, .int .i64 0] 34 (0, 0)) by rw [hW10, hC]; exact bset (ext_blk (ext_alloc W9 _) HS9.out) 2 _)
  have HC10 := Lib.hid (show W10.heap[C]? = some (.cells #[.int .i64 4, .int .i64 0, .int .i64 0, .int .i64 0, .int .i64 0, .int .i64 (y - z), .int .i64 0, .bool up] 44 (0, 0)) by rw [hW10, heap_setCell_other _ _ _ _ (by simp; omega), hC]; exact heap_alloc_new W9 _)
  have X10 := Lib.hid (show Ext w W10 by rw [hW10]; exact ext_set (X9.out.trans (ext_alloc _ _)) HSW.out _)
  have HN10 := Lib.hid (show NewAt g W10 from (fun h => ⟨by rw [hW10, heap_setCell_other _ _ _ _ (by have := HSG.out; simp; omega)]; exact h.labs, by rw [hW10, heap_setCell_other _ _ _ _ (by have := HSG.out; simp; omega)]; exact h.caps, by rw [hW10, heap_setCell_other _ _ _ _ (by have := HSG.out; simp; omega)]; exact h.queue⟩) (HN9.out.ext (ext_alloc W9 (.cells #[.int .i64 4, .int .i64 0, .int .i64 0, .int .i64 0, .int .i64 0, .int .i64 (y - z), .int .i64 0, .bool up] 44))))
  rw [← hC]
  clear hW10 hC hSC s2 sf HS9 X9 HN9
  have HH := Lib.hid (show Hd W10 (.slice (some ⟨C, 0, none⟩) 1 1) 1 (ncells [⟨4, 0, 0, 0, 0, y - z, 0, up⟩]) from ⟨_, 1, rfl, Nat.le_refl _, by simp [maxLen], fun _ => ⟨_, rfl, (Array.getElem?_eq_some_iff.1 HC10.out).1, fun j u hu => bcel HC10.out j u (by rw [← hu, ← Array.getElem?_toList]; rfl)⟩⟩)
  have hf := Silent_any ⟨.slice (some ⟨g + 1, 0, none⟩) 1 1, .slice (some ⟨g + 1 + 1 + 1, 0, none⟩) 1 1, .slice (some ⟨C, 0, none⟩) 1 1, .slice none 0 0, .slice none 0 0, .slice none 0 0, .slice none 0 0, y, 0, 0⟩ [⟨4, 0, 0, 0, 0, y - z, 0, up⟩] W10 HH.out (by simp) (by have := HY.out; dsimp only; omega) (fun d hd => by simp at hd; subst hd; have := HY.out; have := HZ.out; dsimp only; omega)
  simp only [SV.val] at hf
  have HF := Lib.hid hf
  clear hf
  have s0 := bcel HS10.out 0 (.slice (some ⟨g + 1, 0, none⟩) 1 1) rfl
  have s1 := bcel HS10.out 1 (.slice (some ⟨g + 1 + 1 + 1, 0, none⟩) 1 1) rfl
  have s2 := bcel HS10.out 2 (.slice (some ⟨C, 0, none⟩) 1 1) rfl
  have s3 := bcel HS10.out 3 (.slice none 0 0) rfl
  have s4 := bcel HS10.out 4 (.slice none 0 0) rfl
  have s5 := bcel HS10.out 5 (.slice none 0 0) rfl
  have s6 := bcel HS10.out 6 (.slice none 0 0) rfl
  have s7 := bcel HS10.out 7 (.int .i64 y) rfl
  have s8 := bcel HS10.out 8 (.int .i64 0) rfl
  have s9 := bcel HS10.out 9 (.int .i64 0) rfl
  go_wp2_with fail
  (with_reducible refine (HF.out).mono ?_)
  unfold SilPost
  rintro e w11 ⟨v, rfl, ho, hx⟩
  have X11 := Lib.hid (X10.out.trans hx)
  clear hx s0 s1 s2 s3 s4 s5 s6 s7 s8 s9 HS10 HH HF HC10 HN10
  cases up
  · have e : silN y [⟨4, 0, 0, 0, 0, y - z, 0, false⟩] = [] := rfl
    rw [e] at ho
    obtain ⟨A, c, rfl, _⟩ := own_shape ho
    clear ho
    go_wp2
    go_ret
    exact ⟨rfl, X11.out⟩
  · by_cases h : 10 ≤ z
    · have e : silN y [⟨4, 0, 0, 0, 0, y - z, 0, true⟩] = [4] := by
        have := HZ.out
        unfold silN
        rw [List.filter_cons_of_pos (by unfold misB; simp; omega)]
        rfl
      rw [e] at ho
      obtain ⟨A, c, rfl, _⟩ := own_shape ho
      obtain ⟨q, rfl, _, _, _, hq⟩ := own_head ho (by simp)
      have q0 := hq 0 (.int .i64 4) rfl
      have hz : decide (10 ≤ z) = true := by simpa using h
      clear ho hq h
      go_wp2
      go_ret
      exact ⟨rfl, X11.out⟩
    · have e : silN y [⟨4, 0, 0, 0, 0, y - z, 0, true⟩] = [] := by
        have := HZ.out
        unfold silN
        rw [List.filter_cons_of_neg (by unfold misB; simp; omega)]
        rfl
      rw [e] at ho
      obtain ⟨A, c, rfl, _⟩ := own_shape ho
      have hz : decide (10 ≤ z) = false := by simpa using h
      clear ho h
      go_wp2
      go_ret
      exact ⟨rfl, X11.out⟩

theorem own : ownKnob Try.prog.godebug = none := by kernel_rfl
set_option maxRecDepth 100000 in
theorem lifted (os : Os) (started : os.Started) (H : Type) (enc : TypeId × Value → H) :
    ReturnsInHanded {} Try.checked os 5 .any (Rows.nodesLifeSpec.pre6 enc Try.prog Try.f5 Rows.nodesLifeRow.domain false) (Rows.nodesLifeSpec.post enc Try.prog Try.f5 false true false false) := by
  refine returnsInHanded_of_change (C := Try.checked) own started (by kernel_rfl) Try.func5
    (ChangeSpec.witness6 (enc := enc) (C := Try.checked) false ⟨#[], #[.int .i64 0, .int .i64 0, .bool false], []⟩ 8 (by kernel_rfl) (by kernel_rfl) (by kernel_rfl) (by kernel_rfl)) ?_
  intro W base args ds gs before hval0 hW hcnd _
  have hval : ∀ (j : Nat) t v, Try.f5.params[j]? = some t → args[j]? = some v → Value.okWide Try.prog W .any base t v := hval0
  have hW' := hW
  obtain ⟨p, q, hA0, hV, rfl, hfz, hnd⟩ := hW
  have hA : DataW.TrodAll enc Try.prog W 0 (fun _ => true) true Try.f5.params.toList args.toList ds p := hA0
  rw [Try.params5] at hA hval
  obtain ⟨v0, vs0, d0, ds0, p0, q0, hargs, rfl, rfl, h0, r0⟩ := trodAll_cons hA
  obtain ⟨v1, vs1, d1, ds1, p1, q1, rfl, rfl, rfl, h1, r1⟩ := trodAll_cons r0
  obtain ⟨v2, vs2, d2, ds2, p2, q2, rfl, rfl, rfl, h2, r2⟩ := trodAll_cons r1
  obtain ⟨rfl, rfl, rfl⟩ := trodAll_nil r2
  obtain rfl : args = #[v0, v1, v2] := by cases args; simp_all
  obtain ⟨rfl, rfl⟩ := trodVars_none hV
  obtain ⟨a0, rfl, rfl, rfl, w0⟩ := open_int Try.underlying3 (hval 0 3 v0 rfl rfl) h0
  obtain ⟨a1, rfl, rfl, rfl, w1⟩ := open_int Try.underlying3 (hval 1 3 v1 rfl rfl) h1
  obtain ⟨a2, rfl, rfl, rfl⟩ := open_bool Try.underlying4 (hval 2 4 v2 rfl rfl) h2
  clear hA0 hval0
  refine (walk a0 w0 a1 w1 a2 W).mono fun e W' ⟨he, bel⟩ => ?_
  subst he
  exact ⟨_, rfl, _, _, _, [], _, [], hW', trodAll_mk1 (shut_bool Try.underlying4 _), (trodAll_cons_mk (shut_int Try.underlying3 w0) (trodAll_cons_mk (shut_int Try.underlying3 w1) (trodAll_cons_mk (shut_bool Try.underlying4 _) trodAll_mk0))), rfl, bel.frame _, fun h => by cases h⟩

theorem over : Rows.nodesLifeRow.holds Try.pinned (OpenSpec.ofChange Rows.nodesLifeSpec) :=
  OpenClaim.holds_of_wide 5 Try.f5 rfl rfl rfl rfl rfl rfl rfl ⟨rfl, rfl, rfl, rfl, rfl⟩ rfl rfl rfl rfl rfl (by kernel_rfl) Try.func5 (by kernel_rfl)
    (of_decide_eq_true (by kernel_rfl)) (by unfold Func.isWrapper; first | (rw [if_pos (by decide +kernel)]; kernel_rfl) | (rw [if_neg (by decide +kernel)]; exact ⟨rfl, rfl⟩))
    (fun os started H enc _ => lifted os started H enc)

theorem proved : Rows.NodesLifeSaid := over
#print axioms proved
end Go.Proofs.Ytffioglbgnbieaa.NodesLife
