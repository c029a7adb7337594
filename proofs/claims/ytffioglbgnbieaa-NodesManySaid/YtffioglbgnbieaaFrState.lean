/- fresh.conf, fresh.State: a state of its own that reads as the one that came in (without applications). -/
import Derived.Test.YtffioglbgnbieaaFrEachQ
import Derived.Test.YtffioglbgnbieaaNdPut
import Derived.Test.YtffioglbgnbieaaSched2
namespace Go.Proofs.Ytffioglbgnbieaa
open Go.RowKit

set_option maxRecDepth 100000 in
set_option maxHeartbeats 1600000 in
theorem eachApp0_any (v : Value) (w : World) (hr : RdK 14 w v 0 []) (F : Value) :
    Calls Try.prog 25 #[v, F] w (EachPost 14 73 0 [] w) := by
  have HI := Lib.hid (cloneApp_any v 0 [] w hr (by simp) (by omega))
  clear hr
  go_enter Try.func25, Try.ntmps25
  go_wp2_with fail
  (with_reducible refine (HI.out).mono ?_)
  unfold ClonePost
  rintro e w1 ⟨A, c, rfl, ho, hx⟩
  have HO := Lib.hid ho
  have HX := Lib.hid hx
  clear ho hx
  go_wp2
  go_loopw [11] (fun i wr => i = .int .i64 0 ∧ wr = w1) (fun i _ => 0)
  case atStart => exact ⟨rfl, rfl⟩
  case round =>
    obtain ⟨rfl, rfl⟩ := hrel
    go_wp2
    go_ret
    exact ⟨A, c, rfl, HO.out, HX.out⟩

theorem bset2 {w : World} {b : Nat} {t : TypeId} {x0 x1 : Value} (h : w.heap[b]? = some (.cells #[x0, x1] t (0, 0))) (v0 v1 : Value) : ((w.setCell ⟨b, 0, none⟩ v0).setCell ⟨b, 1, none⟩ v1).heap[b]? = some (.cells #[v0, v1] t (0, 0)) := by
  have e := bset (bset h 0 v0) 1 v1
  simp only [List.setIfInBounds_toArray, List.set_cons_zero, List.set_cons_succ] at e
  exact e
theorem QsAt.base {w : World} {B B' : Nat} {v : Value} {ds : List QD} (h : QsAt w B' v ds) (hB : B ≤ B') : QsAt w B v ds := by
  obtain ⟨qs, h1, h2, h3⟩ := h
  exact ⟨qs, own_base h1 hB, h2, fun k hk => by
    obtain ⟨q, h4, h5, h6⟩ := h3 k hk
    exact ⟨q, h4, h5, fun g hg => ⟨(h6 g hg).1, Nat.le_trans hB (h6 g hg).2.1, (h6 g hg).2.2⟩⟩⟩
def labsOk (xs : List ByteArray) : Prop := xs.length ≤ 1000 ∧ ∀ x ∈ xs, x.size ≤ 1000000000000
def FrCPost (xs : List ByteArray) (ds : List QD) (w : World) (e : Ending) (w' : World) : Prop := ∃ A1 c1 A2 c2, e = .returned (.agg #[.slice A1 xs.length c1, .slice A2 ds.length c2]) ∧ w'.ownsRow w.heap.size 9 1 (.slice A1 xs.length c1) xs.length (strVs xs) ∧ QsAt w' w.heap.size (.slice A2 ds.length c2) ds ∧ Ext w w'

set_option maxRecDepth 100000 in
set_option maxHeartbeats 3200000 in
theorem frConf_any (vl vq : Value) (xs : List ByteArray) (ds : List QD) (w : World) (hl : RdK 1 w vl xs.length (strVs xs)) (hq : RdQs w vq ds) (h1 : labsOk xs) (h2 : QBnd ds) :
    Calls Try.prog 23 #[.agg #[vl, vq]] w (FrCPost xs ds w) := by
  have HL := Lib.hid (fun W (x : Ext w W) => eachStr_any vl xs W (hl.ext x) (by have := h1.1; omega) h1.2)
  have HQ := Lib.hid (fun W (x : Ext w W) => eachQ_any vq ds W (hq.ext x) h2)
  obtain ⟨A, c, rfl, _⟩ := hl
  obtain ⟨qs, ⟨A', c', rfl, _⟩, _⟩ := hq
  clear h1 h2
  go_enter Try.func23, Try.ntmps23
  go_upto_region 1 with fail
  refine at_world (fun W0 hW0 => ?_)
  obtain ⟨B, hB⟩ : ∃ B, B = w.heap.size := ⟨_, rfl⟩
  have HB := Lib.hid (show w.heap.size ≤ B by omega)
  have X0 := Lib.hid (show Ext w W0 by rw [hW0]; exact (ext_alloc _ _).trans (ext_alloc _ _))
  have H1 := Lib.hid (show W0.heap[B]? = some (.cells #[.slice A xs.length c, .slice A' ds.length c'] 27 (0, 0)) by rw [hW0, hB]; exact ext_blk (ext_alloc _ _) (heap_alloc_new w _))
  have H2 := Lib.hid (show W0.heap[B + 1]? = some (.cells #[.slice none 0 0, .slice none 0 0] 27 (0, 0)) by rw [hW0, hB]; exact alloc_at (by simp))
  rw [← hB]
  clear hW0 hB
  have s0 := bcel H1.out 0 (.slice A xs.length c) rfl
  have s1 := bcel H1.out 1 (.slice A' ds.length c') rfl
  refine wp_region_sched (FootL fun b => b = B + 1) (FootL_way _) [(0, true), (1, true), (3, true), (4, true), (2, false), (5, false), (6, true), (7, false)] (by kernel_rfl) (by kernel_rfl) (fun _ _ _ _ _ h => h) ?_
  repeat first | ((with_reducible refine sched_free ?_ ?_ ?_ ?_ (fun wk k1 => ?_) ?_); rotate_left 2; (rfl); (first | exact want_none rfl | exact want_some rfl rfl rfl rfl); (go_simp; first | exact OkX.val | (have y0 := k1.cell ((Ext.drew _).cell s0) (by omega); have y1 := k1.cell ((Ext.drew _).cell s1) (by omega); go_simp; exact OkX.val)); simp only [Act.put, List.setIfInBounds_toArray, List.set_cons_zero, List.set_cons_succ]) | ((with_reducible refine sched_skip ?_ ?_ ?_ ?_); rotate_left; (rfl); (exact want_not rfl rfl rfl rfl rfl); simp only [Act.put, List.setIfInBounds_toArray, List.set_cons_zero, List.set_cons_succ])
  ((with_reducible refine sched_step ?_ ?_ ?_ (fun wk k1 => ?_)); rotate_left; (rfl); (first | exact want_none rfl | exact want_some rfl rfl rfl rfl))
  have E0 := Lib.hid ((Ext.drew _).trans k1)
  clear k1
  go_simp
  (with_reducible refine (HL.out _ (X0.out.trans E0.out)).mono ?_)
  unfold EachPost
  rintro e wf ⟨A1, c1, rfl, ho, hxf⟩
  refine ⟨FootL.of_ext hxf, ?_⟩
  try simp only [Act.put, List.setIfInBounds_toArray, List.set_cons_zero, List.set_cons_succ]
  have HW1 := Lib.hid ((X0.out.trans E0.out).size)
  have E1 := Lib.hid (E0.out.trans hxf)
  have HO := Lib.hid ho
  have HLO := Lib.hid (fun g (h : (Value.slice A1 xs.length c1).ownBlock = some g) => (ho.lt g h).1)
  clear ho hxf
  ((with_reducible refine sched_step ?_ ?_ ?_ (fun wk k1 => ?_)); rotate_left; (rfl); (first | exact want_none rfl | exact want_some rfl rfl rfl rfl))
  have E2 := Lib.hid (E1.out.trans k1)
  have HO2 := Lib.hid (own_ExtK HO.out k1)
  clear k1 HO
  go_simp
  (with_reducible refine (HQ.out _ (X0.out.trans E2.out)).mono ?_)
  unfold QsPost
  rintro e wf2 ⟨A2, c2, rfl, hrq, hxf⟩
  refine ⟨FootL.of_ext hxf, ?_⟩
  try simp only [Act.put, List.setIfInBounds_toArray, List.set_cons_zero, List.set_cons_succ]
  have HW2 := Lib.hid ((X0.out.trans E2.out).size)
  have E3 := Lib.hid (E2.out.trans hxf)
  have HO3 := Lib.hid (own_ExtK HO2.out hxf)
  have HQ3 := Lib.hid hrq
  clear hxf hrq HO2
  repeat first | ((with_reducible refine sched_free ?_ ?_ ?_ ?_ (fun wk k1 => ?_) ?_); rotate_left 2; (rfl); (first | exact want_none rfl | exact want_some rfl rfl rfl rfl); (go_simp; first | exact OkX.val); simp only [Act.put, List.setIfInBounds_toArray, List.set_cons_zero, List.set_cons_succ]) | ((with_reducible refine sched_skip ?_ ?_ ?_ ?_); rotate_left; (rfl); (exact want_not rfl rfl rfl rfl rfl); simp only [Act.put, List.setIfInBounds_toArray, List.set_cons_zero, List.set_cons_succ])
  ((with_reducible refine sched_step ?_ ?_ ?_ (fun wk k1 => ?_)); rotate_left; (rfl); (first | exact want_none rfl | exact want_some rfl rfl rfl rfl))
  have HO4 := Lib.hid (own_ExtK HO3.out k1)
  have HQ4 := Lib.hid (HQ3.out.ext k1)
  have E4 := Lib.hid (E3.out.trans k1)
  have HS2 := Lib.hid (show B + 1 < W0.heap.size from (Array.getElem?_eq_some_iff.1 H2.out).1)
  have HSE := Lib.hid (Nat.lt_of_lt_of_le HS2.out E0.out.size)
  have HSF := Lib.hid (Nat.lt_of_lt_of_le HS2.out E2.out.size)
  clear k1 HO3 HQ3
  have hb := ext_blk E4.out H2.out
  have d0 := bcel hb 0 (.slice none 0 0) rfl
  have d1 := bcel hb 1 (.slice none 0 0) rfl
  have fd := fun j => bfre hb j
  go_simp
  refine ⟨(FootL_way _).trans (FootL.setCell _ _ _ _ _ rfl) (FootL.setCell _ _ _ _ _ rfl), ?_⟩
  try simp only [Act.put, List.setIfInBounds_toArray, List.set_cons_zero, List.set_cons_succ]
  refine sched_done (fun wz k1 => ?_)
  have hg0 := bgrown wk (B + 1) 0 (.slice A1 xs.length c1)
  have hg1 := bgrown (wk.setCell ⟨B + 1, 0, none⟩ (.slice A1 xs.length c1)) (B + 1) 1 (.slice A2 ds.length c2)
  have HO5 := Lib.hid (own_ExtK ((HO4.out.kept hg0 (.inr (fun e => by have := HLO.out _ e; have := HSE.out; omega))).kept hg1 (.inr (fun e => by have := HLO.out _ e; have := HSE.out; omega))) k1)
  have HQ5 := Lib.hid (((HQ4.out.low hg0 (by have := HSF.out; omega)).low hg1 (by have := HSF.out; omega)).ext k1)
  have X5 := Lib.hid ((ext_set (o := 1) (ext_set (o := 0) (X0.out.trans E4.out) (show w.heap.size ≤ B + 1 by have := HB.out; omega) (.slice A1 xs.length c1)) (show w.heap.size ≤ B + 1 by have := HB.out; omega) (.slice A2 ds.length c2)).trans k1)
  have HB5 := Lib.hid (ext_blk k1 (bset2 hb (.slice A1 xs.length c1) (.slice A2 ds.length c2)))
  have g0 := bcel HB5.out 0 (.slice A1 xs.length c1) rfl
  have g1 := bcel HB5.out 1 (.slice A2 ds.length c2) rfl
  clear k1 hg0 hg1 d0 d1 fd hb
  go_wp2
  refine bodyPost_ret (by simp [results, Try.results23, go_sem, g0, g1]; try rfl) rfl ?_
  exact ⟨A1, c1, A2, c2, rfl, own_base HO5.out HW1.out, HQ5.out.base HW2.out, X5.out⟩
end Go.Proofs.Ytffioglbgnbieaa
