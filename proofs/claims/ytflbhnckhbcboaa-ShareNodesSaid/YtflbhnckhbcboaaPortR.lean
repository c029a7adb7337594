/- share.portion of root; of what is no queue. -/
import Derived.Test.YtflbhnckhbcboaaBackw
import Derived.Test.YtflbhnckhbcboaaFind
import Derived.Test.YtflbhnckhbcboaaTotal
namespace Go.Proofs.Ytflbhnckhbcboaa
open Go.RowKit Go.Shelf

attribute [local go_sem] Oper.semAt_some

def rootT : Tx := [114, 111, 111, 116]
theorem ups_root : ups rootT = [rootT] := by decide
/-- What portion asks of a state. -/
structure PortOk (w : World) (s : SV) (ds : List ND) (qs : List QD) : Prop where
  nodes : Hd w s.vn ds.length (ncells ds)
  nlen : ds.length ≤ 1000
  queues : QAt w s.vq qs
  qlen : qs.length ≤ 1000
  plen : ∀ q ∈ qs, q.path.length ≤ 1000000000
  clen : ∀ q ∈ qs, 1 ≤ q.caps.length ∧ q.caps.length ≤ 1000
theorem PortOk.ext {w w' : World} {s : SV} {ds : List ND} {qs : List QD} (h : PortOk w s ds qs) (x : Ext w w') : PortOk w' s ds qs := ⟨h.nodes.ext x, h.nlen, h.queues.ext x, h.qlen, h.plen, h.clen⟩

set_option maxRecDepth 100000 in
set_option maxHeartbeats 1600000 in
theorem portion_none (s : SV) (ds : List ND) (qs : List QD) (P : ByteArray) (label : Int) (g : Nat) (w : World) (h : PortOk w s ds qs) (hno : hasB P.data.toList qs = false) :
    Calls Try.prog 14 #[s.val, .string P, .int .i64 label, .func (.func g) #[] #[]] w fun e w' => e = .returned (vecV (0, 0)) ∧ Ext w w' := by
  have HP := Lib.hid h
  have HNO := Lib.hid hno
  clear h hno
  obtain ⟨vl, vq, vn, va, vc, vs, vp, nw, ep, sq⟩ := s
  simp only [SV.val]
  refine (callsIn_wide (n := 9)).1 ?_
  refine callsIn_of_wp Try.func14 rfl trivial ?_ rfl
  simp only [Try.ntmps14, List.size_toArray, List.length_cons, List.length_nil, Nat.reduceAdd, Nat.reduceSub, Array.replicate_succ, Array.replicate_zero, List.push_toArray, List.append_toArray, List.nil_append, List.cons_append]
  gi_wp2_with fail
  obtain ⟨W0, hW0⟩ : ∃ W0, W0 = ((((w.alloc (.cells #[vl, vq, vn, va, vc, vs, vp, .int .i64 nw, .int .i64 ep, .int .i64 sq] 36)).alloc (.cells #[.int .i64 label] 3)).alloc (.cells #[.func (.func g) #[] #[]] 57)).alloc (.cells #[.int .i64 0, .int .i64 0] 44)) := ⟨_, rfl⟩
  rw [← hW0]
  have X0 := Lib.hid (show Ext w W0 by rw [hW0]; exact (((ext_alloc _ _).trans (ext_alloc _ _)).trans (ext_alloc _ _)).trans (ext_alloc _ _))
  have HS := Lib.hid (show W0.heap[w.heap.size]? = some (.cells #[vl, vq, vn, va, vc, vs, vp, .int .i64 nw, .int .i64 ep, .int .i64 sq] 36 (0, 0)) by
    rw [hW0]; exact ext_blk (((ext_alloc _ _).trans (ext_alloc _ _)).trans (ext_alloc _ _)) (heap_alloc_new w _))
  have HLB := Lib.hid (show W0.heap[w.heap.size + 1]? = some (.cells #[.int .i64 label] 3 (0, 0)) by
    rw [hW0]; exact ext_blk ((ext_alloc _ _).trans (ext_alloc _ _)) (alloc_at (by simp)))
  have HFB := Lib.hid (show W0.heap[w.heap.size + 1 + 1]? = some (.cells #[.func (.func g) #[] #[]] 57 (0, 0)) by
    rw [hW0]; exact ext_blk (ext_alloc _ _) (alloc_at (by simp)))
  have HRB := Lib.hid (show W0.heap[w.heap.size + 1 + 1 + 1]? = some (.cells #[.int .i64 0, .int .i64 0] 44 (0, 0)) by
    rw [hW0]; exact alloc_at (by simp))
  have HSZ := Lib.hid (show W0.heap.size = w.heap.size + 1 + 1 + 1 + 1 by rw [hW0]; simp)
  clear hW0
  refine ⟨trivial, (callsIn_wide.2 (Find_any qs vl vq P W0 ((HP.out.ext X0.out).queues) HP.out.qlen HP.out.plen HP.out.clen)).mono ?_⟩
  rintro e w5 ⟨Pq, Aq, nq, cq, uq, rfl, hx5, _⟩
  rw [HNO.out]
  have hr := ext_blk hx5 HRB.out
  have c0 := bcel hr 0 (.int .i64 0) rfl
  have c1 := bcel hr 1 (.int .i64 0) rfl
  have f0 := bfre hr 0
  have f1 := bfre hr 1
  have a0 := fun o => (ext_alloc w5 o).cell c0
  have a1 := fun o => (ext_alloc w5 o).cell c1
  have HX5 := Lib.hid (X0.out.trans hx5)
  have hlt : w.heap.size + 1 + 1 + 1 < w5.heap.size := (Array.getElem?_eq_some_iff.1 hr).1
  clear hx5 hr
  have g0 : (w5.setCell ⟨w.heap.size + 1 + 1 + 1, 0, none⟩ (.int .i64 0)).cell? ⟨w.heap.size + 1 + 1 + 1, 0, none⟩ = some (.int .i64 0) := World.cell?_setCell_same' _ _ _ (by rw [c0]; rfl)
  have g1 : ((w5.setCell ⟨w.heap.size + 1 + 1 + 1, 0, none⟩ (.int .i64 0)).setCell ⟨w.heap.size + 1 + 1 + 1, 1, none⟩ (.int .i64 0)).cell? ⟨w.heap.size + 1 + 1 + 1, 1, none⟩ = some (.int .i64 0) := World.cell?_setCell_same' _ _ _ (by rw [World.cell?_setCell_other _ _ _ _ (by simp), c1]; rfl)
  have g2 := fun o => (ext_alloc ((w5.setCell ⟨w.heap.size + 1 + 1 + 1, 0, none⟩ (.int .i64 0)).setCell ⟨w.heap.size + 1 + 1 + 1, 1, none⟩ (.int .i64 0)) o).cell g1
  have g3 := fun o => (ext_alloc ((w5.setCell ⟨w.heap.size + 1 + 1 + 1, 0, none⟩ (.int .i64 0)).setCell ⟨w.heap.size + 1 + 1 + 1, 1, none⟩ (.int .i64 0)) o).cell ((World.cell?_setCell_other _ ⟨w.heap.size + 1 + 1 + 1, 1, none⟩ ⟨w.heap.size + 1 + 1 + 1, 0, none⟩ (.int .i64 0) (by simp)).trans g0)
  gi_wp2
  refine bodyPost_ret (by simp [results, Try.results14, go_sem, g2, g3]; try rfl) rfl ?_
  exact ⟨rfl, (ext_set (ext_set HX5.out (by omega) _) (by omega) _).trans (ext_alloc _ _)⟩

set_option maxRecDepth 100000 in
set_option maxHeartbeats 4000000 in
theorem portion_root (s : SV) (ds : List ND) (qs : List QD) (P : ByteArray) (label : Int) (g : Nat) (w : World) (h : PortOk w s ds qs) (hP : P.data.toList = rootT) (hno : hasB P.data.toList qs = true) :
    Calls Try.prog 14 #[s.val, .string P, .int .i64 label, .func (.func g) #[] #[]] w fun e w' => e = .returned (vecV (totV label ds)) ∧ Ext w w' := by
  have HP := Lib.hid h
  have HNO := Lib.hid hno
  have HPR := Lib.hid hP
  clear h hno
  obtain ⟨vl, vq, vn, va, vc, vs, vp, nw, ep, sq⟩ := s
  simp only [SV.val]
  refine (callsIn_wide (n := 9)).1 ?_
  refine callsIn_of_wp_marks Try.func14 rfl trivial ?_ rfl
  simp only [Try.ntmps14, List.size_toArray, List.length_cons, List.length_nil, Nat.reduceAdd, Nat.reduceSub, Array.replicate_succ, Array.replicate_zero, List.push_toArray, List.append_toArray, List.nil_append, List.cons_append]
  gi_wp2_with fail
  obtain ⟨W0, hW0⟩ : ∃ W0, W0 = ((((w.alloc (.cells #[vl, vq, vn, va, vc, vs, vp, .int .i64 nw, .int .i64 ep, .int .i64 sq] 36)).alloc (.cells #[.int .i64 label] 3)).alloc (.cells #[.func (.func g) #[] #[]] 57)).alloc (.cells #[.int .i64 0, .int .i64 0] 44)) := ⟨_, rfl⟩
  rw [← hW0]
  have X0 := Lib.hid (show Ext w W0 by rw [hW0]; exact (((ext_alloc _ _).trans (ext_alloc _ _)).trans (ext_alloc _ _)).trans (ext_alloc _ _))
  have HS := Lib.hid (show W0.heap[w.heap.size]? = some (.cells #[vl, vq, vn, va, vc, vs, vp, .int .i64 nw, .int .i64 ep, .int .i64 sq] 36 (0, 0)) by
    rw [hW0]; exact ext_blk (((ext_alloc _ _).trans (ext_alloc _ _)).trans (ext_alloc _ _)) (heap_alloc_new w _))
  have HLB := Lib.hid (show W0.heap[w.heap.size + 1]? = some (.cells #[.int .i64 label] 3 (0, 0)) by
    rw [hW0]; exact ext_blk ((ext_alloc _ _).trans (ext_alloc _ _)) (alloc_at (by simp)))
  have HFB := Lib.hid (show W0.heap[w.heap.size + 1 + 1]? = some (.cells #[.func (.func g) #[] #[]] 57 (0, 0)) by
    rw [hW0]; exact ext_blk (ext_alloc _ _) (alloc_at (by simp)))
  have HRB := Lib.hid (show W0.heap[w.heap.size + 1 + 1 + 1]? = some (.cells #[.int .i64 0, .int .i64 0] 44 (0, 0)) by
    rw [hW0]; exact alloc_at (by simp))
  have HSZ := Lib.hid (show W0.heap.size = w.heap.size + 1 + 1 + 1 + 1 by rw [hW0]; simp)
  clear hW0
  refine ⟨trivial, (callsIn_wide.2 (Find_any qs vl vq P W0 ((HP.out.ext X0.out).queues) HP.out.qlen HP.out.plen HP.out.clen)).mono ?_⟩
  rintro e w5 ⟨Pq, Aq, nq, cq, uq, rfl, hx5, _⟩
  rw [HNO.out]
  have HX5 := Lib.hid (X0.out.trans hx5)
  have HS5 := Lib.hid (ext_blk hx5 HS.out)
  have HL5 := Lib.hid (ext_blk hx5 HLB.out)
  have HF5 := Lib.hid (ext_blk hx5 HFB.out)
  have HR5 := Lib.hid (ext_blk hx5 HRB.out)
  have HP5 := Lib.hid (HP.out.ext (X0.out.trans hx5))
  have hlt : w.heap.size + 1 + 1 + 1 < w5.heap.size := (Array.getElem?_eq_some_iff.1 HR5.out).1
  have d0 := fun o => bcel (ext_blk (ext_alloc w5 o) HS5.out) 0 vl rfl
  have d1 := fun o => bcel (ext_blk (ext_alloc w5 o) HS5.out) 1 vq rfl
  have d2 := fun o => bcel (ext_blk (ext_alloc w5 o) HS5.out) 2 vn rfl
  have d3 := fun o => bcel (ext_blk (ext_alloc w5 o) HS5.out) 3 va rfl
  have d4 := fun o => bcel (ext_blk (ext_alloc w5 o) HS5.out) 4 vc rfl
  have d5 := fun o => bcel (ext_blk (ext_alloc w5 o) HS5.out) 5 vs rfl
  have d6 := fun o => bcel (ext_blk (ext_alloc w5 o) HS5.out) 6 vp rfl
  have d7 := fun o => bcel (ext_blk (ext_alloc w5 o) HS5.out) 7 (.int .i64 nw) rfl
  have d8 := fun o => bcel (ext_blk (ext_alloc w5 o) HS5.out) 8 (.int .i64 ep) rfl
  have d9 := fun o => bcel (ext_blk (ext_alloc w5 o) HS5.out) 9 (.int .i64 sq) rfl
  have e0 := fun o => bcel (ext_blk (ext_alloc w5 o) HL5.out) 0 (.int .i64 label) rfl
  clear hx5
  gi_wp2_with fail
  refine ⟨trivial, (callsIn_wide.2 (Total_any ⟨vl, vq, vn, va, vc, vs, vp, nw, ep, sq⟩ ds label (w5.alloc (.cells #[.string Pq, .slice Aq nq cq, .int .i64 uq] 40)) (HP5.out.ext (ext_alloc _ _)).nodes HP5.out.nlen)).mono ?_⟩
  rintro e w7 ⟨rfl, hx7⟩
  obtain ⟨t1, ht1⟩ : ∃ t, t = (totV label ds).1 := ⟨_, rfl⟩
  obtain ⟨t2, ht2⟩ : ∃ t, t = (totV label ds).2 := ⟨_, rfl⟩
  unfold vecV
  rw [← ht1, ← ht2]
  have HT1 := Lib.hid ht1
  have HT2 := Lib.hid ht2
  have HX7 := Lib.hid ((ext_alloc w5 _).trans hx7)
  have hps : P.size ≤ 1000000000 := by rw [ba_size, HPR.out]; decide
  clear hx7 ht1 ht2 d0 d1 d2 d3 d4 d5 d6 d7 d8 d9 e0
  gi_wp2_with fail
  refine ⟨trivial, (callsIn_wide.2 (Up_any P (w7.alloc (.cells #[.int .i64 t1, .int .i64 t2] 44)) hps)).mono ?_⟩
  unfold UpPost
  rw [HPR.out, ups_root]
  rintro e w8 ⟨A8, n8, c8, rfl, hn8, ho8, hx8⟩
  obtain rfl : n8 = 1 := hn8
  have HO8 := Lib.hid ho8
  have HX8 := Lib.hid hx8
  clear ho8 hx8
  gi_wp2_with fail
  refine ⟨trivial, (callsIn_wide.2 (Backward_any A8 1 c8 w8)).mono ?_⟩
  rintro e w9 ⟨rfl, hw9⟩
  have HW9 := Lib.hid hw9
  have HZ := Lib.hid (show TxsAt w9.heap.size w8.heap.size w9 [rootT] by
    rw [HW9.out]
    refine ⟨A8, c8, bcel (heap_alloc_new w8 _) 0 _ rfl, fun _ => ?_⟩
    have hp := own_ExtK HO8.out (ext_alloc w8 (.cells #[.slice A8 1 c8] 26))
    rcases hp.2 with ⟨_, h0⟩ | ⟨b, _, _, ev, _, hb, _⟩
    · cases h0
    · injection ev with eA
      subst eA
      refine ⟨b, rfl, (Array.getElem?_eq_some_iff.1 hb).1, fun j hj => ?_⟩
      rw [hp.cellAt (g := b) j (by simpa using hj), List.getElem?_map, List.getElem?_eq_getElem hj]
      rfl)
  have HX9 := Lib.hid (show Ext w8 w9 by rw [HW9.out]; exact ext_alloc _ _)
  have hB9 : w8.heap.size < w9.heap.size := by rw [HW9.out]; simp
  clear hw9
  gi_wp2
  refine wpIn_rangeFunc_ownF (F := Fence.wide) rfl (by omega) (gf := 25) (lb := #[.pointer (some ⟨w8.heap.size, 0, none⟩)]) rfl trivial (enters_of Try.func25 (by kernel_rfl) rfl)
    (back_stops Fence.wide _ trivial rfl (by omega) w8.heap.size w9.heap.size [rootT] (by decide) hB9 w9 (Nat.le_refl _) HZ.out) (fun h k => belowK_t h k) (belowK_b (Nat.le_refl _)) (Below.refl _ _) (fun _ => rfl)
    (fun _ W => Below w9.heap.size w9 W) (fun _ _ _ => False) (ownFrom_below (Nat.le_refl _) (Nat.le_refl _)) (fun _ _ _ _ _ hs _ _ => hs) (Below.refl _ _)
    (fun x : Elt [rootT] => { tmps := #[.agg #[vl, vq, vn, va, vc, vs, vp, .int .i64 nw, .int .i64 ep, .int .i64 sq], .string P, .int .i64 label, .func (.func g) #[] #[], .pointer (some ⟨w.heap.size, 0, none⟩), undef, .pointer (some ⟨w.heap.size + 1, 0, none⟩), .pointer (some ⟨w.heap.size + 1 + 1, 0, none⟩), .pointer (some ⟨w.heap.size + 1 + 1 + 1, 0, none⟩), .pointer (some ⟨w5.heap.size, 0, none⟩), .bool true, .pointer (some ⟨w7.heap.size, 0, none⟩), undef, sv x.1.2,
      .tuple #[.agg #[.string Pq, .slice Aq nq cq, .int .i64 uq], .bool true], .pointer (some ⟨w.heap.size, 0, none⟩), .agg #[vl, vq], .string P, .tuple #[.agg #[.string Pq, .slice Aq nq cq, .int .i64 uq], .bool true], .agg #[.string Pq, .slice Aq nq cq, .int .i64 uq], .bool true, .bool true, .bool false, undef,
      .agg #[vl, vq, vn, va, vc, vs, vp, .int .i64 nw, .int .i64 ep, .int .i64 sq], .int .i64 label, .agg #[.int .i64 t1, .int .i64 t2], .string P, .slice A8 1 c8, .func (.func 25) #[] #[.pointer (some ⟨w8.heap.size, 0, none⟩)], .int .i64 (x.1.1 : Int), sv x.1.2, undef, undef, undef, undef, undef, undef, undef, undef, undef, undef, undef, undef], defers := [] })
    ?assign ?body ?done ?stop
  case assign =>
    intro l x W K hK
    gi_wp2
    exact hK
  case body =>
    rintro l pre ⟨⟨i, x⟩, hx⟩ W hb hl
    simp only [List.mem_singleton] at hx
    subst hx
    have hq : sv rootT = .string ⟨#[114, 111, 111, 116]⟩ := rfl
    simp only [hq]
    gi_wp2
    exact ⟨KeepsOthers.refl _, Below.refl _ _, hb⟩
  case done =>
    rintro D xs W hD hxs hW hK
    clear hxs
    have HXA := Lib.hid (show Ext w8 W from Ext.trans HX9.out hW)
    have ha := ext_blk (HX8.out.trans HXA.out) (alloc_at (w := w7) (o := .cells #[.int .i64 t1, .int .i64 t2] 44) rfl)
    have hr := ext_blk (((HX7.out.trans (ext_alloc w7 (.cells #[.int .i64 t1, .int .i64 t2] 44))).trans HX8.out).trans HXA.out) HR5.out
    have c0 := bcel ha 0 (.int .i64 t1) rfl
    have c1 := bcel ha 1 (.int .i64 t2) rfl
    have r0 := bcel hr 0 (.int .i64 0) rfl
    have r1 := bcel hr 1 (.int .i64 0) rfl
    have f0 := bfre hr 0
    have f1 := bfre hr 1
    gi_wp2
    obtain ⟨W3, hW3⟩ : ∃ W3, W3 = (W.setCell ⟨w.heap.size + 1 + 1 + 1, 0, none⟩ (.int .i64 t1)).setCell ⟨w.heap.size + 1 + 1 + 1, 1, none⟩ (.int .i64 t2) := ⟨_, rfl⟩
    rw [← hW3]
    have hD3 : W3.heap[D]? = some (.deferred (some [])) := by
      rw [hW3]
      exact ((KeepsOthers.setCell _ _ _).trans (KeepsOthers.setCell _ _ _)).same D _ hK rfl
    refine ⟨by simp, .inl ⟨_, _, rfl, run_takeDeferred hD3, ?_⟩⟩
    have turn : ∀ r, (some D : Option Nat) = some r → ∃ o : Obj, W3.heap[r]? = some o ∧ o.isCells = false := fun r e => by cases e; exact ⟨_, hD3, rfl⟩
    have g' := grownBy_putObj' W3 D (.deferred none)
    have hr3 : W3.heap[w.heap.size + 1 + 1 + 1]? = some (.cells #[.int .i64 t1, .int .i64 t2] 44 (0, 0)) := by
      rw [hW3, bset (bset hr 0 _) 1 _]; rfl
    have d0 := cell_kept (bcel hr3 0 (.int .i64 t1) rfl) g' turn
    have d1 := cell_kept (bcel hr3 1 (.int .i64 t2) rfl) g' turn
    have hext : Ext w W3 := by
      rw [hW3]
      exact ext_set (ext_set ((((HX5.out.trans HX7.out).trans (ext_alloc w7 (.cells #[.int .i64 t1, .int .i64 t2] 44))).trans HX8.out).trans HXA.out) (by omega) _) (by omega) _
    refine ⟨.agg #[.int .i64 t1, .int .i64 t2], by simp [results, Try.f14, go_sem, d0, d1], ?_⟩
    refine ⟨by rw [vecV, ← HT1.out, ← HT2.out], Ext.trans' hext (grown_below g' hext.size (fun k e => ?_))⟩
    cases e
    have h1 := HX5.out.size
    have h2 := HX7.out.size
    have h3 := HX8.out.size
    simp at h3
    omega
  case stop =>
    rintro D c pre W _ _ h _
    exact h.elim
end Go.Proofs.Ytflbhnckhbcboaa
