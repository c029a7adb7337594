/- nodes.Used where there is no container, nodes.Free there. -/
import Derived.Test.YtffioglbgnbieaaNdReg
namespace Go.Proofs.Ytffioglbgnbieaa
open Go.RowKit

set_option maxRecDepth 100000 in
set_option maxHeartbeats 1600000 in
theorem Used0_any (s : SV) (id : Int) (w : World) (h : RdK 9 w s.vc 0 []) :
    Calls Try.prog 22 #[s.val, .int .i64 id] w fun e w' => e = .returned (.agg #[.int .i64 0, .int .i64 0]) ∧ Ext w w' := by
  obtain ⟨vl, vq, vn, va, vc, vs, vp, nw, ep, sq⟩ := s
  obtain ⟨A, c, e, _⟩ := h
  dsimp only at e
  subst e
  simp only [SV.val]
  go_enter Try.func22, Try.ntmps22
  go_wp2
  refine at_world (fun W0 hW0 => ?_)
  have X0 := Lib.hid (show Ext w W0 by rw [hW0]; exact ((ext_alloc _ _).trans (ext_alloc _ _)).trans (ext_alloc _ _))
  obtain ⟨B, hB⟩ : ∃ B, B = w.heap.size := ⟨_, rfl⟩
  have HB := Lib.hid (show w.heap.size ≤ B by omega)
  have H1 := Lib.hid (show W0.heap[B + 1]? = some (.cells #[.int .i64 0, .int .i64 0] 42 (0, 0)) by rw [hW0, hB]; exact ext_blk (ext_alloc _ _) (alloc_at (by simp)))
  have H2 := Lib.hid (show W0.heap[B + 1 + 1]? = some (.cells #[.int .i64 0, .int .i64 0] 42 (0, 0)) by rw [hW0, hB]; exact alloc_at (by simp))
  rw [← hB]
  clear hW0 hB
  go_loopw [11] (fun i wr => i = .int .i64 0 ∧ wr = W0) (fun i _ => 0)
  case atStart => exact ⟨rfl, rfl⟩
  case round =>
    obtain ⟨rfl, rfl⟩ := hrel
    have c0 := bcel H2.out 0 (.int .i64 0) rfl
    have c1 := bcel H2.out 1 (.int .i64 0) rfl
    have d0 := bcel H1.out 0 (.int .i64 0) rfl
    have d1 := bcel H1.out 1 (.int .i64 0) rfl
    have fd := fun j => bfre H1.out j
    go_wp2
    refine at_worldQ (fun W9 hW9 => ?_)
    have hb9 := bset2 H1.out (.int .i64 0) (.int .i64 0)
    rw [← hW9] at hb9
    have g0 := bcel hb9 0 (.int .i64 0) rfl
    have g1 := bcel hb9 1 (.int .i64 0) rfl
    refine bodyPost_ret (by simp [results, Try.results22, go_sem, g0, g1]; try rfl) rfl ?_
    refine ⟨rfl, ?_⟩
    rw [hW9]
    exact ext_set (o := 1) (ext_set (o := 0) X0.out (by have := HB.out; omega) _) (by have := HB.out; omega) _

/-- What of a node is free where nothing is used. -/
def free0 (ds : List ND) (id : Int) : Int × Int := if (getN ds id).up then (max 0 (getN ds id).mem, max 0 (getN ds id).cores) else (0, 0)

set_option maxRecDepth 100000 in
set_option maxHeartbeats 3200000 in
theorem Free0_any (s : SV) (ds : List ND) (id : Int) (w : World) (hn : Hd w s.vn ds.length (ncells ds)) (hlen : ds.length ≤ 1000) (h : RdK 9 w s.vc 0 [])
    (hb : ∀ d ∈ ds, 0 ≤ d.mem ∧ d.mem ≤ 1000000000000 ∧ 0 ≤ d.cores ∧ d.cores ≤ 1000000000000) :
    Calls Try.prog 14 #[s.val, .int .i64 id] w fun e w' => e = .returned (vecV (free0 ds id)) ∧ Ext w w' := by
  have HI := Lib.hid (fun W (x : Ext w W) => Find_any s ds id W (hn.ext x) hlen)
  have HU := Lib.hid (fun W (x : Ext w W) => Used0_any s id W (h.ext x))
  have hbb : 0 ≤ (getN ds id).mem ∧ (getN ds id).mem ≤ 1000000000000 ∧ 0 ≤ (getN ds id).cores ∧ (getN ds id).cores ≤ 1000000000000 := by
    by_cases hx : idxN ds id < ds.length
    · rw [getN_at hx]; exact hb _ (List.getElem_mem hx)
    · rw [getN_no hx]; simp [zND]
  obtain ⟨b1, hb1⟩ : ∃ b, b = hasN ds id := ⟨_, rfl⟩
  rw [← hb1] at HI
  unfold free0
  obtain ⟨k, hk⟩ : ∃ k, k = getN ds id := ⟨_, rfl⟩
  rw [← hk] at HI hbb ⊢
  clear hk hb1 hn h hb
  obtain ⟨kid, klabel, krack, kmem, kcores, kseen, kbeat, kup⟩ := k
  obtain ⟨vl, vq, vn, va, vc, vs, vp, nw, ep, sq⟩ := s
  dsimp only at hbb ⊢
  obtain ⟨m0, m1, n0, n1⟩ := hbb
  simp only [SV.val, nodeV] at HI HU ⊢
  go_enter Try.func14, Try.ntmps14
  go_wp2_with fail
  (with_reducible refine (HI.out _ ((ext_alloc _ _).trans (ext_alloc _ _))).mono ?_)
  rintro e w1 ⟨rfl, hx1⟩
  have X1 := Lib.hid (((ext_alloc w (.cells #[vl, vq, vn, va, vc, vs, vp, .int .i64 nw, .int .i64 ep, .int .i64 sq] 34)).trans (ext_alloc _ (.cells #[.int .i64 0, .int .i64 0] 42))).trans hx1)
  have HS := Lib.hid (ext_blk hx1 (ext_blk (ext_alloc _ _) (heap_alloc_new w (.cells #[vl, vq, vn, va, vc, vs, vp, .int .i64 nw, .int .i64 ep, .int .i64 sq] 34))))
  have HT := Lib.hid (ext_blk hx1 (alloc_at (w := w.alloc (.cells #[vl, vq, vn, va, vc, vs, vp, .int .i64 nw, .int .i64 ep, .int .i64 sq] 34)) (n := w.heap.size + 1) (o := .cells #[.int .i64 0, .int .i64 0] 42) (by simp)))
  obtain ⟨B, hB⟩ : ∃ B, B = w.heap.size := ⟨_, rfl⟩
  have HB := Lib.hid (show w.heap.size ≤ B by omega)
  rw [← hB] at HS HT ⊢
  clear hx1 hB
  go_upto_region 2 with fail
  refine at_world (fun W2 hW2 => ?_)
  have HK := Lib.hid (show W2.heap[w1.heap.size]? = some (.cells #[.int .i64 kid, .int .i64 klabel, .int .i64 krack, .int .i64 kmem, .int .i64 kcores, .int .i64 kseen, .int .i64 kbeat, .bool kup] 44 (0, 0)) by rw [hW2]; exact heap_alloc_new w1 _)
  have E2 := Lib.hid (show Ext w1 W2 by rw [hW2]; exact ext_alloc _ _)
  clear hW2
  have HS2 := Lib.hid (ext_blk E2.out HS.out)
  have HT2 := Lib.hid (ext_blk E2.out HT.out)
  have X2 := Lib.hid (X1.out.trans E2.out)
  have k7 := bcel HK.out 7 (.bool kup) rfl
  obtain ⟨C, hC⟩ : ∃ C, C = w1.heap.size := ⟨_, rfl⟩
  rw [← hC] at k7 HK ⊢
  clear hC E2 HS HT X1
  cases kup
  · have d0 := bcel HT2.out 0 (.int .i64 0) rfl
    have d1 := bcel HT2.out 1 (.int .i64 0) rfl
    have fd := fun j => bfre HT2.out j
    go_wp2
    refine at_worldQ (fun W9 hW9 => ?_)
    have hb9 := bset2 HT2.out (.int .i64 0) (.int .i64 0)
    rw [← hW9] at hb9
    have g0 := bcel hb9 0 (.int .i64 0) rfl
    have g1 := bcel hb9 1 (.int .i64 0) rfl
    refine bodyPost_ret (by simp [results, Try.results14, go_sem, g0, g1]; try rfl) rfl ?_
    refine ⟨rfl, ?_⟩
    rw [hW9]
    exact ext_set (o := 1) (ext_set (o := 0) X2.out (by have := HB.out; omega) _) (by have := HB.out; omega) _
  · have s0 := bcel HS2.out 0 vl rfl
    have s1 := bcel HS2.out 1 vq rfl
    have s2 := bcel HS2.out 2 vn rfl
    have s3 := bcel HS2.out 3 va rfl
    have s4 := bcel HS2.out 4 vc rfl
    have s5 := bcel HS2.out 5 vs rfl
    have s6 := bcel HS2.out 6 vp rfl
    have s7 := bcel HS2.out 7 (.int .i64 nw) rfl
    have s8 := bcel HS2.out 8 (.int .i64 ep) rfl
    have s9 := bcel HS2.out 9 (.int .i64 sq) rfl
    go_wp2_with fail
    (with_reducible refine (HU.out _ X2.out).mono ?_)
    rintro e w3 ⟨rfl, hx3⟩
    have HK3 := Lib.hid (ext_blk hx3 HK.out)
    have HT3 := Lib.hid (ext_blk hx3 HT2.out)
    have X3 := Lib.hid (X2.out.trans hx3)
    clear hx3 s0 s1 s2 s3 s4 s5 s6 s7 s8 s9 k7 HK HT2 X2
    go_upto_region 5 with fail
    refine at_world (fun W4 hW4 => ?_)
    have E4 := Lib.hid (show Ext w3 W4 by rw [hW4]; exact ext_alloc _ _)
    have HV := Lib.hid (show W4.heap[w3.heap.size]? = some (.cells #[.int .i64 0, .int .i64 0] 42 (0, 0)) by rw [hW4]; exact heap_alloc_new w3 _)
    have k3 := bcel (ext_blk E4.out HK3.out) 3 (.int .i64 kmem) rfl
    have k4 := bcel (ext_blk E4.out HK3.out) 4 (.int .i64 kcores) rfl
    have HT4 := Lib.hid (ext_blk E4.out HT3.out)
    have X4 := Lib.hid (X3.out.trans E4.out)
    have v0 := bcel HV.out 0 (.int .i64 0) rfl
    have v1 := bcel HV.out 1 (.int .i64 0) rfl
    obtain ⟨V, hV⟩ : ∃ V, V = w3.heap.size := ⟨_, rfl⟩
    rw [← hV] at v0 v1 ⊢
    clear hW4 hV HV E4 HT3 HK3 X3
    have d0 := bcel HT4.out 0 (.int .i64 0) rfl
    have d1 := bcel HT4.out 1 (.int .i64 0) rfl
    have fd := fun j => bfre HT4.out j
    have w1' : wrap64 kmem = kmem := by unfold wrap64; omega
    have w2' : wrap64 kcores = kcores := by unfold wrap64; omega
    have w3' : IntKind.wrap .i64 kmem = kmem := by rw [IntKind.wrap_i64]; omega
    have w4' : IntKind.wrap .i64 kcores = kcores := by rw [IntKind.wrap_i64]; omega
    go_wp2
    refine at_worldQ (fun W9 hW9 => ?_)
    have hb9 := bset2 HT4.out (.int .i64 (max 0 kmem)) (.int .i64 (max 0 kcores))
    rw [← hW9] at hb9
    have g0 := bcel hb9 0 (.int .i64 (max 0 kmem)) rfl
    have g1 := bcel hb9 1 (.int .i64 (max 0 kcores)) rfl
    refine bodyPost_ret (by simp [results, Try.results14, go_sem, g0, g1]; try rfl) rfl ?_
    refine ⟨rfl, ?_⟩
    rw [hW9]
    exact ext_set (o := 1) (ext_set (o := 0) X4.out (by have := HB.out; omega) _) (by have := HB.out; omega) _
end Go.Proofs.Ytffioglbgnbieaa
