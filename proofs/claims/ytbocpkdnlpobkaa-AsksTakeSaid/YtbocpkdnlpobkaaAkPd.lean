/- asks.Pending, dispatchref9.Pending. -/
import Derived.Test.YtbocpkdnlpobkaaAkT
namespace Go.Proofs.Ytbocpkdnlpobkaa
open Go.RowKit

theorem alloc2_at (w : World) (o o' : Obj) : ((w.alloc o).alloc o').heap[w.heap.size]? = some o ∧ ((w.alloc o).alloc o').heap[w.heap.size + 1]? = some o' :=
  ⟨ext_blk (ext_alloc _ _) (heap_alloc_new w o), alloc_at (by simp)⟩
theorem plus9_any (a b c d : Int) (w : World) : Calls Try.prog 31 #[.agg #[.int .i64 a, .int .i64 b], .agg #[.int .i64 c, .int .i64 d]] w fun e w' => e = .returned (.agg #[.int .i64 (wrap64 (a + c)), .int .i64 (wrap64 (b + d))]) ∧ Ext w w' := by
  go_enter Try.func31, Try.ntmps31
  go_wp2
  refine bodyPost_ret (by simp [results, Try.results31, go_sem]; try rfl) rfl ?_
  exact ⟨rfl, ((ext_alloc _ _).trans (ext_alloc _ _)).trans (ext_alloc _ _)⟩

set_option maxRecDepth 100000 in
set_option maxHeartbeats 1600000 in
theorem Pending_any (ds : List AD) (v : Value) (label : Int) (w : World) (hn : HdA w v ds) (hlen : ds.length ≤ 1000) :
    Calls Try.prog 21 #[v, .int .i64 label] w fun e w' => e = .returned (.agg #[.int .i64 (pendA ds label).1, .int .i64 (pendA ds label).2]) ∧ Ext w w' := by
  obtain ⟨A, N, c, rfl, hN, hc1, hc2, hcell⟩ := hn.ask
  have HC := Lib.hid hcell
  have HN := Lib.hid hN
  have hN1 : N ≤ 1000 := by omega
  clear hcell hN hn hlen
  go_enter Try.func21, Try.ntmps21
  go_wp2
  refine at_world (fun W0 hW0 => ?_)
  have X0 := Lib.hid (show Ext w W0 by rw [hW0]; exact (ext_alloc _ _).trans (ext_alloc _ _))
  have HB := Lib.hid (show W0.heap[w.heap.size]? = some (.cells #[.int .i64 0, .int .i64 0] 23 (0, 0)) ∧ W0.heap[w.heap.size + 1]? = some (.cells #[.int .i64 0, .int .i64 0] 23 (0, 0)) by rw [hW0]; exact alloc2_at _ _ _)
  obtain ⟨R, hR⟩ : ∃ R, R = w.heap.size := ⟨_, rfl⟩
  have HR := Lib.hid hR
  rw [← hR] at HB ⊢
  clear hW0 hR
  go_loopw [10] (fun i wr => ∃ (k : Nat), i = .int .i64 k ∧ k ≤ N ∧ wr.heap[R + 1]? = some (.cells #[.int .i64 (pendA (ds.take k) label).1, .int .i64 (pendA (ds.take k) label).2] 23 (0, 0)) ∧ wr.heap[R]? = some (.cells #[.int .i64 0, .int .i64 0] 23 (0, 0)) ∧ Ext w wr) (fun i _ => N - (intOf i).toNat)
  case atStart => exact ⟨0, rfl, by omega, HB.out.2, HB.out.1, X0.out⟩
  case round =>
    obtain ⟨k, rfl, hk, h5, h4, hx⟩ := hrel
    have H5 := Lib.hid h5
    have H4 := Lib.hid h4
    have HX := Lib.hid hx
    obtain ⟨t1, ht1⟩ : ∃ t, t = (pendA (ds.take k) label).1 := ⟨_, rfl⟩
    obtain ⟨t2, ht2⟩ : ∃ t, t = (pendA (ds.take k) label).2 := ⟨_, rfl⟩
    have HT := Lib.hid (And.intro ht1 ht2)
    rw [← ht1, ← ht2] at h5 H5
    have c0 := bcel h5 0 (.int .i64 t1) rfl
    have c1 := bcel h5 1 (.int .i64 t2) rfl
    have f0 := bfre h5 0
    have f1 := bfre h5 1
    have d0 := bfre h4 0
    have d1 := bfre h4 1
    have e0 := bcel h4 0 (.int .i64 0) rfl
    have e1 := bcel h4 1 (.int .i64 0) rfl
    have hr : R + 1 < wr.heap.size := (Array.getElem?_eq_some_iff.1 h5).1
    clear h5 h4 hx ht1 ht2
    have k0 : (0 : Int) ≤ (k : Int) := by omega
    by_cases hlt : k < N
    · have k1 : (k : Int) < (N : Int) := by omega
      obtain ⟨g, rfl, _, hg⟩ := HC.out (by omega)
      have hkd : k < ds.length := by have := HN.out; omega
      obtain ⟨q0, q1, q2, q3, q4, q5, q6, q7⟩ := (hg k hkd).ext HX.out
      obtain ⟨d, hd⟩ : ∃ d, d = ds[k] := ⟨_, rfl⟩
      have HTK := Lib.hid (show ds.take (k + 1) = ds.take k ++ [d] by rw [hd]; exact (List.take_append_getElem hkd).symm)
      rw [← hd] at q0 q1 q2 q3 q4 q5 q6 q7
      clear hd hg
      obtain ⟨ap, al, am, ac, an, ao, ar, ami⟩ := d
      simp only at q0 q1 q2 q3 q4 q5 q6 q7
      by_cases hlb : al = label
      · have HF := Lib.hid (show pendA (ds.take (k + 1)) label = (wrap64 (t1 + wrap64 (an * am)), wrap64 (t2 + wrap64 (an * ac))) by rw [HTK.out, pendA_snoc, if_pos hlb, HT.out.1, HT.out.2])
        have hb : (al == label) = true := by simp [hlb]
        clear hlb
        go_wp2
        go_roundw
        case rel =>
          refine ⟨k + 1, by simp, by omega, ?_, ?_, ?_⟩
          · refine ext_blk (ext_alloc _ _) ?_
            rw [bset (bset H5.out 0 _) 1 _, HF.out]
            rfl
          · refine ext_blk (ext_alloc _ _) ?_
            rw [heap_setCell_other _ _ _ _ (by simp), heap_setCell_other _ _ _ _ (by simp)]
            exact H4.out
          · exact (ext_set (ext_set HX.out (by have := HR.out; omega) _) (by have := HR.out; omega) _).trans (ext_alloc _ _)
        case measure => simp [intOf]; omega
      · have HF := Lib.hid (show pendA (ds.take (k + 1)) label = pendA (ds.take k) label by rw [HTK.out, pendA_snoc, if_neg hlb])
        have hb : (al == label) = false := by simpa using hlb
        clear hlb
        go_wp2
        go_roundw
        case rel => exact ⟨k + 1, by simp, by omega, by rw [HF.out, ← HT.out.1, ← HT.out.2]; exact ext_blk (ext_alloc _ _) H5.out, ext_blk (ext_alloc _ _) H4.out, HX.out.trans (ext_alloc _ _)⟩
        case measure => simp [intOf]; omega
    · obtain rfl : k = N := by omega
      have k1 : ¬ (k : Int) < (k : Int) := by omega
      have HF := Lib.hid (show pendA ds label = (t1, t2) by have h := HT.out; rw [HN.out, List.take_length] at h; rw [h.1, h.2])
      go_wp2
      refine at_worldB (fun W9 hW9 => ?_)
      have hb := bset (bset H4.out 0 (.int .i64 t1)) 1 (.int .i64 t2)
      rw [← hW9] at hb
      have g0 := bcel hb 0 (.int .i64 t1) rfl
      have g1 := bcel hb 1 (.int .i64 t2) rfl
      refine bodyPost_ret (by simp [results, Try.results21, go_sem, g0, g1]; try rfl) rfl ?_
      refine ⟨by rw [HF.out], ?_⟩
      rw [hW9]
      exact ext_set (ext_set HX.out (by have := HR.out; omega) _) (by have := HR.out; omega) _
end Go.Proofs.Ytbocpkdnlpobkaa
