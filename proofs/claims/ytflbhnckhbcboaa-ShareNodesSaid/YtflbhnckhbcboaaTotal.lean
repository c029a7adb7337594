/- share.plus, share.Total. -/
import Derived.Test.YtflbhnckhbcboaaSt
import Derived.Test.YtflbhnckhbcboaaSched
import Derived.Test.YtflbhnckhbcboaaBlk0
import Derived.Laws.Cover1
namespace Go.Proofs.Ytflbhnckhbcboaa
open Go.RowKit

theorem splus_any (a b c d : Int) (w : World) : Calls Try.prog 13 #[.agg #[.int .i64 a, .int .i64 b], .agg #[.int .i64 c, .int .i64 d]] w fun e w' => e = .returned (.agg #[.int .i64 (wrap64 (a + c)), .int .i64 (wrap64 (b + d))]) ∧ Ext w w' := by
  go_enter Try.func13, Try.ntmps13
  go_wp2
  refine bodyPost_ret (by simp [results, Try.results13, go_sem]; try rfl) rfl ?_
  exact ⟨rfl, ((ext_alloc _ _).trans (ext_alloc _ _)).trans (ext_alloc _ _)⟩

set_option maxRecDepth 100000 in
set_option maxHeartbeats 1600000 in
theorem Total_any (s : SV) (ds : List ND) (label : Int) (w : World) (hn : Hd w s.vn ds.length (ncells ds)) (hlen : ds.length ≤ 1000) :
    Calls Try.prog 9 #[s.val, .int .i64 label] w fun e w' => e = .returned (vecV (totV label ds)) ∧ Ext w w' := by
  obtain ⟨vl, vq, vn, va, vc, vs, vp, nw, ep, sq⟩ := s
  obtain ⟨A, N, c, e, hN, hc1, hc2, hcell⟩ := hn.node
  simp only at e
  subst e
  have HC := Lib.hid hcell
  have HN := Lib.hid hN
  have hN1 : N ≤ 1000 := by omega
  clear hcell hN hn hlen
  simp only [SV.val]
  go_enter Try.func9, Try.ntmps9
  go_wp2
  refine at_world (fun W0 hW0 => ?_)
  have X0 := Lib.hid (show Ext w W0 by rw [hW0]; exact ((ext_alloc _ _).trans (ext_alloc _ _)).trans (ext_alloc _ _))
  have HB5 := Lib.hid (show W0.heap[w.heap.size + 1 + 1]? = some (.cells #[.int .i64 0, .int .i64 0] 44 (0, 0)) by
    rw [hW0]
    have := heap_alloc_new ((w.alloc (.cells #[vl, vq, .slice A N c, va, vc, vs, vp, .int .i64 nw, .int .i64 ep, .int .i64 sq] 36)).alloc (.cells #[.int .i64 0, .int .i64 0] 44)) (.cells #[.int .i64 0, .int .i64 0] 44)
    simpa using this)
  have HB4 := Lib.hid (show W0.heap[w.heap.size + 1]? = some (.cells #[.int .i64 0, .int .i64 0] 44 (0, 0)) by
    rw [hW0]
    have := heap_alloc_new (w.alloc (.cells #[vl, vq, .slice A N c, va, vc, vs, vp, .int .i64 nw, .int .i64 ep, .int .i64 sq] 36)) (.cells #[.int .i64 0, .int .i64 0] 44)
    rw [show (w.alloc (.cells #[vl, vq, .slice A N c, va, vc, vs, vp, .int .i64 nw, .int .i64 ep, .int .i64 sq] 36)).heap.size = w.heap.size + 1 by simp] at this
    exact ext_blk (ext_alloc _ _) this)
  have hsz : W0.heap.size = w.heap.size + 1 + 1 + 1 := by rw [hW0]; simp
  obtain ⟨R, hR⟩ : ∃ R, R = w.heap.size + 1 := ⟨_, rfl⟩
  have HRW := Lib.hid (show w.heap.size ≤ R by omega)
  have HSZ := Lib.hid (show W0.heap.size = R + 1 + 1 by omega)
  have HB4' := Lib.hid (show W0.heap[R]? = some (.cells #[.int .i64 0, .int .i64 0] 44 (0, 0)) by rw [hR]; exact HB4.out)
  have HB5' := Lib.hid (show W0.heap[R + 1]? = some (.cells #[.int .i64 0, .int .i64 0] 44 (0, 0)) by rw [hR]; exact HB5.out)
  rw [← hR]
  clear hW0 hsz hR HB4 HB5
  go_loopw [11] (fun i wr => ∃ (k : Nat), i = .int .i64 k ∧ k ≤ N ∧ wr.heap[R + 1]? = some (.cells #[.int .i64 (totV label (ds.take k)).1, .int .i64 (totV label (ds.take k)).2] 44 (0, 0)) ∧ wr.heap[R]? = some (.cells #[.int .i64 0, .int .i64 0] 44 (0, 0)) ∧ Ext w wr) (fun i _ => N - (intOf i).toNat)
  case atStart => exact ⟨0, rfl, by omega, HB5'.out, HB4'.out, X0.out⟩
  case round =>
    obtain ⟨k, rfl, hk, h5, h4, hx⟩ := hrel
    have H5 := Lib.hid h5
    have H4 := Lib.hid h4
    have HX := Lib.hid hx
    obtain ⟨t1, ht1⟩ : ∃ t, t = (totV label (ds.take k)).1 := ⟨_, rfl⟩
    obtain ⟨t2, ht2⟩ : ∃ t, t = (totV label (ds.take k)).2 := ⟨_, rfl⟩
    have HT1 := Lib.hid ht1
    have HT2 := Lib.hid ht2
    rw [← ht1, ← ht2] at h5
    have c0 := bcel h5 0 (.int .i64 t1) rfl
    have c1 := bcel h5 1 (.int .i64 t2) rfl
    have f0 := bfre h5 0
    have f1 := bfre h5 1
    have d0 := bfre h4 0
    have d1 := bfre h4 1
    have e0 := bcel h4 0 (.int .i64 0) rfl
    have e1 := bcel h4 1 (.int .i64 0) rfl
    clear h5 h4 hx ht1 ht2
    have k0 : (0 : Int) ≤ (k : Int) := by omega
    by_cases hlt : k < N
    · have k1 : (k : Int) < (N : Int) := by omega
      obtain ⟨g, rfl, hg⟩ := HC.out (by omega)
      have hkd : k < ds.length := by have := HN.out; omega
      obtain ⟨q0, q1, q2, q3, q4, q5, q6, q7⟩ := hg k hkd
      have q0 := HX.out.cell q0
      have q1 := HX.out.cell q1
      have q2 := HX.out.cell q2
      have q3 := HX.out.cell q3
      have q4 := HX.out.cell q4
      have q5 := HX.out.cell q5
      have q6 := HX.out.cell q6
      have q7 := HX.out.cell q7
      obtain ⟨d, hd⟩ : ∃ d, d = ds[k] := ⟨_, rfl⟩
      have HD := Lib.hid hd
      have HTK := Lib.hid (show ds.take (k + 1) = ds.take k ++ [d] by rw [hd, List.take_succ_eq_append_getElem hkd])
      rw [← hd] at q0 q1 q2 q3 q4 q5 q6 q7
      clear hd hg
      cases hup : d.up
      · rw [hup] at q7
        have HF := Lib.hid (show totV label (ds.take (k + 1)) = totV label (ds.take k) by rw [HTK.out, totV_snoc, if_neg (by rw [hup]; simp)])
        clear hup
        go_wp2
        go_roundw
        case rel => exact ⟨k + 1, by simp, by omega, by rw [HF.out]; exact ext_blk (ext_alloc _ _) H5.out, ext_blk (ext_alloc _ _) H4.out, HX.out.trans (ext_alloc _ _)⟩
        case measure => simp [intOf]; omega
      · rw [hup] at q7
        by_cases hlb : d.label = label
        · have HF := Lib.hid (show totV label (ds.take (k + 1)) = plusV (totV label (ds.take k)) (d.mem, d.cores) by rw [HTK.out, totV_snoc, if_pos ⟨hup, hlb⟩])
          have hb : (d.label == label) = true := by simp [hlb]
          have ca0 := fun o => (ext_alloc wr o).cell c0
          have ca1 := fun o => (ext_alloc wr o).cell c1
          clear hup hlb
          go_wp2_with fail
          (with_reducible refine (splus_any t1 t2 d.mem d.cores _).mono ?_)
          rintro e wk ⟨rfl, hx⟩
          have HXK := Lib.hid ((ext_alloc _ _).trans hx)
          have hr : R + 1 < wr.heap.size := (Array.getElem?_eq_some_iff.1 H5.out).1
          have h5 := ext_blk HXK.out H5.out
          have c0 := bcel h5 0 _ rfl
          have c1 := bcel h5 1 _ rfl
          have f0 := bfre h5 0
          have f1 := bfre h5 1
          clear hx q0 q1 q2 q3 q4 q5 q6 q7
          go_wp2
          go_roundw
          case rel =>
            refine ⟨k + 1, by simp, by omega, ?_, ?_, ?_⟩
            · rw [bset (bset h5 0 _) 1 _, HF.out, plusV, ← HT1.out, ← HT2.out]
              rfl
            · rw [heap_setCell_other _ _ _ _ (by simp), heap_setCell_other _ _ _ _ (by simp)]
              exact ext_blk HXK.out H4.out
            · exact ext_set (ext_set (HX.out.trans HXK.out) (by have := HRW.out; omega) _) (by have := HRW.out; omega) _
          case measure => simp [intOf]; omega
        · have HF := Lib.hid (show totV label (ds.take (k + 1)) = totV label (ds.take k) by rw [HTK.out, totV_snoc, if_neg (fun h => hlb h.2)])
          have hb : (d.label == label) = false := by simp [hlb]
          clear hup hlb
          go_wp2
          go_roundw
          case rel => exact ⟨k + 1, by simp, by omega, by rw [HF.out]; exact ext_blk (ext_alloc _ _) H5.out, ext_blk (ext_alloc _ _) H4.out, HX.out.trans (ext_alloc _ _)⟩
          case measure => simp [intOf]; omega
    · obtain rfl : k = N := by omega
      have k1 : ¬ (k : Int) < (k : Int) := by omega
      have HTA := Lib.hid (show ds.take k = ds by rw [HN.out, List.take_length])
      have g0 : (wr.setCell ⟨R, 0, none⟩ (.int .i64 t1)).cell? ⟨R, 0, none⟩ = some (.int .i64 t1) := World.cell?_setCell_same' _ _ _ (by rw [e0]; rfl)
      have g1 : ((wr.setCell ⟨R, 0, none⟩ (.int .i64 t1)).setCell ⟨R, 1, none⟩ (.int .i64 t2)).cell? ⟨R, 1, none⟩ = some (.int .i64 t2) := World.cell?_setCell_same' _ _ _ (by rw [World.cell?_setCell_other _ _ _ _ (by simp), e1]; rfl)
      go_wp2
      refine bodyPost_ret (by simp [results, Try.results9, go_sem, g0, g1]; try rfl) rfl ?_
      refine ⟨?_, ext_set (ext_set HX.out (by have := HRW.out; omega) _) (by have := HRW.out; omega) _⟩
      rw [vecV, ← HTA.out, ← HT1.out, ← HT2.out]
end Go.Proofs.Ytflbhnckhbcboaa
