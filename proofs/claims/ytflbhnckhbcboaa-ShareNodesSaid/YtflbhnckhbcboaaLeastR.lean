/- share.Least, share.Most, of root; of what is no queue. -/
import Derived.Test.YtflbhnckhbcboaaPortR
namespace Go.Proofs.Ytflbhnckhbcboaa
open Go.RowKit

set_option maxRecDepth 100000 in
set_option maxHeartbeats 1600000 in
theorem Least_root (s : SV) (ds : List ND) (qs : List QD) (P : ByteArray) (label : Int) (w : World) (h : PortOk w s ds qs) (hP : P.data.toList = rootT) (hno : hasB P.data.toList qs = true) :
    Calls Try.prog 10 #[s.val, .string P, .int .i64 label] w fun e w' => e = .returned (vecV (totV label ds)) ∧ Ext w w' := by
  have HC := Lib.hid (fun (W : World) (x : Ext w W) => portion_root s ds qs P label (15) W (h.ext x) hP hno)
  obtain ⟨r1, hr1⟩ : ∃ r, r = ((totV label ds) : Int × Int).1 := ⟨_, rfl⟩
  obtain ⟨r2, hr2⟩ : ∃ r, r = ((totV label ds) : Int × Int).2 := ⟨_, rfl⟩
  unfold vecV at HC ⊢
  rw [← hr1, ← hr2] at HC ⊢
  clear hno h hr1 hr2
  obtain ⟨vl, vq, vn, va, vc, vs, vp, nw, ep, sq⟩ := s
  simp only [SV.val] at HC ⊢
  go_enter Try.func10, Try.ntmps10
  go_wp2_with fail
  (with_reducible refine (HC.out _ ((ext_alloc _ _).trans (ext_alloc _ _))).mono ?_)
  rintro e w5 ⟨rfl, hx⟩
  obtain ⟨W0, hW0⟩ : ∃ W0, W0 = ((w.alloc (.cells #[vl, vq, vn, va, vc, vs, vp, .int .i64 nw, .int .i64 ep, .int .i64 sq] 36)).alloc (.cells #[.int .i64 0, .int .i64 0] 44)) := ⟨_, rfl⟩
  rw [← hW0] at hx
  have hb : W0.heap[w.heap.size + 1]? = some (.cells #[.int .i64 0, .int .i64 0] 44 (0, 0)) := by rw [hW0]; exact alloc_at (by simp)
  have hr := ext_blk hx hb
  have c0 := bcel hr 0 (.int .i64 0) rfl
  have c1 := bcel hr 1 (.int .i64 0) rfl
  have f0 := bfre hr 0
  have f1 := bfre hr 1
  have HX := Lib.hid (show Ext w w5 from Ext.trans (by rw [hW0]; exact (ext_alloc _ _).trans (ext_alloc _ _)) hx)
  have g0 : (w5.setCell ⟨w.heap.size + 1, 0, none⟩ (.int .i64 r1)).cell? ⟨w.heap.size + 1, 0, none⟩ = some (.int .i64 r1) := World.cell?_setCell_same' _ _ _ (by rw [c0]; rfl)
  have g1 : ((w5.setCell ⟨w.heap.size + 1, 0, none⟩ (.int .i64 r1)).setCell ⟨w.heap.size + 1, 1, none⟩ (.int .i64 r2)).cell? ⟨w.heap.size + 1, 1, none⟩ = some (.int .i64 r2) := World.cell?_setCell_same' _ _ _ (by rw [World.cell?_setCell_other _ _ _ _ (by simp), c1]; rfl)
  clear hx hr hb hW0
  go_wp2
  refine bodyPost_ret (by simp [results, Try.results10, go_sem, g0, g1]; try rfl) rfl ?_
  exact ⟨rfl, ext_set (ext_set HX.out (by omega) _) (by omega) _⟩

set_option maxRecDepth 100000 in
set_option maxHeartbeats 1600000 in
theorem Least_none (s : SV) (ds : List ND) (qs : List QD) (P : ByteArray) (label : Int) (w : World) (h : PortOk w s ds qs) (hno : hasB P.data.toList qs = false) :
    Calls Try.prog 10 #[s.val, .string P, .int .i64 label] w fun e w' => e = .returned (vecV (0, 0)) ∧ Ext w w' := by
  have HC := Lib.hid (fun (W : World) (x : Ext w W) => portion_none s ds qs P label (15) W (h.ext x) hno)
  obtain ⟨r1, hr1⟩ : ∃ r, r = ((0, 0) : Int × Int).1 := ⟨_, rfl⟩
  obtain ⟨r2, hr2⟩ : ∃ r, r = ((0, 0) : Int × Int).2 := ⟨_, rfl⟩
  unfold vecV at HC ⊢
  rw [← hr1, ← hr2] at HC ⊢
  clear hno h hr1 hr2
  obtain ⟨vl, vq, vn, va, vc, vs, vp, nw, ep, sq⟩ := s
  simp only [SV.val] at HC ⊢
  go_enter Try.func10, Try.ntmps10
  go_wp2_with fail
  (with_reducible refine (HC.out _ ((ext_alloc _ _).trans (ext_alloc _ _))).mono ?_)
  rintro e w5 ⟨rfl, hx⟩
  obtain ⟨W0, hW0⟩ : ∃ W0, W0 = ((w.alloc (.cells #[vl, vq, vn, va, vc, vs, vp, .int .i64 nw, .int .i64 ep, .int .i64 sq] 36)).alloc (.cells #[.int .i64 0, .int .i64 0] 44)) := ⟨_, rfl⟩
  rw [← hW0] at hx
  have hb : W0.heap[w.heap.size + 1]? = some (.cells #[.int .i64 0, .int .i64 0] 44 (0, 0)) := by rw [hW0]; exact alloc_at (by simp)
  have hr := ext_blk hx hb
  have c0 := bcel hr 0 (.int .i64 0) rfl
  have c1 := bcel hr 1 (.int .i64 0) rfl
  have f0 := bfre hr 0
  have f1 := bfre hr 1
  have HX := Lib.hid (show Ext w w5 from Ext.trans (by rw [hW0]; exact (ext_alloc _ _).trans (ext_alloc _ _)) hx)
  have g0 : (w5.setCell ⟨w.heap.size + 1, 0, none⟩ (.int .i64 r1)).cell? ⟨w.heap.size + 1, 0, none⟩ = some (.int .i64 r1) := World.cell?_setCell_same' _ _ _ (by rw [c0]; rfl)
  have g1 : ((w5.setCell ⟨w.heap.size + 1, 0, none⟩ (.int .i64 r1)).setCell ⟨w.heap.size + 1, 1, none⟩ (.int .i64 r2)).cell? ⟨w.heap.size + 1, 1, none⟩ = some (.int .i64 r2) := World.cell?_setCell_same' _ _ _ (by rw [World.cell?_setCell_other _ _ _ _ (by simp), c1]; rfl)
  clear hx hr hb hW0
  go_wp2
  refine bodyPost_ret (by simp [results, Try.results10, go_sem, g0, g1]; try rfl) rfl ?_
  exact ⟨rfl, ext_set (ext_set HX.out (by omega) _) (by omega) _⟩

set_option maxRecDepth 100000 in
set_option maxHeartbeats 1600000 in
theorem Most_root (s : SV) (ds : List ND) (qs : List QD) (P : ByteArray) (label : Int) (w : World) (h : PortOk w s ds qs) (hP : P.data.toList = rootT) (hno : hasB P.data.toList qs = true) :
    Calls Try.prog 11 #[s.val, .string P, .int .i64 label] w fun e w' => e = .returned (vecV (totV label ds)) ∧ Ext w w' := by
  have HC := Lib.hid (fun (W : World) (x : Ext w W) => portion_root s ds qs P label (16) W (h.ext x) hP hno)
  obtain ⟨r1, hr1⟩ : ∃ r, r = ((totV label ds) : Int × Int).1 := ⟨_, rfl⟩
  obtain ⟨r2, hr2⟩ : ∃ r, r = ((totV label ds) : Int × Int).2 := ⟨_, rfl⟩
  unfold vecV at HC ⊢
  rw [← hr1, ← hr2] at HC ⊢
  clear hno h hr1 hr2
  obtain ⟨vl, vq, vn, va, vc, vs, vp, nw, ep, sq⟩ := s
  simp only [SV.val] at HC ⊢
  go_enter Try.func11, Try.ntmps11
  go_wp2_with fail
  (with_reducible refine (HC.out _ ((ext_alloc _ _).trans (ext_alloc _ _))).mono ?_)
  rintro e w5 ⟨rfl, hx⟩
  obtain ⟨W0, hW0⟩ : ∃ W0, W0 = ((w.alloc (.cells #[vl, vq, vn, va, vc, vs, vp, .int .i64 nw, .int .i64 ep, .int .i64 sq] 36)).alloc (.cells #[.int .i64 0, .int .i64 0] 44)) := ⟨_, rfl⟩
  rw [← hW0] at hx
  have hb : W0.heap[w.heap.size + 1]? = some (.cells #[.int .i64 0, .int .i64 0] 44 (0, 0)) := by rw [hW0]; exact alloc_at (by simp)
  have hr := ext_blk hx hb
  have c0 := bcel hr 0 (.int .i64 0) rfl
  have c1 := bcel hr 1 (.int .i64 0) rfl
  have f0 := bfre hr 0
  have f1 := bfre hr 1
  have HX := Lib.hid (show Ext w w5 from Ext.trans (by rw [hW0]; exact (ext_alloc _ _).trans (ext_alloc _ _)) hx)
  have g0 : (w5.setCell ⟨w.heap.size + 1, 0, none⟩ (.int .i64 r1)).cell? ⟨w.heap.size + 1, 0, none⟩ = some (.int .i64 r1) := World.cell?_setCell_same' _ _ _ (by rw [c0]; rfl)
  have g1 : ((w5.setCell ⟨w.heap.size + 1, 0, none⟩ (.int .i64 r1)).setCell ⟨w.heap.size + 1, 1, none⟩ (.int .i64 r2)).cell? ⟨w.heap.size + 1, 1, none⟩ = some (.int .i64 r2) := World.cell?_setCell_same' _ _ _ (by rw [World.cell?_setCell_other _ _ _ _ (by simp), c1]; rfl)
  clear hx hr hb hW0
  go_wp2
  refine bodyPost_ret (by simp [results, Try.results11, go_sem, g0, g1]; try rfl) rfl ?_
  exact ⟨rfl, ext_set (ext_set HX.out (by omega) _) (by omega) _⟩

set_option maxRecDepth 100000 in
set_option maxHeartbeats 1600000 in
theorem Most_none (s : SV) (ds : List ND) (qs : List QD) (P : ByteArray) (label : Int) (w : World) (h : PortOk w s ds qs) (hno : hasB P.data.toList qs = false) :
    Calls Try.prog 11 #[s.val, .string P, .int .i64 label] w fun e w' => e = .returned (vecV (0, 0)) ∧ Ext w w' := by
  have HC := Lib.hid (fun (W : World) (x : Ext w W) => portion_none s ds qs P label (16) W (h.ext x) hno)
  obtain ⟨r1, hr1⟩ : ∃ r, r = ((0, 0) : Int × Int).1 := ⟨_, rfl⟩
  obtain ⟨r2, hr2⟩ : ∃ r, r = ((0, 0) : Int × Int).2 := ⟨_, rfl⟩
  unfold vecV at HC ⊢
  rw [← hr1, ← hr2] at HC ⊢
  clear hno h hr1 hr2
  obtain ⟨vl, vq, vn, va, vc, vs, vp, nw, ep, sq⟩ := s
  simp only [SV.val] at HC ⊢
  go_enter Try.func11, Try.ntmps11
  go_wp2_with fail
  (with_reducible refine (HC.out _ ((ext_alloc _ _).trans (ext_alloc _ _))).mono ?_)
  rintro e w5 ⟨rfl, hx⟩
  obtain ⟨W0, hW0⟩ : ∃ W0, W0 = ((w.alloc (.cells #[vl, vq, vn, va, vc, vs, vp, .int .i64 nw, .int .i64 ep, .int .i64 sq] 36)).alloc (.cells #[.int .i64 0, .int .i64 0] 44)) := ⟨_, rfl⟩
  rw [← hW0] at hx
  have hb : W0.heap[w.heap.size + 1]? = some (.cells #[.int .i64 0, .int .i64 0] 44 (0, 0)) := by rw [hW0]; exact alloc_at (by simp)
  have hr := ext_blk hx hb
  have c0 := bcel hr 0 (.int .i64 0) rfl
  have c1 := bcel hr 1 (.int .i64 0) rfl
  have f0 := bfre hr 0
  have f1 := bfre hr 1
  have HX := Lib.hid (show Ext w w5 from Ext.trans (by rw [hW0]; exact (ext_alloc _ _).trans (ext_alloc _ _)) hx)
  have g0 : (w5.setCell ⟨w.heap.size + 1, 0, none⟩ (.int .i64 r1)).cell? ⟨w.heap.size + 1, 0, none⟩ = some (.int .i64 r1) := World.cell?_setCell_same' _ _ _ (by rw [c0]; rfl)
  have g1 : ((w5.setCell ⟨w.heap.size + 1, 0, none⟩ (.int .i64 r1)).setCell ⟨w.heap.size + 1, 1, none⟩ (.int .i64 r2)).cell? ⟨w.heap.size + 1, 1, none⟩ = some (.int .i64 r2) := World.cell?_setCell_same' _ _ _ (by rw [World.cell?_setCell_other _ _ _ _ (by simp), c1]; rfl)
  clear hx hr hb hW0
  go_wp2
  refine bodyPost_ret (by simp [results, Try.results11, go_sem, g0, g1]; try rfl) rfl ?_
  exact ⟨rfl, ext_set (ext_set HX.out (by omega) _) (by omega) _⟩
end Go.Proofs.Ytflbhnckhbcboaa
