/- The laws' own small functions: good, known. -/
import Derived.Test.YtbocpkdnlpobkaaAkL
import Derived.Test.YtbocpkdnlpobkaaAkC
import Derived.Test.YtbocpkdnlpobkaaSched3
import Derived.Test.YtbocpkdnlpobkaaFoot
namespace Go.Proofs.Ytbocpkdnlpobkaa
open Go.RowKit

/-- An ask such as may be. -/
def goodA (a : AD) : AD := ⟨a.prio % 10, a.label % 2, 1 + a.mem % 1073741824, 1 + a.cores % 1073741824, a.count % 6, if a.rack % 101 - 1 < 0 then -1 else a.node % 1001 - 1, a.rack % 101 - 1, a.missed % 101⟩
theorem box2_at (w : World) (o o' : Obj) : ((w.alloc o).alloc o').heap[w.heap.size]? = some o ∧ ((w.alloc o).alloc o').heap[w.heap.size + 1]? = some o' :=
  ⟨ext_blk (ext_alloc _ _) (heap_alloc_new w o), alloc_at (by simp)⟩
theorem blk_other {w : World} {b b' i : Nat} {o : Obj} (h : w.heap[b]? = some o) (hne : b ≠ b') (v : Value) : (w.setCell ⟨b', i, none⟩ v).heap[b]? = some o := by
  rw [heap_setCell_other w ⟨b', i, none⟩ b v hne]
  exact h

set_option maxRecDepth 100000 in
set_option maxHeartbeats 6400000 in
theorem good_any (a : AD) (w : World) : Calls Try.prog 13 #[askV a] w fun e w' => e = .returned (askV (goodA a)) ∧ Ext w w' := by
  obtain ⟨ap, al, am, ac, an, ao, ar, ami⟩ := a
  unfold goodA askV
  simp only
  have Hy0 := Lib.hid (fun W => within9_any ap 10 W ⟨by omega, by omega⟩)
  have By0 : 0 ≤ ap % 10 ∧ ap % 10 < 10 := ⟨Int.emod_nonneg _ (by omega), Int.emod_lt_of_pos _ (by omega)⟩
  obtain ⟨y0, ey0⟩ : ∃ y, y = ap % 10 := ⟨_, rfl⟩
  rw [← ey0] at Hy0 By0 ⊢
  clear ey0
  have Hy1 := Lib.hid (fun W => within9_any al 2 W ⟨by omega, by omega⟩)
  have By1 : 0 ≤ al % 2 ∧ al % 2 < 2 := ⟨Int.emod_nonneg _ (by omega), Int.emod_lt_of_pos _ (by omega)⟩
  obtain ⟨y1, ey1⟩ : ∃ y, y = al % 2 := ⟨_, rfl⟩
  rw [← ey1] at Hy1 By1 ⊢
  clear ey1
  have Hy4 := Lib.hid (fun W => within9_any an 6 W ⟨by omega, by omega⟩)
  have By4 : 0 ≤ an % 6 ∧ an % 6 < 6 := ⟨Int.emod_nonneg _ (by omega), Int.emod_lt_of_pos _ (by omega)⟩
  obtain ⟨y4, ey4⟩ : ∃ y, y = an % 6 := ⟨_, rfl⟩
  rw [← ey4] at Hy4 By4 ⊢
  clear ey4
  have Hy7 := Lib.hid (fun W => within9_any ami 101 W ⟨by omega, by omega⟩)
  have By7 : 0 ≤ ami % 101 ∧ ami % 101 < 101 := ⟨Int.emod_nonneg _ (by omega), Int.emod_lt_of_pos _ (by omega)⟩
  obtain ⟨y7, ey7⟩ : ∃ y, y = ami % 101 := ⟨_, rfl⟩
  rw [← ey7] at Hy7 By7 ⊢
  clear ey7
  have Hy2 := Lib.hid (fun W => within9_any am 1073741824 W ⟨by omega, by omega⟩)
  have By2 : 0 ≤ am % 1073741824 ∧ am % 1073741824 < 1073741824 := ⟨Int.emod_nonneg _ (by omega), Int.emod_lt_of_pos _ (by omega)⟩
  obtain ⟨y2, ey2⟩ : ∃ y, y = am % 1073741824 := ⟨_, rfl⟩
  rw [← ey2] at Hy2 By2 ⊢
  clear ey2
  have Hy3 := Lib.hid (fun W => within9_any ac 1073741824 W ⟨by omega, by omega⟩)
  have By3 : 0 ≤ ac % 1073741824 ∧ ac % 1073741824 < 1073741824 := ⟨Int.emod_nonneg _ (by omega), Int.emod_lt_of_pos _ (by omega)⟩
  obtain ⟨y3, ey3⟩ : ∃ y, y = ac % 1073741824 := ⟨_, rfl⟩
  rw [← ey3] at Hy3 By3 ⊢
  clear ey3
  have Hy6 := Lib.hid (fun W => within9_any ar 101 W ⟨by omega, by omega⟩)
  have By6 : 0 ≤ ar % 101 ∧ ar % 101 < 101 := ⟨Int.emod_nonneg _ (by omega), Int.emod_lt_of_pos _ (by omega)⟩
  obtain ⟨y6, ey6⟩ : ∃ y, y = ar % 101 := ⟨_, rfl⟩
  rw [← ey6] at Hy6 By6 ⊢
  clear ey6
  have Hy5 := Lib.hid (fun W => within9_any ao 1001 W ⟨by omega, by omega⟩)
  have By5 : 0 ≤ ao % 1001 ∧ ao % 1001 < 1001 := ⟨Int.emod_nonneg _ (by omega), Int.emod_lt_of_pos _ (by omega)⟩
  obtain ⟨y5, ey5⟩ : ∃ y, y = ao % 1001 := ⟨_, rfl⟩
  rw [← ey5] at Hy5 By5 ⊢
  clear ey5
  have Wy2 : IntKind.wrap .i64 (1 + y2) = 1 + y2 := by rw [IntKind.wrap_i64]; omega
  have Wy3 : IntKind.wrap .i64 (1 + y3) = 1 + y3 := by rw [IntKind.wrap_i64]; omega
  have Wy5 : IntKind.wrap .i64 (y5 - 1) = y5 - 1 := by rw [IntKind.wrap_i64]; omega
  have Wy6 : IntKind.wrap .i64 (y6 - 1) = y6 - 1 := by rw [IntKind.wrap_i64]; omega
  obtain ⟨nd, hnd⟩ : ∃ nd : Int, nd = if y6 - 1 < 0 then -1 else y5 - 1 := ⟨_, rfl⟩
  have HND := Lib.hid hnd
  rw [← hnd]
  clear hnd
  go_enter Try.func13, Try.ntmps13
  go_wp2_with fail
  refine at_world (fun W0 hW0 => ?_)
  have HB0 := Lib.hid (show W0.heap[w.heap.size]? = some (.cells #[.int .i64 ap, .int .i64 al, .int .i64 am, .int .i64 ac, .int .i64 an, .int .i64 ao, .int .i64 ar, .int .i64 ami] 25 (0, 0)) ∧ W0.heap[w.heap.size + 1]? = some (.cells #[.int .i64 0, .int .i64 0, .int .i64 0, .int .i64 0, .int .i64 0, .int .i64 0, .int .i64 0, .int .i64 0] 25 (0, 0)) by rw [hW0]; exact box2_at _ _ _)
  have X0 := Lib.hid (show Ext w W0 by rw [hW0]; exact (ext_alloc _ _).trans (ext_alloc _ _))
  obtain ⟨B, hB⟩ : ∃ B, B = w.heap.size := ⟨_, rfl⟩
  have HBB := Lib.hid hB
  rw [← hB] at HB0 ⊢
  clear hW0 hB
  have HBA := Lib.hid HB0.out.1
  have HZA := Lib.hid HB0.out.2
  have HCC := Lib.hid (fun (w' : World) (h : Ext W0 w') => (⟨h.cell (bcel HBA.out 0 (.int .i64 ap) rfl), h.cell (bcel HBA.out 1 (.int .i64 al) rfl), h.cell (bcel HBA.out 2 (.int .i64 am) rfl), h.cell (bcel HBA.out 3 (.int .i64 ac) rfl), h.cell (bcel HBA.out 4 (.int .i64 an) rfl), h.cell (bcel HBA.out 5 (.int .i64 ao) rfl), h.cell (bcel HBA.out 6 (.int .i64 ar) rfl), h.cell (bcel HBA.out 7 (.int .i64 ami) rfl), bfre (ext_blk h HBA.out) 0, bfre (ext_blk h HBA.out) 1, bfre (ext_blk h HBA.out) 2, bfre (ext_blk h HBA.out) 3, bfre (ext_blk h HBA.out) 4, bfre (ext_blk h HBA.out) 5, bfre (ext_blk h HBA.out) 6, bfre (ext_blk h HBA.out) 7⟩ : w'.cell? ⟨B, 0, none⟩ = some (.int .i64 ap) ∧ w'.cell? ⟨B, 1, none⟩ = some (.int .i64 al) ∧ w'.cell? ⟨B, 2, none⟩ = some (.int .i64 am) ∧ w'.cell? ⟨B, 3, none⟩ = some (.int .i64 ac) ∧ w'.cell? ⟨B, 4, none⟩ = some (.int .i64 an) ∧ w'.cell? ⟨B, 5, none⟩ = some (.int .i64 ao) ∧ w'.cell? ⟨B, 6, none⟩ = some (.int .i64 ar) ∧ w'.cell? ⟨B, 7, none⟩ = some (.int .i64 ami) ∧ w'.frozen? ⟨B, 0, none⟩ = false ∧ w'.frozen? ⟨B, 1, none⟩ = false ∧ w'.frozen? ⟨B, 2, none⟩ = false ∧ w'.frozen? ⟨B, 3, none⟩ = false ∧ w'.frozen? ⟨B, 4, none⟩ = false ∧ w'.frozen? ⟨B, 5, none⟩ = false ∧ w'.frozen? ⟨B, 6, none⟩ = false ∧ w'.frozen? ⟨B, 7, none⟩ = false))
  refine wp_region_lex 13 (by kernel_rfl) (by kernel_rfl) (fun _ _ _ _ _ h => h) ?_
  simp only [List.take_succ_cons, List.take_zero, List.drop_succ_cons, List.drop_zero]
  repeat first | (refine seq_take ?_ (by rfl) (fun wk k1 => ?_) ?_; rotate_left; (have hcc := HCC.out wk k1; go_simp; first | exact OkX.val | ((with_reducible refine OkX.eqv (OkX.same (Hy0.out wk)) ?_); exact rfl) | ((with_reducible refine OkX.eqv (OkX.same (Hy1.out wk)) ?_); exact rfl) | ((with_reducible refine OkX.eqv (OkX.same (Hy4.out wk)) ?_); exact rfl) | ((with_reducible refine OkX.eqv (OkX.same (Hy7.out wk)) ?_); exact rfl)); simp only [Act.put, List.setIfInBounds_toArray, List.set_cons_zero, List.set_cons_succ]) | (refine seq_skip (by rfl) ?_; simp only [Act.put, List.setIfInBounds_toArray, List.set_cons_zero, List.set_cons_succ])
  refine seq_nil (fun wk k1 => ?_)
  obtain ⟨c0, c1, c2, c3, c4, c5, c6, c7, f0, f1, f2, f3, f4, f5, f6, f7⟩ := HCC.out wk k1
  have HK1 := Lib.hid k1
  clear HCC k1
  go_upto_region 2 with fail
  refine at_world (fun W1 hW1 => ?_)
  have HBA1 := Lib.hid (show W1.heap[B]? = some (.cells #[.int .i64 y0, .int .i64 y1, .int .i64 am, .int .i64 ac, .int .i64 y4, .int .i64 ao, .int .i64 ar, .int .i64 y7] 25 (0, 0)) by rw [hW1, bset (bset (bset (bset (ext_blk HK1.out HBA.out) 0 _) 1 _) 4 _) 7 _]; rfl)
  have HZA1 := Lib.hid (show W1.heap[B + 1]? = some (.cells #[.int .i64 0, .int .i64 0, .int .i64 0, .int .i64 0, .int .i64 0, .int .i64 0, .int .i64 0, .int .i64 0] 25 (0, 0)) by rw [hW1]; exact blk_other (blk_other (blk_other (blk_other (ext_blk HK1.out HZA.out) (by omega) _) (by omega) _) (by omega) _) (by omega) _)
  have X1 := Lib.hid (show Ext w W1 by rw [hW1]; have := HBB.out; exact ext_set (ext_set (ext_set (ext_set (X0.out.trans HK1.out) (by omega) _) (by omega) _) (by omega) _) (by omega) _)
  clear hW1 HK1 HBA HZA X0 HB0 c0 c1 c2 c3 c4 c5 c6 c7 f0 f1 f2 f3 f4 f5 f6 f7
  have HCC := Lib.hid (fun (w' : World) (h : Ext W1 w') => (⟨h.cell (bcel HBA1.out 0 (.int .i64 y0) rfl), h.cell (bcel HBA1.out 1 (.int .i64 y1) rfl), h.cell (bcel HBA1.out 2 (.int .i64 am) rfl), h.cell (bcel HBA1.out 3 (.int .i64 ac) rfl), h.cell (bcel HBA1.out 4 (.int .i64 y4) rfl), h.cell (bcel HBA1.out 5 (.int .i64 ao) rfl), h.cell (bcel HBA1.out 6 (.int .i64 ar) rfl), h.cell (bcel HBA1.out 7 (.int .i64 y7) rfl), bfre (ext_blk h HBA1.out) 0, bfre (ext_blk h HBA1.out) 1, bfre (ext_blk h HBA1.out) 2, bfre (ext_blk h HBA1.out) 3, bfre (ext_blk h HBA1.out) 4, bfre (ext_blk h HBA1.out) 5, bfre (ext_blk h HBA1.out) 6, bfre (ext_blk h HBA1.out) 7⟩ : w'.cell? ⟨B, 0, none⟩ = some (.int .i64 y0) ∧ w'.cell? ⟨B, 1, none⟩ = some (.int .i64 y1) ∧ w'.cell? ⟨B, 2, none⟩ = some (.int .i64 am) ∧ w'.cell? ⟨B, 3, none⟩ = some (.int .i64 ac) ∧ w'.cell? ⟨B, 4, none⟩ = some (.int .i64 y4) ∧ w'.cell? ⟨B, 5, none⟩ = some (.int .i64 ao) ∧ w'.cell? ⟨B, 6, none⟩ = some (.int .i64 ar) ∧ w'.cell? ⟨B, 7, none⟩ = some (.int .i64 y7) ∧ w'.frozen? ⟨B, 0, none⟩ = false ∧ w'.frozen? ⟨B, 1, none⟩ = false ∧ w'.frozen? ⟨B, 2, none⟩ = false ∧ w'.frozen? ⟨B, 3, none⟩ = false ∧ w'.frozen? ⟨B, 4, none⟩ = false ∧ w'.frozen? ⟨B, 5, none⟩ = false ∧ w'.frozen? ⟨B, 6, none⟩ = false ∧ w'.frozen? ⟨B, 7, none⟩ = false))
  refine wp_region_lex 11 (by kernel_rfl) (by kernel_rfl) (fun _ _ _ _ _ h => h) ?_
  simp only [List.take_succ_cons, List.take_zero, List.drop_succ_cons, List.drop_zero]
  repeat first | (refine seq_take ?_ (by rfl) (fun wk k1 => ?_) ?_; rotate_left; (have hcc := HCC.out wk k1; go_simp; first | exact OkX.val | ((with_reducible refine OkX.eqv (OkX.same (Hy2.out wk)) ?_); exact rfl) | ((with_reducible refine OkX.eqv (OkX.same (Hy3.out wk)) ?_); exact rfl)); simp only [Act.put, List.setIfInBounds_toArray, List.set_cons_zero, List.set_cons_succ]) | (refine seq_skip (by rfl) ?_; simp only [Act.put, List.setIfInBounds_toArray, List.set_cons_zero, List.set_cons_succ])
  refine seq_nil (fun wk k1 => ?_)
  obtain ⟨c0, c1, c2, c3, c4, c5, c6, c7, f0, f1, f2, f3, f4, f5, f6, f7⟩ := HCC.out wk k1
  have HK2 := Lib.hid k1
  clear HCC k1
  go_upto_region 3 with fail
  refine at_world (fun W2 hW2 => ?_)
  have HBA2 := Lib.hid (show W2.heap[B]? = some (.cells #[.int .i64 y0, .int .i64 y1, .int .i64 (1 + y2), .int .i64 (1 + y3), .int .i64 y4, .int .i64 ao, .int .i64 ar, .int .i64 y7] 25 (0, 0)) by rw [hW2, bset (bset (ext_blk HK2.out HBA1.out) 2 _) 3 _]; rfl)
  have HZA2 := Lib.hid (show W2.heap[B + 1]? = some (.cells #[.int .i64 0, .int .i64 0, .int .i64 0, .int .i64 0, .int .i64 0, .int .i64 0, .int .i64 0, .int .i64 0] 25 (0, 0)) by rw [hW2]; exact blk_other (blk_other (ext_blk HK2.out HZA1.out) (by omega) _) (by omega) _)
  have X2 := Lib.hid (show Ext w W2 by rw [hW2]; have := HBB.out; exact ext_set (ext_set (X1.out.trans HK2.out) (by omega) _) (by omega) _)
  clear hW2 HK2 HBA1 HZA1 X1 c0 c1 c2 c3 c4 c5 c6 c7 f0 f1 f2 f3 f4 f5 f6 f7
  refine wp_region_tree (FootL (fun b => b = B)) (FootL_way _) (.free 0 (.free 4 (.two 1 5 (.free 2 (.free 3 (.step 5 (.free 6 (.free 7 (.free 8 (.step 9 (.free 10 (.step 11 .done))))))))) (.step 1 (.free 2 (.free 3 (.free 6 (.free 7 (.free 8 (.step 9 (.free 10 (.step 11 .done)))))))))))) (by kernel_rfl) (by kernel_rfl) (fun _ _ _ _ _ h => h) ?_
  repeat first | ((with_reducible refine tree_free ?_ ?_ ?_ ?_ (fun wk k1 => ?_) ?_); rotate_left 2; (rfl); (first | exact want_none rfl | exact want_some rfl rfl rfl rfl); (go_simp; first | exact OkX.val); simp only [Act.put, List.setIfInBounds_toArray, List.set_cons_zero, List.set_cons_succ]) | ((with_reducible refine tree_skip ?_ ?_ ?_ ?_); rotate_left; (rfl); (exact want_not rfl rfl rfl rfl rfl); simp only [Act.put, List.setIfInBounds_toArray, List.set_cons_zero, List.set_cons_succ])
  ((with_reducible refine tree_two ?_ ?_ ?_ ?_ ?_ ?_ (fun wk k1 => ?_) (fun wk k1 => ?_)); rotate_left 2; (rfl); (first | exact want_none rfl | exact want_some rfl rfl rfl rfl); (rfl); (first | exact want_none rfl | exact want_some rfl rfl rfl rfl))
  case' refine_6.refine_6.refine_7 =>

    have E1 := Lib.hid ((Ext.drew _).trans k1)
    have z := bcel (ext_blk E1.out HBA2.out) 6 (.int .i64 ar) rfl
    clear k1
    go_simp
    refine ⟨(FootL_way _).ext (Ext.refl _), ?_⟩
    try simp only [Act.put, List.setIfInBounds_toArray, List.set_cons_zero, List.set_cons_succ]
    clear z
    repeat first | ((with_reducible refine tree_free ?_ ?_ ?_ ?_ (fun wk k1 => ?_) ?_); rotate_left 2; (rfl); (first | exact want_none rfl | exact want_some rfl rfl rfl rfl); (go_simp; first | exact OkX.val | ((with_reducible refine OkX.eqv (OkX.same (Hy6.out _)) ?_); exact rfl)); simp only [Act.put, List.setIfInBounds_toArray, List.set_cons_zero, List.set_cons_succ]) | ((with_reducible refine tree_skip ?_ ?_ ?_ ?_); rotate_left; (rfl); (exact want_not rfl rfl rfl rfl rfl); simp only [Act.put, List.setIfInBounds_toArray, List.set_cons_zero, List.set_cons_succ])
    ((with_reducible refine tree_step ?_ ?_ ?_ (fun wk k1 => ?_)); rotate_left; (rfl); (first | exact want_none rfl | exact want_some rfl rfl rfl rfl))
    have E2 := Lib.hid (E1.out.trans k1)
    have z := bcel (ext_blk E2.out HBA2.out) 5 (.int .i64 ao) rfl
    clear k1
    go_simp
    refine ⟨(FootL_way _).ext (Ext.refl _), ?_⟩
    try simp only [Act.put, List.setIfInBounds_toArray, List.set_cons_zero, List.set_cons_succ]
    clear z
    repeat first | ((with_reducible refine tree_free ?_ ?_ ?_ ?_ (fun wk k1 => ?_) ?_); rotate_left 2; (rfl); (first | exact want_none rfl | exact want_some rfl rfl rfl rfl); (go_simp; first | exact OkX.val | ((with_reducible refine OkX.eqv (OkX.same (Hy5.out _)) ?_); exact rfl)); simp only [Act.put, List.setIfInBounds_toArray, List.set_cons_zero, List.set_cons_succ]) | ((with_reducible refine tree_skip ?_ ?_ ?_ ?_); rotate_left; (rfl); (exact want_not rfl rfl rfl rfl rfl); simp only [Act.put, List.setIfInBounds_toArray, List.set_cons_zero, List.set_cons_succ])
    ((with_reducible refine tree_step ?_ ?_ ?_ (fun wk k1 => ?_)); rotate_left; (rfl); (first | exact want_none rfl | exact want_some rfl rfl rfl rfl))
    have E3 := Lib.hid (E2.out.trans k1)
    have z := bcel (ext_blk E3.out HBA2.out) 6 (.int .i64 ar) rfl
    have f := bfre (ext_blk E3.out HBA2.out) 6
    have HBA4 := Lib.hid (show (wk.setCell ⟨B, 6, none⟩ (.int .i64 (y6 - 1))).heap[B]? = some (.cells #[.int .i64 y0, .int .i64 y1, .int .i64 (1 + y2), .int .i64 (1 + y3), .int .i64 y4, .int .i64 ao, .int .i64 (y6 - 1), .int .i64 y7] 25 (0, 0)) by rw [bset (ext_blk E3.out HBA2.out)]; rfl)
    have HZA4 := Lib.hid (blk_other (i := 6) (ext_blk E3.out HZA2.out) (show B + 1 ≠ B by omega) (.int .i64 (y6 - 1)))
    have X4 := Lib.hid (ext_set (o := 6) (X2.out.trans E3.out) (show w.heap.size ≤ B by have := HBB.out; omega) (.int .i64 (y6 - 1)))
    clear k1
    go_simp
    refine ⟨FootL.setCell (fun b => b = B) wk B 6 _ rfl, ?_⟩
    clear z f
    generalize wk.setCell ⟨B, 6, none⟩ (.int .i64 (y6 - 1)) = W4 at HBA4 HZA4 X4 ⊢
    try simp only [Act.put, List.setIfInBounds_toArray, List.set_cons_zero, List.set_cons_succ]
    repeat first | ((with_reducible refine tree_free ?_ ?_ ?_ ?_ (fun wk k1 => ?_) ?_); rotate_left 2; (rfl); (first | exact want_none rfl | exact want_some rfl rfl rfl rfl); (go_simp; first | exact OkX.val); simp only [Act.put, List.setIfInBounds_toArray, List.set_cons_zero, List.set_cons_succ]) | ((with_reducible refine tree_skip ?_ ?_ ?_ ?_); rotate_left; (rfl); (exact want_not rfl rfl rfl rfl rfl); simp only [Act.put, List.setIfInBounds_toArray, List.set_cons_zero, List.set_cons_succ])
    ((with_reducible refine tree_step ?_ ?_ ?_ (fun wk k1 => ?_)); rotate_left; (rfl); (first | exact want_none rfl | exact want_some rfl rfl rfl rfl))
    have z := bcel (ext_blk k1 HBA4.out) 5 (.int .i64 ao) rfl
    have f := bfre (ext_blk k1 HBA4.out) 5
    have HBA5 := Lib.hid (show (wk.setCell ⟨B, 5, none⟩ (.int .i64 (y5 - 1))).heap[B]? = some (.cells #[.int .i64 y0, .int .i64 y1, .int .i64 (1 + y2), .int .i64 (1 + y3), .int .i64 y4, .int .i64 (y5 - 1), .int .i64 (y6 - 1), .int .i64 y7] 25 (0, 0)) by rw [bset (ext_blk k1 HBA4.out)]; rfl)
    have HZA5 := Lib.hid (blk_other (i := 5) (ext_blk k1 HZA4.out) (show B + 1 ≠ B by omega) (.int .i64 (y5 - 1)))
    have X5 := Lib.hid (ext_set (o := 5) (X4.out.trans k1) (show w.heap.size ≤ B by have := HBB.out; omega) (.int .i64 (y5 - 1)))
    clear k1
    go_simp
    refine ⟨FootL.setCell (fun b => b = B) wk B 5 _ rfl, ?_⟩
    clear z f
    generalize wk.setCell ⟨B, 5, none⟩ (.int .i64 (y5 - 1)) = W5 at HBA5 HZA5 X5 ⊢
    try simp only [Act.put, List.setIfInBounds_toArray, List.set_cons_zero, List.set_cons_succ]
    refine tree_done (fun W9 k9 => ?_)
    have HBA3 := Lib.hid (ext_blk k9 HBA5.out)
    have HZA3 := Lib.hid (ext_blk k9 HZA5.out)
    have X3 := Lib.hid (X5.out.trans k9)
    clear k9 HBA4 HZA4 X4 HBA5 HZA5 X5
  case' refine_6.refine_6.refine_8 =>

    have E1 := Lib.hid ((Ext.drew _).trans k1)
    have z := bcel (ext_blk E1.out HBA2.out) 5 (.int .i64 ao) rfl
    clear k1
    go_simp
    refine ⟨(FootL_way _).ext (Ext.refl _), ?_⟩
    try simp only [Act.put, List.setIfInBounds_toArray, List.set_cons_zero, List.set_cons_succ]
    clear z
    ((with_reducible refine tree_step ?_ ?_ ?_ (fun wk k1 => ?_)); rotate_left; (rfl); (first | exact want_none rfl | exact want_some rfl rfl rfl rfl))
    have E2 := Lib.hid (E1.out.trans k1)
    have z := bcel (ext_blk E2.out HBA2.out) 6 (.int .i64 ar) rfl
    clear k1
    go_simp
    refine ⟨(FootL_way _).ext (Ext.refl _), ?_⟩
    try simp only [Act.put, List.setIfInBounds_toArray, List.set_cons_zero, List.set_cons_succ]
    clear z
    repeat first | ((with_reducible refine tree_free ?_ ?_ ?_ ?_ (fun wk k1 => ?_) ?_); rotate_left 2; (rfl); (first | exact want_none rfl | exact want_some rfl rfl rfl rfl); (go_simp; first | exact OkX.val | ((with_reducible refine OkX.eqv (OkX.same (Hy6.out _)) ?_); exact rfl)); simp only [Act.put, List.setIfInBounds_toArray, List.set_cons_zero, List.set_cons_succ]) | ((with_reducible refine tree_skip ?_ ?_ ?_ ?_); rotate_left; (rfl); (exact want_not rfl rfl rfl rfl rfl); simp only [Act.put, List.setIfInBounds_toArray, List.set_cons_zero, List.set_cons_succ])
    repeat first | ((with_reducible refine tree_free ?_ ?_ ?_ ?_ (fun wk k1 => ?_) ?_); rotate_left 2; (rfl); (first | exact want_none rfl | exact want_some rfl rfl rfl rfl); (go_simp; first | exact OkX.val | ((with_reducible refine OkX.eqv (OkX.same (Hy5.out _)) ?_); exact rfl)); simp only [Act.put, List.setIfInBounds_toArray, List.set_cons_zero, List.set_cons_succ]) | ((with_reducible refine tree_skip ?_ ?_ ?_ ?_); rotate_left; (rfl); (exact want_not rfl rfl rfl rfl rfl); simp only [Act.put, List.setIfInBounds_toArray, List.set_cons_zero, List.set_cons_succ])
    ((with_reducible refine tree_step ?_ ?_ ?_ (fun wk k1 => ?_)); rotate_left; (rfl); (first | exact want_none rfl | exact want_some rfl rfl rfl rfl))
    have E3 := Lib.hid (E2.out.trans k1)
    have z := bcel (ext_blk E3.out HBA2.out) 6 (.int .i64 ar) rfl
    have f := bfre (ext_blk E3.out HBA2.out) 6
    have HBA4 := Lib.hid (show (wk.setCell ⟨B, 6, none⟩ (.int .i64 (y6 - 1))).heap[B]? = some (.cells #[.int .i64 y0, .int .i64 y1, .int .i64 (1 + y2), .int .i64 (1 + y3), .int .i64 y4, .int .i64 ao, .int .i64 (y6 - 1), .int .i64 y7] 25 (0, 0)) by rw [bset (ext_blk E3.out HBA2.out)]; rfl)
    have HZA4 := Lib.hid (blk_other (i := 6) (ext_blk E3.out HZA2.out) (show B + 1 ≠ B by omega) (.int .i64 (y6 - 1)))
    have X4 := Lib.hid (ext_set (o := 6) (X2.out.trans E3.out) (show w.heap.size ≤ B by have := HBB.out; omega) (.int .i64 (y6 - 1)))
    clear k1
    go_simp
    refine ⟨FootL.setCell (fun b => b = B) wk B 6 _ rfl, ?_⟩
    clear z f
    generalize wk.setCell ⟨B, 6, none⟩ (.int .i64 (y6 - 1)) = W4 at HBA4 HZA4 X4 ⊢
    try simp only [Act.put, List.setIfInBounds_toArray, List.set_cons_zero, List.set_cons_succ]
    repeat first | ((with_reducible refine tree_free ?_ ?_ ?_ ?_ (fun wk k1 => ?_) ?_); rotate_left 2; (rfl); (first | exact want_none rfl | exact want_some rfl rfl rfl rfl); (go_simp; first | exact OkX.val); simp only [Act.put, List.setIfInBounds_toArray, List.set_cons_zero, List.set_cons_succ]) | ((with_reducible refine tree_skip ?_ ?_ ?_ ?_); rotate_left; (rfl); (exact want_not rfl rfl rfl rfl rfl); simp only [Act.put, List.setIfInBounds_toArray, List.set_cons_zero, List.set_cons_succ])
    ((with_reducible refine tree_step ?_ ?_ ?_ (fun wk k1 => ?_)); rotate_left; (rfl); (first | exact want_none rfl | exact want_some rfl rfl rfl rfl))
    have z := bcel (ext_blk k1 HBA4.out) 5 (.int .i64 ao) rfl
    have f := bfre (ext_blk k1 HBA4.out) 5
    have HBA5 := Lib.hid (show (wk.setCell ⟨B, 5, none⟩ (.int .i64 (y5 - 1))).heap[B]? = some (.cells #[.int .i64 y0, .int .i64 y1, .int .i64 (1 + y2), .int .i64 (1 + y3), .int .i64 y4, .int .i64 (y5 - 1), .int .i64 (y6 - 1), .int .i64 y7] 25 (0, 0)) by rw [bset (ext_blk k1 HBA4.out)]; rfl)
    have HZA5 := Lib.hid (blk_other (i := 5) (ext_blk k1 HZA4.out) (show B + 1 ≠ B by omega) (.int .i64 (y5 - 1)))
    have X5 := Lib.hid (ext_set (o := 5) (X4.out.trans k1) (show w.heap.size ≤ B by have := HBB.out; omega) (.int .i64 (y5 - 1)))
    clear k1
    go_simp
    refine ⟨FootL.setCell (fun b => b = B) wk B 5 _ rfl, ?_⟩
    clear z f
    generalize wk.setCell ⟨B, 5, none⟩ (.int .i64 (y5 - 1)) = W5 at HBA5 HZA5 X5 ⊢
    try simp only [Act.put, List.setIfInBounds_toArray, List.set_cons_zero, List.set_cons_succ]
    refine tree_done (fun W9 k9 => ?_)
    have HBA3 := Lib.hid (ext_blk k9 HBA5.out)
    have HZA3 := Lib.hid (ext_blk k9 HZA5.out)
    have X3 := Lib.hid (X5.out.trans k9)
    clear k9 HBA4 HZA4 X4 HBA5 HZA5 X5
  all_goals
   clear HBA2 HZA2 X2
   have c0 := bcel HBA3.out 0 (.int .i64 y0) rfl
   have c1 := bcel HBA3.out 1 (.int .i64 y1) rfl
   have c2 := bcel HBA3.out 2 (.int .i64 (1 + y2)) rfl
   have c3 := bcel HBA3.out 3 (.int .i64 (1 + y3)) rfl
   have c4 := bcel HBA3.out 4 (.int .i64 y4) rfl
   have c5 := bcel HBA3.out 5 (.int .i64 (y5 - 1)) rfl
   have c6 := bcel HBA3.out 6 (.int .i64 (y6 - 1)) rfl
   have c7 := bcel HBA3.out 7 (.int .i64 y7) rfl
   have f := fun j => bfre HBA3.out j
   have z := fun j => bfre HZA3.out j
   have z0 := bcel HZA3.out 0 (.int .i64 0) rfl
   have z1 := bcel HZA3.out 1 (.int .i64 0) rfl
   have z2 := bcel HZA3.out 2 (.int .i64 0) rfl
   have z3 := bcel HZA3.out 3 (.int .i64 0) rfl
   have z4 := bcel HZA3.out 4 (.int .i64 0) rfl
   have z5 := bcel HZA3.out 5 (.int .i64 0) rfl
   have z6 := bcel HZA3.out 6 (.int .i64 0) rfl
   have z7 := bcel HZA3.out 7 (.int .i64 0) rfl
   by_cases h : y6 - 1 < 0
   · have t : decide (y6 - 1 < 0) = true := by simpa using h
     obtain rfl : nd = -1 := HND.out.trans (if_pos h)
     clear h
     go_wp2
     refine at_worldB (fun W9 hW9 => ?_)
     have hb : W9.heap[B + 1]? = some (.cells #[.int .i64 y0, .int .i64 y1, .int .i64 (1 + y2), .int .i64 (1 + y3), .int .i64 y4, .int .i64 (-1), .int .i64 (y6 - 1), .int .i64 y7] 25 (0, 0)) := by
       rw [hW9, bset (bset (bset (bset (bset (bset (bset (bset (blk_other HZA3.out (by omega) _) 0 _) 1 _) 2 _) 3 _) 4 _) 5 _) 6 _) 7 _]
       rfl
     have g0 := bcel hb 0 (.int .i64 y0) rfl
     have g1 := bcel hb 1 (.int .i64 y1) rfl
     have g2 := bcel hb 2 (.int .i64 (1 + y2)) rfl
     have g3 := bcel hb 3 (.int .i64 (1 + y3)) rfl
     have g4 := bcel hb 4 (.int .i64 y4) rfl
     have g5 := bcel hb 5 (.int .i64 (-1)) rfl
     have g6 := bcel hb 6 (.int .i64 (y6 - 1)) rfl
     have g7 := bcel hb 7 (.int .i64 y7) rfl
     refine bodyPost_ret (by simp [results, Try.results13, go_sem, g0, g1, g2, g3, g4, g5, g6, g7]; try rfl) rfl ?_
     refine ⟨rfl, ?_⟩
     rw [hW9]
     have := HBB.out
     exact ext_set (ext_set (ext_set (ext_set (ext_set (ext_set (ext_set (ext_set (ext_set X3.out (by omega) _) (by omega) _) (by omega) _) (by omega) _) (by omega) _) (by omega) _) (by omega) _) (by omega) _) (by omega) _
   · have t : decide (y6 - 1 < 0) = false := by simpa using h
     have HI := Lib.hid (show nd = y5 - 1 from HND.out.trans (if_neg h))
     clear h
     go_wp2
     refine at_worldB (fun W9 hW9 => ?_)
     have hb : W9.heap[B + 1]? = some (.cells #[.int .i64 y0, .int .i64 y1, .int .i64 (1 + y2), .int .i64 (1 + y3), .int .i64 y4, .int .i64 (y5 - 1), .int .i64 (y6 - 1), .int .i64 y7] 25 (0, 0)) := by
       rw [hW9, bset (bset (bset (bset (bset (bset (bset (bset HZA3.out 0 _) 1 _) 2 _) 3 _) 4 _) 5 _) 6 _) 7 _]
       rfl
     have g0 := bcel hb 0 (.int .i64 y0) rfl
     have g1 := bcel hb 1 (.int .i64 y1) rfl
     have g2 := bcel hb 2 (.int .i64 (1 + y2)) rfl
     have g3 := bcel hb 3 (.int .i64 (1 + y3)) rfl
     have g4 := bcel hb 4 (.int .i64 y4) rfl
     have g5 := bcel hb 5 (.int .i64 (y5 - 1)) rfl
     have g6 := bcel hb 6 (.int .i64 (y6 - 1)) rfl
     have g7 := bcel hb 7 (.int .i64 y7) rfl
     refine bodyPost_ret (by simp [results, Try.results13, go_sem, g0, g1, g2, g3, g4, g5, g6, g7]; try rfl) rfl ?_
     refine ⟨by rw [HI.out], ?_⟩
     rw [hW9]
     have := HBB.out
     exact ext_set (ext_set (ext_set (ext_set (ext_set (ext_set (ext_set (ext_set (X3.out) (by omega) _) (by omega) _) (by omega) _) (by omega) _) (by omega) _) (by omega) _) (by omega) _) (by omega) _

set_option maxRecDepth 100000 in
set_option maxHeartbeats 1600000 in
theorem known9_any (w : World) : Calls Try.prog 9 #[] w fun e w' => e = .returned (.bool true) ∧ Ext w w' := by
  have HS := Lib.hid (Set_any [] (.slice none 0 0) ⟨3, 0, 0, 0, 0, 0, 0, 0⟩ w (Hd.nil w) (by simp) List.Pairwise.nil)
  have HE := Lib.hid (show setE [] ⟨3, 0, 0, 0, 0, 0, 0, 0⟩ = 0 ∧ setL [] ⟨3, 0, 0, 0, 0, 0, 0, 0⟩ = [] by decide)
  rw [HE.out.1, HE.out.2] at HS
  have HC := Lib.hid (fun W => Check_any9 ⟨0, 0, 0, 0, 0, 0, 0, 0⟩ 1 W)
  have HE2 := Lib.hid (show chkA ⟨0, 0, 0, 0, 0, 0, 0, 0⟩ 1 = 1 by decide)
  rw [HE2.out] at HC
  simp only [askV] at HS HC
  go_enter Try.func9, Try.ntmps9
  go_wp2_with fail
  (with_reducible refine (HS.out).mono ?_)
  rintro e w1 ⟨v, rfl, ho, hx⟩
  obtain ⟨A, c, rfl, _, _⟩ := own_shape ho
  have X1 := Lib.hid hx
  clear ho hx
  go_wp2_with fail
  (with_reducible refine (HC.out _).mono ?_)
  rintro e w2 ⟨rfl, hx⟩
  have X2 := Lib.hid (X1.out.trans hx)
  clear hx
  go_wp2
  go_ret
  exact ⟨rfl, X2.out⟩
end Go.Proofs.Ytbocpkdnlpobkaa
