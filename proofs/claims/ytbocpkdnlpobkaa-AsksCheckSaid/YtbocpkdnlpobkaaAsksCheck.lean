/- The law AsksCheck holds at every input: any ask is checked as the document says; such as may be, with one thing turned, too. No condition. -/
import Derived.Test.YtbocpkdnlpobkaaAkG
import Derived.Test.YtbocpkdnlpobkaaAkO
import Derived.ChangeSlices
import Derived.OpenShut
import Derived.ChangeOld
import Derived.ChangeSame
import Derived.ChangeMaps
import Derived.JoinedOf
import Derived.JoinedAt
import Derived.RowKit3
import Derived.Lib.SmallJoins
namespace Go.Proofs.Ytbocpkdnlpobkaa.AsksCheck
open Go.ChangeShapes Go.WideShapes Go.ChangeAt Go.RowKit Go.Joins

theorem good_ok (a : AD) : chkA (goodA a) 2 = 0 := by
  have b1 : bndA (goodA a) = true := by unfold bndA inA goodA; simp; omega
  have b2 : labA (goodA a) 2 = true := by unfold labA goodA; simp; omega
  have b3 : plcA (goodA a) = true := by unfold plcA inA goodA; simp only; split <;> simp <;> omega
  have b4 : inA (goodA a).count 0 50 = true := by unfold inA goodA; simp; omega
  unfold chkA
  rw [b1, b2, b3, b4]
  rfl

set_option maxRecDepth 100000 in
set_option maxHeartbeats 12800000 in
theorem walk (w : World) (a : AD) (labels : Int) (_ : (Lit.int .i64 labels).wf = true) (which : Int) (_ : (Lit.int .i64 which).wf = true) (n : Int) (_ : (Lit.int .i64 n).wf = true) :
    Calls Try.prog 3 #[askV a, .int .i64 labels, .int .i64 which, .int .i64 n] w fun e w' => e = .returned (.bool true) ∧ Below w.heap.size w w' := by
  have HG := Lib.hid (fun W => good_any a W)
  have HG0 := Lib.hid (good_ok a)
  obtain ⟨y, hy⟩ : ∃ y, y = labels % 20 := ⟨_, rfl⟩
  have HY := Lib.hid (fun W => within9_any labels 20 W ⟨by omega, by omega⟩)
  rw [← hy] at HY
  have HC1 := Lib.hid (fun W => Check_any9 a y W)
  have HC2 := Lib.hid (fun W => rCheck_any9 a y W)
  obtain ⟨z, hz⟩ : ∃ z, z = chkA a y := ⟨_, rfl⟩
  rw [← hz] at HC1 HC2
  obtain ⟨g, hg⟩ : ∃ g, g = goodA a := ⟨_, rfl⟩
  rw [← hg] at HG HG0
  have HH := Lib.hid (fun W => within9_some which 7 7 W rfl ⟨by omega, by omega⟩)
  clear hy hz hg
  obtain ⟨ap, al, am, ac, an, ao, ar, ami⟩ := a
  obtain ⟨g0, g1, g2, g3, g4, g5, g6, g7⟩ := g
  have HC3 := Lib.hid (fun W => Check_any9 ⟨g0, g1, g2, g3, g4, g5, g6, g7⟩ 2 W)
  rw [HG0.out] at HC3
  have tz : (z != z) = false := by simp
  have tz2 : (z == z) = true := by simp
  simp only [askV] at HG HC1 HC2 HC3 ⊢
  go_enter Try.func3, Try.ntmps3
  go_wp2_with fail
  (with_reducible refine (known9_any _).mono ?_)
  rintro e w1 ⟨rfl, hx1⟩
  have X1 := Lib.hid ((ext_alloc w (.cells #[.int .i64 ap, .int .i64 al, .int .i64 am, .int .i64 ac, .int .i64 an, .int .i64 ao, .int .i64 ar, .int .i64 ami] 25)).trans hx1)
  have HB1 := Lib.hid (ext_blk hx1 (heap_alloc_new w (.cells #[.int .i64 ap, .int .i64 al, .int .i64 am, .int .i64 ac, .int .i64 an, .int .i64 ao, .int .i64 ar, .int .i64 ami] 25)))
  obtain ⟨B, hB⟩ : ∃ B, B = w.heap.size := ⟨_, rfl⟩
  have HBB := Lib.hid hB
  rw [← hB] at HB1 ⊢
  clear hx1 hB
  go_wp2_with fail
  (with_reducible refine (HY.out _).mono ?_)
  rintro e w2 ⟨rfl, rfl⟩
  go_wp2_with fail
  have HCC := Lib.hid (fun (w' : World) (h : Ext w1 w') => (⟨h.cell (bcel HB1.out 0 (.int .i64 ap) rfl), h.cell (bcel HB1.out 1 (.int .i64 al) rfl), h.cell (bcel HB1.out 2 (.int .i64 am) rfl), h.cell (bcel HB1.out 3 (.int .i64 ac) rfl), h.cell (bcel HB1.out 4 (.int .i64 an) rfl), h.cell (bcel HB1.out 5 (.int .i64 ao) rfl), h.cell (bcel HB1.out 6 (.int .i64 ar) rfl), h.cell (bcel HB1.out 7 (.int .i64 ami) rfl)⟩ : w'.cell? ⟨B, 0, none⟩ = some (.int .i64 ap) ∧ w'.cell? ⟨B, 1, none⟩ = some (.int .i64 al) ∧ w'.cell? ⟨B, 2, none⟩ = some (.int .i64 am) ∧ w'.cell? ⟨B, 3, none⟩ = some (.int .i64 ac) ∧ w'.cell? ⟨B, 4, none⟩ = some (.int .i64 an) ∧ w'.cell? ⟨B, 5, none⟩ = some (.int .i64 ao) ∧ w'.cell? ⟨B, 6, none⟩ = some (.int .i64 ar) ∧ w'.cell? ⟨B, 7, none⟩ = some (.int .i64 ami)))
  refine wp_region_lex 7 (by kernel_rfl) (by kernel_rfl) (fun _ _ _ _ _ h => h) ?_
  simp only [List.take_succ_cons, List.take_zero, List.drop_succ_cons, List.drop_zero]
  repeat first | (refine seq_take ?_ (by rfl) (fun wk k1 => ?_) ?_; rotate_left; (have hcc := HCC.out wk k1; go_simp; first | exact OkX.val | ((with_reducible refine OkX.eqv (OkX.call (HC1.out wk)) ?_); exact rfl) | ((with_reducible refine OkX.eqv (OkX.call (HC2.out wk)) ?_); exact rfl)); simp only [Act.put, List.setIfInBounds_toArray, List.set_cons_zero, List.set_cons_succ]) | (refine seq_skip (by rfl) ?_; simp only [Act.put, List.setIfInBounds_toArray, List.set_cons_zero, List.set_cons_succ])
  refine seq_nil (fun wk k1 => ?_)
  have X2 := Lib.hid (X1.out.trans k1)
  have HB2 := Lib.hid (ext_blk k1 HB1.out)
  clear HCC k1
  have c0 := bcel HB2.out 0 (.int .i64 ap) rfl
  have c1 := bcel HB2.out 1 (.int .i64 al) rfl
  have c2 := bcel HB2.out 2 (.int .i64 am) rfl
  have c3 := bcel HB2.out 3 (.int .i64 ac) rfl
  have c4 := bcel HB2.out 4 (.int .i64 an) rfl
  have c5 := bcel HB2.out 5 (.int .i64 ao) rfl
  have c6 := bcel HB2.out 6 (.int .i64 ar) rfl
  have c7 := bcel HB2.out 7 (.int .i64 ami) rfl
  go_wp2_with fail
  (with_reducible refine (HG.out _).mono ?_)
  rintro e w3 ⟨rfl, hx3⟩
  have X3 := Lib.hid (X2.out.trans hx3)
  have HB3 := Lib.hid (ext_blk hx3 HB2.out)
  clear hx3 c0 c1 c2 c3 c4 c5 c6 c7
  have c0 := bcel HB3.out 0 (.int .i64 ap) rfl
  have c1 := bcel HB3.out 1 (.int .i64 al) rfl
  have c2 := bcel HB3.out 2 (.int .i64 am) rfl
  have c3 := bcel HB3.out 3 (.int .i64 ac) rfl
  have c4 := bcel HB3.out 4 (.int .i64 an) rfl
  have c5 := bcel HB3.out 5 (.int .i64 ao) rfl
  have c6 := bcel HB3.out 6 (.int .i64 ar) rfl
  have c7 := bcel HB3.out 7 (.int .i64 ami) rfl
  have f := fun j => bfre HB3.out j
  go_upto_region 7 with fail
  refine at_world (fun W4 hW4 => ?_)
  have HB4 := Lib.hid (show W4.heap[B]? = some (.cells #[.int .i64 g0, .int .i64 g1, .int .i64 g2, .int .i64 g3, .int .i64 g4, .int .i64 g5, .int .i64 g6, .int .i64 g7] 25 (0, 0)) by rw [hW4, bset (bset (bset (bset (bset (bset (bset (bset HB3.out 0 _) 1 _) 2 _) 3 _) 4 _) 5 _) 6 _) 7 _]; rfl)
  have X4 := Lib.hid (show Ext w W4 by rw [hW4]; have := HBB.out; exact ext_set (ext_set (ext_set (ext_set (ext_set (ext_set (ext_set (ext_set (X3.out) (by omega) _) (by omega) _) (by omega) _) (by omega) _) (by omega) _) (by omega) _) (by omega) _) (by omega) _)
  clear hW4 f c0 c1 c2 c3 c4 c5 c6 c7
  have c0 := bcel HB4.out 0 (.int .i64 g0) rfl
  have c1 := bcel HB4.out 1 (.int .i64 g1) rfl
  have c2 := bcel HB4.out 2 (.int .i64 g2) rfl
  have c3 := bcel HB4.out 3 (.int .i64 g3) rfl
  have c4 := bcel HB4.out 4 (.int .i64 g4) rfl
  have c5 := bcel HB4.out 5 (.int .i64 g5) rfl
  have c6 := bcel HB4.out 6 (.int .i64 g6) rfl
  have c7 := bcel HB4.out 7 (.int .i64 g7) rfl
  go_wp2_with fail
  (with_reducible refine (HC3.out _).mono ?_)
  rintro e w5 ⟨rfl, hx5⟩
  have X5 := Lib.hid (X4.out.trans hx5)
  have HB5 := Lib.hid (ext_blk hx5 HB4.out)
  clear hx5 c0 c1 c2 c3 c4 c5 c6 c7
  go_wp2_with fail
  (with_reducible refine (HH.out _).mono ?_)
  rintro e w6 ⟨y2, rfl, _, hy2, rfl⟩
  have c0 := bcel HB5.out 0 (.int .i64 g0) rfl
  have c1 := bcel HB5.out 1 (.int .i64 g1) rfl
  have c2 := bcel HB5.out 2 (.int .i64 g2) rfl
  have c3 := bcel HB5.out 3 (.int .i64 g3) rfl
  have c4 := bcel HB5.out 4 (.int .i64 g4) rfl
  have c5 := bcel HB5.out 5 (.int .i64 g5) rfl
  have c6 := bcel HB5.out 6 (.int .i64 g6) rfl
  have c7 := bcel HB5.out 7 (.int .i64 g7) rfl
  have f := fun j => bfre HB5.out j
  have hcase : y2 = 0 ∨ y2 = 1 ∨ y2 = 2 ∨ y2 = 3 ∨ y2 = 4 ∨ y2 = 5 ∨ y2 = 6 := by omega
  rcases hcase with rfl | rfl | rfl | rfl | rfl | rfl | rfl
  · go_upto_region 24 with fail
    refine at_world (fun W6 hW6 => ?_)
    have HB6 := Lib.hid (show W6.heap[B]? = some (.cells #[.int .i64 n, .int .i64 g1, .int .i64 g2, .int .i64 g3, .int .i64 g4, .int .i64 g5, .int .i64 g6, .int .i64 g7] 25 (0, 0)) by rw [hW6, bset HB5.out 0 _]; rfl)
    have X6 := Lib.hid (show Ext w W6 by rw [hW6]; have := HBB.out; exact ext_set X5.out (by omega) _)
    clear hW6 f c0 c1 c2 c3 c4 c5 c6 c7
    have HD1 := Lib.hid (fun W => Check_any9 ⟨n, g1, g2, g3, g4, g5, g6, g7⟩ 2 W)
    have HD2 := Lib.hid (fun W => rCheck_any9 ⟨n, g1, g2, g3, g4, g5, g6, g7⟩ 2 W)
    obtain ⟨x, hx⟩ : ∃ x, x = chkA ⟨n, g1, g2, g3, g4, g5, g6, g7⟩ 2 := ⟨_, rfl⟩
    rw [← hx] at HD1 HD2
    have tx : (x == x) = true := by simp
    simp only [askV] at HD1 HD2
    clear hx
    have HCC := Lib.hid (fun (w' : World) (h : Ext W6 w') => (⟨h.cell (bcel HB6.out 0 (.int .i64 n) rfl), h.cell (bcel HB6.out 1 (.int .i64 g1) rfl), h.cell (bcel HB6.out 2 (.int .i64 g2) rfl), h.cell (bcel HB6.out 3 (.int .i64 g3) rfl), h.cell (bcel HB6.out 4 (.int .i64 g4) rfl), h.cell (bcel HB6.out 5 (.int .i64 g5) rfl), h.cell (bcel HB6.out 6 (.int .i64 g6) rfl), h.cell (bcel HB6.out 7 (.int .i64 g7) rfl)⟩ : w'.cell? ⟨B, 0, none⟩ = some (.int .i64 n) ∧ w'.cell? ⟨B, 1, none⟩ = some (.int .i64 g1) ∧ w'.cell? ⟨B, 2, none⟩ = some (.int .i64 g2) ∧ w'.cell? ⟨B, 3, none⟩ = some (.int .i64 g3) ∧ w'.cell? ⟨B, 4, none⟩ = some (.int .i64 g4) ∧ w'.cell? ⟨B, 5, none⟩ = some (.int .i64 g5) ∧ w'.cell? ⟨B, 6, none⟩ = some (.int .i64 g6) ∧ w'.cell? ⟨B, 7, none⟩ = some (.int .i64 g7)))
    refine wp_region_lex 6 (by kernel_rfl) (by kernel_rfl) (fun _ _ _ _ _ h => h) ?_
    simp only [List.take_succ_cons, List.take_zero, List.drop_succ_cons, List.drop_zero]
    repeat first | (refine seq_take ?_ (by rfl) (fun wk k1 => ?_) ?_; rotate_left; (have hcc := HCC.out wk k1; go_simp; first | exact OkX.val | ((with_reducible refine OkX.eqv (OkX.call (HD1.out wk)) ?_); exact rfl) | ((with_reducible refine OkX.eqv (OkX.call (HD2.out wk)) ?_); exact rfl)); simp only [Act.put, List.setIfInBounds_toArray, List.set_cons_zero, List.set_cons_succ]) | (refine seq_skip (by rfl) ?_; simp only [Act.put, List.setIfInBounds_toArray, List.set_cons_zero, List.set_cons_succ])
    refine seq_nil (fun wk k1 => ?_)
    have X7 := Lib.hid (X6.out.trans k1)
    clear HCC k1
    go_wp2
    go_ret
    exact ⟨rfl, X7.out⟩
  · go_upto_region 24 with fail
    refine at_world (fun W6 hW6 => ?_)
    have HB6 := Lib.hid (show W6.heap[B]? = some (.cells #[.int .i64 g0, .int .i64 n, .int .i64 g2, .int .i64 g3, .int .i64 g4, .int .i64 g5, .int .i64 g6, .int .i64 g7] 25 (0, 0)) by rw [hW6, bset HB5.out 1 _]; rfl)
    have X6 := Lib.hid (show Ext w W6 by rw [hW6]; have := HBB.out; exact ext_set X5.out (by omega) _)
    clear hW6 f c0 c1 c2 c3 c4 c5 c6 c7
    have HD1 := Lib.hid (fun W => Check_any9 ⟨g0, n, g2, g3, g4, g5, g6, g7⟩ 2 W)
    have HD2 := Lib.hid (fun W => rCheck_any9 ⟨g0, n, g2, g3, g4, g5, g6, g7⟩ 2 W)
    obtain ⟨x, hx⟩ : ∃ x, x = chkA ⟨g0, n, g2, g3, g4, g5, g6, g7⟩ 2 := ⟨_, rfl⟩
    rw [← hx] at HD1 HD2
    have tx : (x == x) = true := by simp
    simp only [askV] at HD1 HD2
    clear hx
    have HCC := Lib.hid (fun (w' : World) (h : Ext W6 w') => (⟨h.cell (bcel HB6.out 0 (.int .i64 g0) rfl), h.cell (bcel HB6.out 1 (.int .i64 n) rfl), h.cell (bcel HB6.out 2 (.int .i64 g2) rfl), h.cell (bcel HB6.out 3 (.int .i64 g3) rfl), h.cell (bcel HB6.out 4 (.int .i64 g4) rfl), h.cell (bcel HB6.out 5 (.int .i64 g5) rfl), h.cell (bcel HB6.out 6 (.int .i64 g6) rfl), h.cell (bcel HB6.out 7 (.int .i64 g7) rfl)⟩ : w'.cell? ⟨B, 0, none⟩ = some (.int .i64 g0) ∧ w'.cell? ⟨B, 1, none⟩ = some (.int .i64 n) ∧ w'.cell? ⟨B, 2, none⟩ = some (.int .i64 g2) ∧ w'.cell? ⟨B, 3, none⟩ = some (.int .i64 g3) ∧ w'.cell? ⟨B, 4, none⟩ = some (.int .i64 g4) ∧ w'.cell? ⟨B, 5, none⟩ = some (.int .i64 g5) ∧ w'.cell? ⟨B, 6, none⟩ = some (.int .i64 g6) ∧ w'.cell? ⟨B, 7, none⟩ = some (.int .i64 g7)))
    refine wp_region_lex 6 (by kernel_rfl) (by kernel_rfl) (fun _ _ _ _ _ h => h) ?_
    simp only [List.take_succ_cons, List.take_zero, List.drop_succ_cons, List.drop_zero]
    repeat first | (refine seq_take ?_ (by rfl) (fun wk k1 => ?_) ?_; rotate_left; (have hcc := HCC.out wk k1; go_simp; first | exact OkX.val | ((with_reducible refine OkX.eqv (OkX.call (HD1.out wk)) ?_); exact rfl) | ((with_reducible refine OkX.eqv (OkX.call (HD2.out wk)) ?_); exact rfl)); simp only [Act.put, List.setIfInBounds_toArray, List.set_cons_zero, List.set_cons_succ]) | (refine seq_skip (by rfl) ?_; simp only [Act.put, List.setIfInBounds_toArray, List.set_cons_zero, List.set_cons_succ])
    refine seq_nil (fun wk k1 => ?_)
    have X7 := Lib.hid (X6.out.trans k1)
    clear HCC k1
    go_wp2
    go_ret
    exact ⟨rfl, X7.out⟩
  · go_upto_region 24 with fail
    refine at_world (fun W6 hW6 => ?_)
    have HB6 := Lib.hid (show W6.heap[B]? = some (.cells #[.int .i64 g0, .int .i64 g1, .int .i64 n, .int .i64 g3, .int .i64 g4, .int .i64 g5, .int .i64 g6, .int .i64 g7] 25 (0, 0)) by rw [hW6, bset HB5.out 2 _]; rfl)
    have X6 := Lib.hid (show Ext w W6 by rw [hW6]; have := HBB.out; exact ext_set X5.out (by omega) _)
    clear hW6 f c0 c1 c2 c3 c4 c5 c6 c7
    have HD1 := Lib.hid (fun W => Check_any9 ⟨g0, g1, n, g3, g4, g5, g6, g7⟩ 2 W)
    have HD2 := Lib.hid (fun W => rCheck_any9 ⟨g0, g1, n, g3, g4, g5, g6, g7⟩ 2 W)
    obtain ⟨x, hx⟩ : ∃ x, x = chkA ⟨g0, g1, n, g3, g4, g5, g6, g7⟩ 2 := ⟨_, rfl⟩
    rw [← hx] at HD1 HD2
    have tx : (x == x) = true := by simp
    simp only [askV] at HD1 HD2
    clear hx
    have HCC := Lib.hid (fun (w' : World) (h : Ext W6 w') => (⟨h.cell (bcel HB6.out 0 (.int .i64 g0) rfl), h.cell (bcel HB6.out 1 (.int .i64 g1) rfl), h.cell (bcel HB6.out 2 (.int .i64 n) rfl), h.cell (bcel HB6.out 3 (.int .i64 g3) rfl), h.cell (bcel HB6.out 4 (.int .i64 g4) rfl), h.cell (bcel HB6.out 5 (.int .i64 g5) rfl), h.cell (bcel HB6.out 6 (.int .i64 g6) rfl), h.cell (bcel HB6.out 7 (.int .i64 g7) rfl)⟩ : w'.cell? ⟨B, 0, none⟩ = some (.int .i64 g0) ∧ w'.cell? ⟨B, 1, none⟩ = some (.int .i64 g1) ∧ w'.cell? ⟨B, 2, none⟩ = some (.int .i64 n) ∧ w'.cell? ⟨B, 3, none⟩ = some (.int .i64 g3) ∧ w'.cell? ⟨B, 4, none⟩ = some (.int .i64 g4) ∧ w'.cell? ⟨B, 5, none⟩ = some (.int .i64 g5) ∧ w'.cell? ⟨B, 6, none⟩ = some (.int .i64 g6) ∧ w'.cell? ⟨B, 7, none⟩ = some (.int .i64 g7)))
    refine wp_region_lex 6 (by kernel_rfl) (by kernel_rfl) (fun _ _ _ _ _ h => h) ?_
    simp only [List.take_succ_cons, List.take_zero, List.drop_succ_cons, List.drop_zero]
    repeat first | (refine seq_take ?_ (by rfl) (fun wk k1 => ?_) ?_; rotate_left; (have hcc := HCC.out wk k1; go_simp; first | exact OkX.val | ((with_reducible refine OkX.eqv (OkX.call (HD1.out wk)) ?_); exact rfl) | ((with_reducible refine OkX.eqv (OkX.call (HD2.out wk)) ?_); exact rfl)); simp only [Act.put, List.setIfInBounds_toArray, List.set_cons_zero, List.set_cons_succ]) | (refine seq_skip (by rfl) ?_; simp only [Act.put, List.setIfInBounds_toArray, List.set_cons_zero, List.set_cons_succ])
    refine seq_nil (fun wk k1 => ?_)
    have X7 := Lib.hid (X6.out.trans k1)
    clear HCC k1
    go_wp2
    go_ret
    exact ⟨rfl, X7.out⟩
  · go_upto_region 24 with fail
    refine at_world (fun W6 hW6 => ?_)
    have HB6 := Lib.hid (show W6.heap[B]? = some (.cells #[.int .i64 g0, .int .i64 g1, .int .i64 g2, .int .i64 n, .int .i64 g4, .int .i64 g5, .int .i64 g6, .int .i64 g7] 25 (0, 0)) by rw [hW6, bset HB5.out 3 _]; rfl)
    have X6 := Lib.hid (show Ext w W6 by rw [hW6]; have := HBB.out; exact ext_set X5.out (by omega) _)
    clear hW6 f c0 c1 c2 c3 c4 c5 c6 c7
    have HD1 := Lib.hid (fun W => Check_any9 ⟨g0, g1, g2, n, g4, g5, g6, g7⟩ 2 W)
    have HD2 := Lib.hid (fun W => rCheck_any9 ⟨g0, g1, g2, n, g4, g5, g6, g7⟩ 2 W)
    obtain ⟨x, hx⟩ : ∃ x, x = chkA ⟨g0, g1, g2, n, g4, g5, g6, g7⟩ 2 := ⟨_, rfl⟩
    rw [← hx] at HD1 HD2
    have tx : (x == x) = true := by simp
    simp only [askV] at HD1 HD2
    clear hx
    have HCC := Lib.hid (fun (w' : World) (h : Ext W6 w') => (⟨h.cell (bcel HB6.out 0 (.int .i64 g0) rfl), h.cell (bcel HB6.out 1 (.int .i64 g1) rfl), h.cell (bcel HB6.out 2 (.int .i64 g2) rfl), h.cell (bcel HB6.out 3 (.int .i64 n) rfl), h.cell (bcel HB6.out 4 (.int .i64 g4) rfl), h.cell (bcel HB6.out 5 (.int .i64 g5) rfl), h.cell (bcel HB6.out 6 (.int .i64 g6) rfl), h.cell (bcel HB6.out 7 (.int .i64 g7) rfl)⟩ : w'.cell? ⟨B, 0, none⟩ = some (.int .i64 g0) ∧ w'.cell? ⟨B, 1, none⟩ = some (.int .i64 g1) ∧ w'.cell? ⟨B, 2, none⟩ = some (.int .i64 g2) ∧ w'.cell? ⟨B, 3, none⟩ = some (.int .i64 n) ∧ w'.cell? ⟨B, 4, none⟩ = some (.int .i64 g4) ∧ w'.cell? ⟨B, 5, none⟩ = some (.int .i64 g5) ∧ w'.cell? ⟨B, 6, none⟩ = some (.int .i64 g6) ∧ w'.cell? ⟨B, 7, none⟩ = some (.int .i64 g7)))
    refine wp_region_lex 6 (by kernel_rfl) (by kernel_rfl) (fun _ _ _ _ _ h => h) ?_
    simp only [List.take_succ_cons, List.take_zero, List.drop_succ_cons, List.drop_zero]
    repeat first | (refine seq_take ?_ (by rfl) (fun wk k1 => ?_) ?_; rotate_left; (have hcc := HCC.out wk k1; go_simp; first | exact OkX.val | ((with_reducible refine OkX.eqv (OkX.call (HD1.out wk)) ?_); exact rfl) | ((with_reducible refine OkX.eqv (OkX.call (HD2.out wk)) ?_); exact rfl)); simp only [Act.put, List.setIfInBounds_toArray, List.set_cons_zero, List.set_cons_succ]) | (refine seq_skip (by rfl) ?_; simp only [Act.put, List.setIfInBounds_toArray, List.set_cons_zero, List.set_cons_succ])
    refine seq_nil (fun wk k1 => ?_)
    have X7 := Lib.hid (X6.out.trans k1)
    clear HCC k1
    go_wp2
    go_ret
    exact ⟨rfl, X7.out⟩
  · go_upto_region 24 with fail
    refine at_world (fun W6 hW6 => ?_)
    have HB6 := Lib.hid (show W6.heap[B]? = some (.cells #[.int .i64 g0, .int .i64 g1, .int .i64 g2, .int .i64 g3, .int .i64 n, .int .i64 g5, .int .i64 g6, .int .i64 g7] 25 (0, 0)) by rw [hW6, bset HB5.out 4 _]; rfl)
    have X6 := Lib.hid (show Ext w W6 by rw [hW6]; have := HBB.out; exact ext_set X5.out (by omega) _)
    clear hW6 f c0 c1 c2 c3 c4 c5 c6 c7
    have HD1 := Lib.hid (fun W => Check_any9 ⟨g0, g1, g2, g3, n, g5, g6, g7⟩ 2 W)
    have HD2 := Lib.hid (fun W => rCheck_any9 ⟨g0, g1, g2, g3, n, g5, g6, g7⟩ 2 W)
    obtain ⟨x, hx⟩ : ∃ x, x = chkA ⟨g0, g1, g2, g3, n, g5, g6, g7⟩ 2 := ⟨_, rfl⟩
    rw [← hx] at HD1 HD2
    have tx : (x == x) = true := by simp
    simp only [askV] at HD1 HD2
    clear hx
    have HCC := Lib.hid (fun (w' : World) (h : Ext W6 w') => (⟨h.cell (bcel HB6.out 0 (.int .i64 g0) rfl), h.cell (bcel HB6.out 1 (.int .i64 g1) rfl), h.cell (bcel HB6.out 2 (.int .i64 g2) rfl), h.cell (bcel HB6.out 3 (.int .i64 g3) rfl), h.cell (bcel HB6.out 4 (.int .i64 n) rfl), h.cell (bcel HB6.out 5 (.int .i64 g5) rfl), h.cell (bcel HB6.out 6 (.int .i64 g6) rfl), h.cell (bcel HB6.out 7 (.int .i64 g7) rfl)⟩ : w'.cell? ⟨B, 0, none⟩ = some (.int .i64 g0) ∧ w'.cell? ⟨B, 1, none⟩ = some (.int .i64 g1) ∧ w'.cell? ⟨B, 2, none⟩ = some (.int .i64 g2) ∧ w'.cell? ⟨B, 3, none⟩ = some (.int .i64 g3) ∧ w'.cell? ⟨B, 4, none⟩ = some (.int .i64 n) ∧ w'.cell? ⟨B, 5, none⟩ = some (.int .i64 g5) ∧ w'.cell? ⟨B, 6, none⟩ = some (.int .i64 g6) ∧ w'.cell? ⟨B, 7, none⟩ = some (.int .i64 g7)))
    refine wp_region_lex 6 (by kernel_rfl) (by kernel_rfl) (fun _ _ _ _ _ h => h) ?_
    simp only [List.take_succ_cons, List.take_zero, List.drop_succ_cons, List.drop_zero]
    repeat first | (refine seq_take ?_ (by rfl) (fun wk k1 => ?_) ?_; rotate_left; (have hcc := HCC.out wk k1; go_simp; first | exact OkX.val | ((with_reducible refine OkX.eqv (OkX.call (HD1.out wk)) ?_); exact rfl) | ((with_reducible refine OkX.eqv (OkX.call (HD2.out wk)) ?_); exact rfl)); simp only [Act.put, List.setIfInBounds_toArray, List.set_cons_zero, List.set_cons_succ]) | (refine seq_skip (by rfl) ?_; simp only [Act.put, List.setIfInBounds_toArray, List.set_cons_zero, List.set_cons_succ])
    refine seq_nil (fun wk k1 => ?_)
    have X7 := Lib.hid (X6.out.trans k1)
    clear HCC k1
    go_wp2
    go_ret
    exact ⟨rfl, X7.out⟩
  · go_upto_region 24 with fail
    refine at_world (fun W6 hW6 => ?_)
    have HB6 := Lib.hid (show W6.heap[B]? = some (.cells #[.int .i64 g0, .int .i64 g1, .int .i64 g2, .int .i64 g3, .int .i64 g4, .int .i64 n, .int .i64 g6, .int .i64 g7] 25 (0, 0)) by rw [hW6, bset HB5.out 5 _]; rfl)
    have X6 := Lib.hid (show Ext w W6 by rw [hW6]; have := HBB.out; exact ext_set X5.out (by omega) _)
    clear hW6 f c0 c1 c2 c3 c4 c5 c6 c7
    have HD1 := Lib.hid (fun W => Check_any9 ⟨g0, g1, g2, g3, g4, n, g6, g7⟩ 2 W)
    have HD2 := Lib.hid (fun W => rCheck_any9 ⟨g0, g1, g2, g3, g4, n, g6, g7⟩ 2 W)
    obtain ⟨x, hx⟩ : ∃ x, x = chkA ⟨g0, g1, g2, g3, g4, n, g6, g7⟩ 2 := ⟨_, rfl⟩
    rw [← hx] at HD1 HD2
    have tx : (x == x) = true := by simp
    simp only [askV] at HD1 HD2
    clear hx
    have HCC := Lib.hid (fun (w' : World) (h : Ext W6 w') => (⟨h.cell (bcel HB6.out 0 (.int .i64 g0) rfl), h.cell (bcel HB6.out 1 (.int .i64 g1) rfl), h.cell (bcel HB6.out 2 (.int .i64 g2) rfl), h.cell (bcel HB6.out 3 (.int .i64 g3) rfl), h.cell (bcel HB6.out 4 (.int .i64 g4) rfl), h.cell (bcel HB6.out 5 (.int .i64 n) rfl), h.cell (bcel HB6.out 6 (.int .i64 g6) rfl), h.cell (bcel HB6.out 7 (.int .i64 g7) rfl)⟩ : w'.cell? ⟨B, 0, none⟩ = some (.int .i64 g0) ∧ w'.cell? ⟨B, 1, none⟩ = some (.int .i64 g1) ∧ w'.cell? ⟨B, 2, none⟩ = some (.int .i64 g2) ∧ w'.cell? ⟨B, 3, none⟩ = some (.int .i64 g3) ∧ w'.cell? ⟨B, 4, none⟩ = some (.int .i64 g4) ∧ w'.cell? ⟨B, 5, none⟩ = some (.int .i64 n) ∧ w'.cell? ⟨B, 6, none⟩ = some (.int .i64 g6) ∧ w'.cell? ⟨B, 7, none⟩ = some (.int .i64 g7)))
    refine wp_region_lex 6 (by kernel_rfl) (by kernel_rfl) (fun _ _ _ _ _ h => h) ?_
    simp only [List.take_succ_cons, List.take_zero, List.drop_succ_cons, List.drop_zero]
    repeat first | (refine seq_take ?_ (by rfl) (fun wk k1 => ?_) ?_; rotate_left; (have hcc := HCC.out wk k1; go_simp; first | exact OkX.val | ((with_reducible refine OkX.eqv (OkX.call (HD1.out wk)) ?_); exact rfl) | ((with_reducible refine OkX.eqv (OkX.call (HD2.out wk)) ?_); exact rfl)); simp only [Act.put, List.setIfInBounds_toArray, List.set_cons_zero, List.set_cons_succ]) | (refine seq_skip (by rfl) ?_; simp only [Act.put, List.setIfInBounds_toArray, List.set_cons_zero, List.set_cons_succ])
    refine seq_nil (fun wk k1 => ?_)
    have X7 := Lib.hid (X6.out.trans k1)
    clear HCC k1
    go_wp2
    go_ret
    exact ⟨rfl, X7.out⟩
  · go_upto_region 24 with fail
    refine at_world (fun W6 hW6 => ?_)
    have HB6 := Lib.hid (show W6.heap[B]? = some (.cells #[.int .i64 g0, .int .i64 g1, .int .i64 g2, .int .i64 g3, .int .i64 g4, .int .i64 g5, .int .i64 n, .int .i64 g7] 25 (0, 0)) by rw [hW6, bset HB5.out 6 _]; rfl)
    have X6 := Lib.hid (show Ext w W6 by rw [hW6]; have := HBB.out; exact ext_set X5.out (by omega) _)
    clear hW6 f c0 c1 c2 c3 c4 c5 c6 c7
    have HD1 := Lib.hid (fun W => Check_any9 ⟨g0, g1, g2, g3, g4, g5, n, g7⟩ 2 W)
    have HD2 := Lib.hid (fun W => rCheck_any9 ⟨g0, g1, g2, g3, g4, g5, n, g7⟩ 2 W)
    obtain ⟨x, hx⟩ : ∃ x, x = chkA ⟨g0, g1, g2, g3, g4, g5, n, g7⟩ 2 := ⟨_, rfl⟩
    rw [← hx] at HD1 HD2
    have tx : (x == x) = true := by simp
    simp only [askV] at HD1 HD2
    clear hx
    have HCC := Lib.hid (fun (w' : World) (h : Ext W6 w') => (⟨h.cell (bcel HB6.out 0 (.int .i64 g0) rfl), h.cell (bcel HB6.out 1 (.int .i64 g1) rfl), h.cell (bcel HB6.out 2 (.int .i64 g2) rfl), h.cell (bcel HB6.out 3 (.int .i64 g3) rfl), h.cell (bcel HB6.out 4 (.int .i64 g4) rfl), h.cell (bcel HB6.out 5 (.int .i64 g5) rfl), h.cell (bcel HB6.out 6 (.int .i64 n) rfl), h.cell (bcel HB6.out 7 (.int .i64 g7) rfl)⟩ : w'.cell? ⟨B, 0, none⟩ = some (.int .i64 g0) ∧ w'.cell? ⟨B, 1, none⟩ = some (.int .i64 g1) ∧ w'.cell? ⟨B, 2, none⟩ = some (.int .i64 g2) ∧ w'.cell? ⟨B, 3, none⟩ = some (.int .i64 g3) ∧ w'.cell? ⟨B, 4, none⟩ = some (.int .i64 g4) ∧ w'.cell? ⟨B, 5, none⟩ = some (.int .i64 g5) ∧ w'.cell? ⟨B, 6, none⟩ = some (.int .i64 n) ∧ w'.cell? ⟨B, 7, none⟩ = some (.int .i64 g7)))
    refine wp_region_lex 6 (by kernel_rfl) (by kernel_rfl) (fun _ _ _ _ _ h => h) ?_
    simp only [List.take_succ_cons, List.take_zero, List.drop_succ_cons, List.drop_zero]
    repeat first | (refine seq_take ?_ (by rfl) (fun wk k1 => ?_) ?_; rotate_left; (have hcc := HCC.out wk k1; go_simp; first | exact OkX.val | ((with_reducible refine OkX.eqv (OkX.call (HD1.out wk)) ?_); exact rfl) | ((with_reducible refine OkX.eqv (OkX.call (HD2.out wk)) ?_); exact rfl)); simp only [Act.put, List.setIfInBounds_toArray, List.set_cons_zero, List.set_cons_succ]) | (refine seq_skip (by rfl) ?_; simp only [Act.put, List.setIfInBounds_toArray, List.set_cons_zero, List.set_cons_succ])
    refine seq_nil (fun wk k1 => ?_)
    have X7 := Lib.hid (X6.out.trans k1)
    clear HCC k1
    go_wp2
    go_ret
    exact ⟨rfl, X7.out⟩

theorem own : ownKnob Try.prog.godebug = none := by kernel_rfl
theorem laidOut : laidOutB Try.prog = true := by kernel_rfl
set_option maxRecDepth 100000 in
theorem lifted (os : Os) (started : os.Started) (H : Type) (enc : TypeId × Value → H) :
    ReturnsInHanded {} Try.checked os 3 .any (Rows.asksCheckSpec.pre6 enc Try.prog Try.f3 Rows.asksCheckRow.domain false) (Rows.asksCheckSpec.post enc Try.prog Try.f3 false true false false) := by
  refine returnsInHanded_of_change (C := Try.checked) own started (by kernel_rfl) Try.func3
    (ChangeSpec.witness6 (enc := enc) (C := Try.checked) false ⟨#[], #[.agg #[.int .i64 0, .int .i64 0, .int .i64 0, .int .i64 0, .int .i64 0, .int .i64 0, .int .i64 0, .int .i64 0], .int .i64 0, .int .i64 0, .int .i64 0], []⟩ 8 (by kernel_rfl) (by kernel_rfl) (by kernel_rfl) (by kernel_rfl)) ?_
  intro W base args ds gs before hval0 hW hcnd _
  have hval : ∀ (j : Nat) t v, Try.f3.params[j]? = some t → args[j]? = some v → Value.okWide Try.prog W .any base t v := hval0
  have hW' := hW
  obtain ⟨p, q, hA0, hV, rfl, hfz, hnd⟩ := hW
  have hA : DataW.TrodAll enc Try.prog W 0 (fun _ => true) true Try.f3.params.toList args.toList ds p := hA0
  rw [Try.params3] at hA hval
  obtain ⟨v0, vs0, d0, ds0, p0, q0, hargs, rfl, rfl, h0, r0⟩ := trodAll_cons hA
  obtain ⟨v1, vs1, d1, ds1, p1, q1, rfl, rfl, rfl, h1, r1⟩ := trodAll_cons r0
  obtain ⟨v2, vs2, d2, ds2, p2, q2, rfl, rfl, rfl, h2, r2⟩ := trodAll_cons r1
  obtain ⟨v3, vs3, d3, ds3, p3, q3, rfl, rfl, rfl, h3, r3⟩ := trodAll_cons r2
  obtain ⟨rfl, rfl, rfl⟩ := trodAll_nil r3
  obtain rfl : args = #[v0, v1, v2, v3] := by cases args; simp_all
  obtain ⟨rfl, rfl⟩ := trodVars_none hV
  have hlt0 : ∀ x ∈ p0, x.block < W.heap.size := fun x hx => by simpa using hW'.lt x (by simp [hx])
  obtain ⟨A00, A01, A02, A03, A04, A05, A06, A07, rfl⟩ := open_ints8 Try.underlying25 (by kernel_rfl) askInts (hval 0 25 v0 rfl rfl) h0
  obtain ⟨a1, rfl, rfl, rfl, w1⟩ := open_int Try.underlying3 (hval 1 3 v1 rfl rfl) h1
  obtain ⟨a2, rfl, rfl, rfl, w2⟩ := open_int Try.underlying3 (hval 2 3 v2 rfl rfl) h2
  obtain ⟨a3, rfl, rfl, rfl, w3⟩ := open_int Try.underlying3 (hval 3 3 v3 rfl rfl) h3
  clear hA0 hval0
  refine (walk W ⟨A00, A01, A02, A03, A04, A05, A06, A07⟩ a1 w1 a2 w2 a3 w3).mono fun e W' ⟨he, bel⟩ => ?_
  subst he
  exact ⟨_, rfl, _, _, _, [], _, [], hW', trodAll_mk1 (shut_bool Try.underlying4 _), (trodAll_cons_mk (Below.trod laidOut (by kernel_rfl) (of_decide_eq_true (by kernel_rfl)) h0 bel hlt0) (trodAll_cons_mk (shut_int Try.underlying3 w1) (trodAll_cons_mk (shut_int Try.underlying3 w2) (trodAll_cons_mk (shut_int Try.underlying3 w3) trodAll_mk0)))), rfl, bel.frame _, fun h => by cases h⟩

theorem over : Rows.asksCheckRow.holds Try.pinned (OpenSpec.ofChange Rows.asksCheckSpec) :=
  OpenClaim.holds_of_wide 3 Try.f3 rfl rfl rfl rfl rfl rfl rfl ⟨rfl, rfl, rfl, rfl, rfl⟩ rfl rfl rfl rfl rfl (by kernel_rfl) Try.func3 (by kernel_rfl)
    (of_decide_eq_true (by kernel_rfl)) (by unfold Func.isWrapper; first | (rw [if_pos (by decide +kernel)]; kernel_rfl) | (rw [if_neg (by decide +kernel)]; exact ⟨rfl, rfl⟩))
    (fun os started H enc _ => lifted os started H enc)

theorem proved : Rows.AsksCheckSaid := over
#print axioms proved
end Go.Proofs.Ytbocpkdnlpobkaa.AsksCheck
