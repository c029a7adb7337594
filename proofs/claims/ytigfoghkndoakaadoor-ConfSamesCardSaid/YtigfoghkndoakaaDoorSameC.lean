/- conf.Same at two configurations of the call's own (wants EqCapOk, XSameQ). -/
import Derived.Test.YtigfoghkndoakaaDoorSameF
import Derived.Test.YtigfoghkndoakaaDoorShelf
namespace Go.Proofs.YtigfoghkndoakaaDoor
open Go.RowKit

def toB (t : Tx) : ByteArray := ⟨t.toArray⟩
theorem toB_inj {a b : Tx} (h : toB a = toB b) : a = b := by
  unfold toB at h
  injection h with h
  simpa using h
theorem map_toB {l m : List Tx} : l.map toB = m.map toB ↔ l = m := by
  constructor
  · intro h
    induction l generalizing m with
    | nil => cases m with
      | nil => rfl
      | cons y m => simp at h
    | cons x l ih => cases m with
      | nil => simp at h
      | cons y m =>
        rw [List.map_cons, List.map_cons] at h
        injection h with h1 h2
        rw [toB_inj h1, ih h2]
  · rintro rfl; rfl

theorem eqStr_any (B1 B2 : Nat) (v1 v2 : Value) (l1 l2 : List Tx) (w : World) (h1 : w.ownsRow B1 9 1 v1 l1.length (l1.map sv)) (h2 : w.ownsRow B2 9 1 v2 l2.length (l2.map sv)) (hp1 : 0 < l1.length) (hp2 : 0 < l2.length) :
    Calls Tryd.prog 17 #[v1, v2] w (SamePost (decide (l1 = l2)) w) := by
  have s1 := h1
  have s2 := h2
  rcases h1.2 with ⟨_, h0⟩ | ⟨g1, c1, cur1, rfl, _, _, hc1, hm1, _⟩
  · omega
  rcases h2.2 with ⟨_, h0⟩ | ⟨g2, c2, cur2, rfl, _, _, hc2, hm2, _⟩
  · omega
  have hm1' : c1 ≤ 9223372036854775807 := by unfold maxLen at hm1; omega
  have hm2' : c2 ≤ 9223372036854775807 := by unfold maxLen at hm2; omega
  refine (Tryd.slices_Equal_string g1 0 l1.length c1 g2 0 l2.length c2 (l1.map toB) (l2.map toB) w (by simp) (by simp) (by omega) (by omega) ?_ ?_).mono ?_
  · intro j hj
    rw [List.length_map] at hj
    rw [Nat.zero_add, s1.cellAt j (by omega)]
    simp [hj, List.getD, sv, toB]
  · intro j hj
    rw [List.length_map] at hj
    rw [Nat.zero_add, s2.cellAt j (by omega)]
    simp [hj, List.getD, sv, toB]
  · rintro e w' ⟨rfl, q, rfl⟩
    refine ⟨?_, ext_drewN _ _⟩
    rw [List.take_of_length_le (by simp), List.take_of_length_le (by simp)]
    congr 2
    exact decide_eq_decide.2 map_toB

set_option maxRecDepth 100000 in
set_option maxHeartbeats 3200000 in
theorem Same_any (HE : EqCapOk) (B1 B2 : Nat) (vl1 vl2 vq1 vq2 : Value) (l1 l2 : List Tx) (ds1 ds2 : List QD) (qs1 qs2 : List QC) (w : World)
    (hl1 : w.ownsRow B1 9 1 vl1 l1.length (l1.map sv)) (hl2 : w.ownsRow B2 9 1 vl2 l2.length (l2.map sv)) (hp1 : 0 < l1.length) (hp2 : 0 < l2.length) (h1 : OwnQs w B1 vq1 ds1 qs1) (h2 : OwnQs w B2 vq2 ds2 qs2) :
    ∃ b : Bool, (b = true ↔ (l1 = l2 ∧ ds1 = ds2)) ∧ Calls Tryd.prog 8 #[.agg #[vl1, vq1], .agg #[vl2, vq2]] w (SamePost b w) := by
  obtain ⟨b, hb⟩ : ∃ b : Bool, (b = true ↔ (l1 = l2 ∧ ds1 = ds2)) := by
    classical
    exact ⟨decide (l1 = l2 ∧ ds1 = ds2), by simp⟩
  refine ⟨b, hb, ?_⟩
  have HL1 := Lib.hid hl1
  have HL2 := Lib.hid hl2
  obtain ⟨A1, c1, rfl, _, _⟩ := own_shape hl1
  obtain ⟨A2, c2, rfl, _, _⟩ := own_shape hl2
  obtain ⟨A3, c3, rfl, _, _⟩ := own_shape h1.row
  obtain ⟨A4, c4, rfl, _, _⟩ := own_shape h2.row
  have H1 := Lib.hid h1
  have H2 := Lib.hid h2
  have HBB := Lib.hid hb
  clear hl1 hl2 h1 h2 hb
  generalize hn1 : l1.length = n1 at HL1 hp1 ⊢
  generalize hn2 : l2.length = n2 at HL2 hp2 ⊢
  generalize hn3 : ds1.length = n3 at H1 ⊢
  generalize hn4 : ds2.length = n4 at H2 ⊢
  have HN1 := Lib.hid hn1
  have HN2 := Lib.hid hn2
  clear hn1 hn2 hn3 hn4
  go_enter Tryd.func8, Tryd.ntmps8
  go_upto_region 1 with fail
  obtain ⟨W1, hW1⟩ : ∃ W1, W1 = w.alloc (.cells #[.slice A1 n1 c1, .slice A3 n3 c3] 30) := ⟨_, rfl⟩
  have HX1 := Lib.hid (show Ext w W1 by rw [hW1]; exact ext_alloc _ _)
  have HB1 := Lib.hid (show W1.heap[w.heap.size]? = some (.cells #[.slice A1 n1 c1, .slice A3 n3 c3] 30 (0, 0)) by rw [hW1]; exact heap_alloc_new w _)
  have hS : W1.heap.size = w.heap.size + 1 := by rw [hW1]; simp
  rw [← hW1]
  obtain ⟨W2, hW2⟩ : ∃ W2, W2 = W1.alloc (.cells #[.slice A2 n2 c2, .slice A4 n4 c4] 30) := ⟨_, rfl⟩
  have HX2 := Lib.hid (show Ext W1 W2 by rw [hW2]; exact ext_alloc _ _)
  have HB2 := Lib.hid (show W2.heap[w.heap.size + 1]? = some (.cells #[.slice A2 n2 c2, .slice A4 n4 c4] 30 (0, 0)) by rw [hW2, ← hS]; exact heap_alloc_new W1 _)
  rw [← hW2]
  have HX := Lib.hid (HX1.out.trans HX2.out)
  have HB3 := Lib.hid ((HX2.out.block w.heap.size (Array.getElem?_eq_some_iff.1 HB1.out).1).trans HB1.out)
  have x0 : W2.cell? ⟨w.heap.size, 0, none⟩ = some (.slice A1 n1 c1) := by rw [cell_of_row W2 _ 0 _ _ (0, 0) HB3.out]; rfl
  have x1 : W2.cell? ⟨w.heap.size, 1, none⟩ = some (.slice A3 n3 c3) := by rw [cell_of_row W2 _ 1 _ _ (0, 0) HB3.out]; rfl
  have y0 : W2.cell? ⟨w.heap.size + 1, 0, none⟩ = some (.slice A2 n2 c2) := by rw [cell_of_row W2 _ 0 _ _ (0, 0) HB2.out]; rfl
  have y1 : W2.cell? ⟨w.heap.size + 1, 1, none⟩ = some (.slice A4 n4 c4) := by rw [cell_of_row W2 _ 1 _ _ (0, 0) HB2.out]; rfl
  clear hW1 hW2 hS
  have HI := Lib.hid (eqStr_any B1 B2 (.slice A1 n1 c1) (.slice A2 n2 c2) l1 l2 W2 (by rw [HN1.out]; exact own_ExtK HL1.out HX.out) (by rw [HN2.out]; exact own_ExtK HL2.out HX.out) (by rw [HN1.out]; exact hp1) (by rw [HN2.out]; exact hp2))
  by_cases hl : l1 = l2
  · rw [decide_eq_true hl] at HI
    have HLE := Lib.hid hl
    clear hl
    go_wp2_with fail
    (with_reducible refine (HI.out).mono ?_)
    rintro e w5 ⟨rfl, hx5⟩
    have x1 := hx5.cell x1
    have y1 := hx5.cell y1
    have HX5 := Lib.hid (HX.out.trans hx5)
    clear hx5
    obtain ⟨b', hb', hc⟩ := EqualFunc_any HE B1 B2 (.slice A3 n3 c3) (.slice A4 n4 c4) ds1 ds2 qs1 qs2 w5 (H1.out.ext HX5.out) (H2.out.ext HX5.out)
    have HC := Lib.hid hc
    have HBQ := Lib.hid (show b = b' by
      have h := HBB.out
      rw [Bool.eq_iff_iff, h, hb']
      exact ⟨fun h => h.2, fun h => ⟨HLE.out, h⟩⟩)
    clear hb' hc x0 y0
    go_wp2_with fail
    (with_reducible refine (HC.out).mono ?_)
    rintro e w6 ⟨rfl, hx6⟩
    have HX6 := Lib.hid (HX5.out.trans hx6)
    clear hx6
    cases b'
    all_goals (
      go_wp2
      go_ret
      exact ⟨by rw [HBQ.out]; rfl, HX6.out⟩)
  · rw [decide_eq_false hl] at HI
    have HBF := Lib.hid (show b = false by
      cases hb : b with
      | false => rfl
      | true => exact absurd (HBB.out.1 hb).1 hl)
    clear hl
    go_wp2_with fail
    (with_reducible refine (HI.out).mono ?_)
    rintro e w5 ⟨rfl, hx5⟩
    have HX5 := Lib.hid (HX.out.trans hx5)
    clear hx5
    go_wp2
    go_ret
    exact ⟨by rw [HBF.out]; rfl, HX5.out⟩
end Go.Proofs.YtigfoghkndoakaaDoor
