/- fresh: strings.Clone, queue. -/
import Derived.Test.YtffioglbgnbieaaClones
import Derived.Test.YtffioglbgnbieaaShelf
import Derived.Test.YtffioglbgnbieaaSched3
import Derived.Test.YtffioglbgnbieaaFoot
import Derived.Test.YtffioglbgnbieaaBlk0
import Derived.Laws.Cover1
import Derived.Deep.CutRange
namespace Go.Proofs.Ytffioglbgnbieaa
open Go.RowKit

theorem strClone_any (S : ByteArray) (w : World) (hs : S.size ≤ 1000000000000) : Calls Try.prog 36 #[.string S] w fun e w' => e = .returned (.string S) ∧ Ext w w' := by
  have hcon := fun W => Try.stringslite_Clone S W (by omega)
  go_enter Try.func36, Try.ntmps36
  go_wp2_with (go_at_call 44; refine (hcon _).mono ?_; rintro e w' ⟨rfl, hx⟩)
  go_ret
  exact ⟨rfl, hx⟩

/-- Of block B all but what is said to stay may turn: its cell o holds u. -/
structure CellL (B : Nat) (w w' : World) : Prop where
  foot : FootL (fun b => b = B) w w'
  stay : ∀ (S : ByteArray), w.cell? ⟨B, 0, none⟩ = some (.string S) → w'.cell? ⟨B, 0, none⟩ = some (.string S)
theorem CellL_way (B : Nat) : Way (CellL B) := ⟨fun h => ⟨FootL.of_ext h, fun _ hc => h.cell hc⟩, fun h k => ⟨(FootL_way _).trans h.foot k.foot, fun S hc => k.stay S (h.stay S hc)⟩⟩
theorem CellL.refl (B : Nat) (w : World) : CellL B w w := (CellL_way B).ext (Ext.refl _)

theorem caps_oneF (cs : List (Int × Int)) : ∀ u ∈ capCells cs, u.oneCell' = true := by
  intro u hu
  unfold capCells at hu
  rw [List.mem_flatMap] at hu
  obtain ⟨p, _, hu⟩ := hu
  simp at hu
  rcases hu with rfl | rfl <;> rfl

theorem own_base {w : World} {B B' e k n : Nat} {v : Value} {xs : List Value} (h : w.ownsRow B' e k v n xs) (hB : B ≤ B') : w.ownsRow B e k v n xs := by
  refine ⟨h.1, ?_⟩
  rcases h.2 with hn | ⟨g, cap, cur, rfl, hb, hr⟩
  · exact .inl hn
  · exact .inr ⟨g, cap, cur, rfl, Nat.le_trans hB hb, hr⟩
theorem at_worldQ {P : Program} {f : Func} {post : Ending → World → Prop} {ex : Exit} {a : Act} {w : World} (h : ∀ W, W = w → bodyPost P f post ex a W) : bodyPost P f post ex a w := h w rfl
theorem bset3 {w : World} {b : Nat} {t : TypeId} {x0 x1 x2 : Value} (h : w.heap[b]? = some (.cells #[x0, x1, x2] t (0, 0))) (v0 v1 v2 : Value) : (((w.setCell ⟨b, 0, none⟩ v0).setCell ⟨b, 1, none⟩ v1).setCell ⟨b, 2, none⟩ v2).heap[b]? = some (.cells #[v0, v1, v2] t (0, 0)) := by
  have e := bset (bset (bset h 0 v0) 1 v1) 2 v2
  simp only [List.setIfInBounds_toArray, List.set_cons_zero, List.set_cons_succ] at e
  exact e
theorem own_set3 {w : World} {B e k n b : Nat} {v : Value} {xs : List Value} {v0 v1 v2 : Value} (h : w.ownsRow B e k v n xs) (hb : v.ownBlock ≠ some b) : (((w.setCell ⟨b, 0, none⟩ v0).setCell ⟨b, 1, none⟩ v1).setCell ⟨b, 2, none⟩ v2).ownsRow B e k v n xs :=
  ((h.kept (bgrown w b 0 v0) (.inr hb)).kept (bgrown _ b 1 v1) (.inr hb)).kept (bgrown _ b 2 v2) (.inr hb)

def FrQPost (p : ByteArray) (n : Nat) (u : Int) (cs : List (Int × Int)) (w : World) (e : Ending) (w' : World) : Prop := ∃ A' c', e = .returned (.agg #[.string p, .slice A' n c', .int .i64 u]) ∧ w'.ownsRow w.heap.size 55 2 (.slice A' n c') n (capCells cs) ∧ Ext w w'

set_option maxRecDepth 100000 in
set_option maxHeartbeats 3200000 in
theorem frQueue_any (p : ByteArray) (A : Option Addr) (n c : Nat) (u : Int) (cs : List (Int × Int)) (w : World) (hp : p.size ≤ 1000000000000) (hr : RdK 2 w (.slice A n c) n (capCells cs)) (hn : n ≤ 1000000) :
    Calls Try.prog 38 #[.agg #[.string p, .slice A n c, .int .i64 u]] w (FrQPost p n u cs w) := by
  have HS := Lib.hid (fun W => strClone_any p W hp)
  have HC := Lib.hid (fun W (x : Ext w W) => cloneCap_any (.slice A n c) n (capCells cs) W (hr.ext x) (caps_oneF cs) hn)
  clear hp hr hn
  go_enter Try.func38, Try.ntmps38
  go_upto_region 1 with fail
  refine at_world (fun W0 hW0 => ?_)
  obtain ⟨B, hB⟩ : ∃ B, B = w.heap.size := ⟨_, rfl⟩
  have HB := Lib.hid (show w.heap.size ≤ B by omega)
  have X0 := Lib.hid (show Ext w W0 by rw [hW0]; exact (ext_alloc _ _).trans (ext_alloc _ _))
  have H1 := Lib.hid (show W0.heap[B]? = some (.cells #[.string p, .slice A n c, .int .i64 u] 58 (0, 0)) by rw [hW0, hB]; exact ext_blk (ext_alloc _ _) (heap_alloc_new w _))
  have H2 := Lib.hid (show W0.heap[B + 1]? = some (.cells #[.string ⟨#[]⟩, .slice none 0 0, .int .i64 0] 58 (0, 0)) by rw [hW0, hB]; exact alloc_at (by simp))
  rw [← hB]
  have hBW : B < W0.heap.size := (Array.getElem?_eq_some_iff.1 H1.out).1
  have HBW := Lib.hid hBW
  clear hW0 hB hBW
  have s0 := bcel H1.out 0 (.string p) rfl
  refine wp_region_tree (CellL B) (CellL_way B) (.free 0 (.free 1 (.free 3 (.two 2 4 (.step 4 (.free 6 (.step 5 (.step 7 (.free 8 (.step 9 .done)))))) (.step 2 (.free 6 (.step 5 (.step 7 (.free 8 (.step 9 .done)))))))))) (by kernel_rfl) (by kernel_rfl) (fun _ _ _ _ _ h => h) ?_
  repeat first | ((with_reducible refine tree_free ?_ ?_ ?_ ?_ (fun wk k1 => ?_) ?_); rotate_left 2; (rfl); (first | exact want_none rfl | exact want_some rfl rfl rfl rfl); (go_simp; first | exact OkX.val | (have y1 := k1.stay p ((Ext.drew _).cell s0); go_simp; exact OkX.val)); simp only [Act.put, List.setIfInBounds_toArray, List.set_cons_zero, List.set_cons_succ]) | ((with_reducible refine tree_skip ?_ ?_ ?_ ?_); rotate_left; (rfl); (exact want_not rfl rfl rfl rfl rfl); simp only [Act.put, List.setIfInBounds_toArray, List.set_cons_zero, List.set_cons_succ])
  ((with_reducible refine tree_two ?_ ?_ ?_ ?_ ?_ ?_ (fun wk k1 => ?_) (fun wk k1 => ?_)); rotate_left 2; (rfl); (first | exact want_none rfl | exact want_some rfl rfl rfl rfl); (rfl); (first | exact want_none rfl | exact want_some rfl rfl rfl rfl))
  · have E0 := Lib.hid ((Ext.drew _).trans k1)
    clear k1
    go_simp
    (with_reducible refine (HS.out _).mono ?_)
    rintro e wf ⟨rfl, hxf⟩
    refine ⟨(CellL_way B).ext hxf, ?_⟩
    try simp only [Act.put, List.setIfInBounds_toArray, List.set_cons_zero, List.set_cons_succ]
    have E0' := Lib.hid (E0.out.trans hxf)
    clear hxf
    ((with_reducible refine tree_step ?_ ?_ ?_ (fun wk k1 => ?_)); rotate_left; (rfl); (first | exact want_none rfl | exact want_some rfl rfl rfl rfl))
    have E1 := Lib.hid (E0'.out.trans k1)
    have z1 := bcel (ext_blk E1.out H1.out) 1 (.slice A n c) rfl
    clear k1
    go_simp
    refine ⟨CellL.refl _ _, ?_⟩
    try simp only [Act.put, List.setIfInBounds_toArray, List.set_cons_zero, List.set_cons_succ]
    clear z1
    repeat first | ((with_reducible refine tree_free ?_ ?_ ?_ ?_ (fun wk k1 => ?_) ?_); rotate_left 2; (rfl); (first | exact want_none rfl | exact want_some rfl rfl rfl rfl); (go_simp; first | exact OkX.val); simp only [Act.put, List.setIfInBounds_toArray, List.set_cons_zero, List.set_cons_succ]) | ((with_reducible refine tree_skip ?_ ?_ ?_ ?_); rotate_left; (rfl); (exact want_not rfl rfl rfl rfl rfl); simp only [Act.put, List.setIfInBounds_toArray, List.set_cons_zero, List.set_cons_succ])
    ((with_reducible refine tree_step ?_ ?_ ?_ (fun wk k1 => ?_)); rotate_left; (rfl); (first | exact want_none rfl | exact want_some rfl rfl rfl rfl))
    have E2 := Lib.hid (E1.out.trans k1)
    clear k1
    go_simp
    (with_reducible refine (HC.out _ (X0.out.trans E2.out)).mono ?_)
    unfold ClonePost
    rintro e wf ⟨A', c', rfl, ho, hxf⟩
    refine ⟨(CellL_way B).ext hxf, ?_⟩
    try simp only [Act.put, List.setIfInBounds_toArray, List.set_cons_zero, List.set_cons_succ]
    have E3 := Lib.hid (E2.out.trans hxf)
    have HO := Lib.hid (own_base ho (X0.out.trans E2.out).size)
    have HN := Lib.hid (show ∀ g, (Value.slice A' n c').ownBlock = some g → B + 1 < g from fun g hg => by
      have := (ho.lt g hg).1
      have := E2.out.size
      have := (Array.getElem?_eq_some_iff.1 H2.out).1
      omega)
    clear ho hxf
    ((with_reducible refine tree_step ?_ ?_ ?_ (fun wk k1 => ?_)); rotate_left; (rfl); (first | exact want_none rfl | exact want_some rfl rfl rfl rfl))
    have E4 := Lib.hid (E3.out.trans k1)
    have HO4 := Lib.hid (own_ExtK HO.out k1)
    have hb4 := ext_blk E4.out H1.out
    have z0 := bcel hb4 0 (.string p) rfl
    have fz := bfre hb4 0
    clear k1 HO
    go_simp
    refine ⟨⟨FootL.setCell _ _ _ _ _ rfl, fun S hS => by rw [setCell_id z0]; exact hS⟩, ?_⟩
    try simp only [Act.put, List.setIfInBounds_toArray, List.set_cons_zero, List.set_cons_succ]
    rw [setCell_id z0]
    clear z0 fz hb4
    repeat first | ((with_reducible refine tree_free ?_ ?_ ?_ ?_ (fun wk k1 => ?_) ?_); rotate_left 2; (rfl); (first | exact want_none rfl | exact want_some rfl rfl rfl rfl); (go_simp; first | exact OkX.val); simp only [Act.put, List.setIfInBounds_toArray, List.set_cons_zero, List.set_cons_succ]) | ((with_reducible refine tree_skip ?_ ?_ ?_ ?_); rotate_left; (rfl); (exact want_not rfl rfl rfl rfl rfl); simp only [Act.put, List.setIfInBounds_toArray, List.set_cons_zero, List.set_cons_succ])
    ((with_reducible refine tree_step ?_ ?_ ?_ (fun wk k1 => ?_)); rotate_left; (rfl); (first | exact want_none rfl | exact want_some rfl rfl rfl rfl))
    have E5 := Lib.hid (E4.out.trans k1)
    have HO5 := Lib.hid (own_ExtK HO4.out k1)
    have hb5 := ext_blk E5.out H1.out
    have z0 := bcel hb5 1 (.slice A n c) rfl
    have fz := bfre hb5 1
    clear k1 HO4
    go_simp
    refine ⟨⟨FootL.setCell _ _ _ _ _ rfl, fun S hS => by rw [World.cell?_setCell_other _ _ _ _ (by simp)]; exact hS⟩, ?_⟩
    try simp only [Act.put, List.setIfInBounds_toArray, List.set_cons_zero, List.set_cons_succ]
    refine tree_done (fun wz k1 => ?_)
    have HB6 := Lib.hid (ext_blk k1 (bset hb5 1 (.slice A' n c')))
    have HT6 := Lib.hid (ext_blk k1 (show (wk.setCell ⟨B, 1, none⟩ (.slice A' n c')).heap[B + 1]? = some (.cells #[.string ⟨#[]⟩, .slice none 0 0, .int .i64 0] 58 (0, 0)) by rw [heap_setCell_other _ _ _ _ (by simp)]; exact ext_blk E5.out H2.out))
    have X6 := Lib.hid ((ext_set (o := 1) (X0.out.trans E5.out) HB.out (.slice A' n c')).trans k1)
    have HO6 := Lib.hid (own_ExtK (HO5.out.kept (bgrown wk B 1 (.slice A' n c')) (.inr (fun e => by have := HN.out B e; omega))) k1)
    clear k1 z0 fz hb5 HO5
    have c0 := bcel HB6.out 0 (.string p) rfl
    have c1 := bcel HB6.out 1 (.slice A' n c') rfl
    have c2 := bcel HB6.out 2 (.int .i64 u) rfl
    have d0 := bcel HT6.out 0 (.string ⟨#[]⟩) rfl
    have d1 := bcel HT6.out 1 (.slice none 0 0) rfl
    have d2 := bcel HT6.out 2 (.int .i64 0) rfl
    have fd := fun j => bfre HT6.out j
    go_wp2
    refine at_worldQ (fun W9 hW9 => ?_)
    have hb := bset3 HT6.out (.string p) (.slice A' n c') (.int .i64 u)
    rw [← hW9] at hb
    have g0 := bcel hb 0 (.string p) rfl
    have g1 := bcel hb 1 (.slice A' n c') rfl
    have g2 := bcel hb 2 (.int .i64 u) rfl
    refine bodyPost_ret (by simp [results, Try.results38, go_sem, g0, g1, g2]; try rfl) rfl ?_
    refine ⟨A', c', rfl, ?_, ?_⟩
    · rw [hW9]
      exact own_set3 HO6.out (fun e => by have := HN.out (B + 1) e; omega)
    · rw [hW9]
      have hB := HB.out
      exact ext_set (o := 2) (ext_set (o := 1) (ext_set (o := 0) X6.out (by omega) _) (by omega) _) (by omega) _
  · have E0 := Lib.hid ((Ext.drew _).trans k1)
    have z1 := bcel (ext_blk E0.out H1.out) 1 (.slice A n c) rfl
    clear k1
    go_simp
    refine ⟨CellL.refl _ _, ?_⟩
    try simp only [Act.put, List.setIfInBounds_toArray, List.set_cons_zero, List.set_cons_succ]
    clear z1
    ((with_reducible refine tree_step ?_ ?_ ?_ (fun wk k1 => ?_)); rotate_left; (rfl); (first | exact want_none rfl | exact want_some rfl rfl rfl rfl))
    have E0' := Lib.hid (E0.out.trans k1)
    clear k1
    go_simp
    (with_reducible refine (HS.out _).mono ?_)
    rintro e wf ⟨rfl, hxf⟩
    refine ⟨(CellL_way B).ext hxf, ?_⟩
    try simp only [Act.put, List.setIfInBounds_toArray, List.set_cons_zero, List.set_cons_succ]
    have E1 := Lib.hid (E0'.out.trans hxf)
    clear hxf
    repeat first | ((with_reducible refine tree_free ?_ ?_ ?_ ?_ (fun wk k1 => ?_) ?_); rotate_left 2; (rfl); (first | exact want_none rfl | exact want_some rfl rfl rfl rfl); (go_simp; first | exact OkX.val); simp only [Act.put, List.setIfInBounds_toArray, List.set_cons_zero, List.set_cons_succ]) | ((with_reducible refine tree_skip ?_ ?_ ?_ ?_); rotate_left; (rfl); (exact want_not rfl rfl rfl rfl rfl); simp only [Act.put, List.setIfInBounds_toArray, List.set_cons_zero, List.set_cons_succ])
    ((with_reducible refine tree_step ?_ ?_ ?_ (fun wk k1 => ?_)); rotate_left; (rfl); (first | exact want_none rfl | exact want_some rfl rfl rfl rfl))
    have E2 := Lib.hid (E1.out.trans k1)
    clear k1
    go_simp
    (with_reducible refine (HC.out _ (X0.out.trans E2.out)).mono ?_)
    unfold ClonePost
    rintro e wf ⟨A', c', rfl, ho, hxf⟩
    refine ⟨(CellL_way B).ext hxf, ?_⟩
    try simp only [Act.put, List.setIfInBounds_toArray, List.set_cons_zero, List.set_cons_succ]
    have E3 := Lib.hid (E2.out.trans hxf)
    have HO := Lib.hid (own_base ho (X0.out.trans E2.out).size)
    have HN := Lib.hid (show ∀ g, (Value.slice A' n c').ownBlock = some g → B + 1 < g from fun g hg => by
      have := (ho.lt g hg).1
      have := E2.out.size
      have := (Array.getElem?_eq_some_iff.1 H2.out).1
      omega)
    clear ho hxf
    ((with_reducible refine tree_step ?_ ?_ ?_ (fun wk k1 => ?_)); rotate_left; (rfl); (first | exact want_none rfl | exact want_some rfl rfl rfl rfl))
    have E4 := Lib.hid (E3.out.trans k1)
    have HO4 := Lib.hid (own_ExtK HO.out k1)
    have hb4 := ext_blk E4.out H1.out
    have z0 := bcel hb4 0 (.string p) rfl
    have fz := bfre hb4 0
    clear k1 HO
    go_simp
    refine ⟨⟨FootL.setCell _ _ _ _ _ rfl, fun S hS => by rw [setCell_id z0]; exact hS⟩, ?_⟩
    try simp only [Act.put, List.setIfInBounds_toArray, List.set_cons_zero, List.set_cons_succ]
    rw [setCell_id z0]
    clear z0 fz hb4
    repeat first | ((with_reducible refine tree_free ?_ ?_ ?_ ?_ (fun wk k1 => ?_) ?_); rotate_left 2; (rfl); (first | exact want_none rfl | exact want_some rfl rfl rfl rfl); (go_simp; first | exact OkX.val); simp only [Act.put, List.setIfInBounds_toArray, List.set_cons_zero, List.set_cons_succ]) | ((with_reducible refine tree_skip ?_ ?_ ?_ ?_); rotate_left; (rfl); (exact want_not rfl rfl rfl rfl rfl); simp only [Act.put, List.setIfInBounds_toArray, List.set_cons_zero, List.set_cons_succ])
    ((with_reducible refine tree_step ?_ ?_ ?_ (fun wk k1 => ?_)); rotate_left; (rfl); (first | exact want_none rfl | exact want_some rfl rfl rfl rfl))
    have E5 := Lib.hid (E4.out.trans k1)
    have HO5 := Lib.hid (own_ExtK HO4.out k1)
    have hb5 := ext_blk E5.out H1.out
    have z0 := bcel hb5 1 (.slice A n c) rfl
    have fz := bfre hb5 1
    clear k1 HO4
    go_simp
    refine ⟨⟨FootL.setCell _ _ _ _ _ rfl, fun S hS => by rw [World.cell?_setCell_other _ _ _ _ (by simp)]; exact hS⟩, ?_⟩
    try simp only [Act.put, List.setIfInBounds_toArray, List.set_cons_zero, List.set_cons_succ]
    refine tree_done (fun wz k1 => ?_)
    have HB6 := Lib.hid (ext_blk k1 (bset hb5 1 (.slice A' n c')))
    have HT6 := Lib.hid (ext_blk k1 (show (wk.setCell ⟨B, 1, none⟩ (.slice A' n c')).heap[B + 1]? = some (.cells #[.string ⟨#[]⟩, .slice none 0 0, .int .i64 0] 58 (0, 0)) by rw [heap_setCell_other _ _ _ _ (by simp)]; exact ext_blk E5.out H2.out))
    have X6 := Lib.hid ((ext_set (o := 1) (X0.out.trans E5.out) HB.out (.slice A' n c')).trans k1)
    have HO6 := Lib.hid (own_ExtK (HO5.out.kept (bgrown wk B 1 (.slice A' n c')) (.inr (fun e => by have := HN.out B e; omega))) k1)
    clear k1 z0 fz hb5 HO5
    have c0 := bcel HB6.out 0 (.string p) rfl
    have c1 := bcel HB6.out 1 (.slice A' n c') rfl
    have c2 := bcel HB6.out 2 (.int .i64 u) rfl
    have d0 := bcel HT6.out 0 (.string ⟨#[]⟩) rfl
    have d1 := bcel HT6.out 1 (.slice none 0 0) rfl
    have d2 := bcel HT6.out 2 (.int .i64 0) rfl
    have fd := fun j => bfre HT6.out j
    go_wp2
    refine at_worldQ (fun W9 hW9 => ?_)
    have hb := bset3 HT6.out (.string p) (.slice A' n c') (.int .i64 u)
    rw [← hW9] at hb
    have g0 := bcel hb 0 (.string p) rfl
    have g1 := bcel hb 1 (.slice A' n c') rfl
    have g2 := bcel hb 2 (.int .i64 u) rfl
    refine bodyPost_ret (by simp [results, Try.results38, go_sem, g0, g1, g2]; try rfl) rfl ?_
    refine ⟨A', c', rfl, ?_, ?_⟩
    · rw [hW9]
      exact own_set3 HO6.out (fun e => by have := HN.out (B + 1) e; omega)
    · rw [hW9]
      have hB := HB.out
      exact ext_set (o := 2) (ext_set (o := 1) (ext_set (o := 0) X6.out (by omega) _) (by omega) _) (by omega) _
end Go.Proofs.Ytffioglbgnbieaa
