/- ConfSames: the walk (gen_same.py writes it). -/
import Derived.Test.YtigfoghkndoakaaDoorConfMk
import Derived.Test.YtigfoghkndoakaaDoorFew
import Derived.Test.YtigfoghkndoakaaDoorSameC
import Derived.Test.YtigfoghkndoakaaDoorEqCap
import Derived.Test.YtigfoghkndoakaaDoorKnown5
import Derived.Test.YtigfoghkndoakaaDoorSched4
import Derived.Test.YtigfoghkndoakaaDoorSched2
import Derived.Test.YtigfoghkndoakaaDoorFoot
import Derived.Laws.Concat
import Derived.Deep.CutRange
namespace Go.Proofs.YtigfoghkndoakaaDoor.ConfSames
open Go.RowKit

/-- Two configurations of one make, in boxes of their own. -/
def Mid (W0 : World) (nl : Nat) (ds : List QD) (s7 s8 : Value) (wx : World) : Prop := ∃ (a b : Nat) (B1 B2 : Nat) (Al1 Aq1 Al2 Aq2 : Option Addr) (cl1 cq1 cl2 cq2 : Nat) (qs1 qs2 : List QC), s7 = .pointer (some ⟨a, 0, none⟩) ∧ s8 = .pointer (some ⟨b, 0, none⟩) ∧ a ≠ b ∧ W0.heap.size ≤ a ∧ W0.heap.size ≤ b ∧
  wx.heap[a]? = some (.cells #[.slice Al1 nl cl1, .slice Aq1 ds.length cq1] 30 (0, 0)) ∧ wx.heap[b]? = some (.cells #[.slice Al2 nl cl2, .slice Aq2 ds.length cq2] 30 (0, 0)) ∧
  MkAt wx B1 (.slice Al1 nl cl1) (.slice Aq1 ds.length cq1) (labsM nl) ds qs1 ∧ MkAt wx B2 (.slice Al2 nl cl2) (.slice Aq2 ds.length cq2) (labsM nl) ds qs2 ∧ Under B2 (.slice Al1 nl cl1) (.slice Aq1 ds.length cq1) qs1 ∧ W0.heap.size ≤ B1 ∧ W0.heap.size ≤ B2 ∧ Ext W0 wx
theorem bset2s {w : World} {b : Nat} {t : TypeId} {x0 x1 : Value} (h : w.heap[b]? = some (.cells #[x0, x1] t (0, 0))) (v0 v1 : Value) : ((w.setCell ⟨b, 0, none⟩ v0).setCell ⟨b, 1, none⟩ v1).heap[b]? = some (.cells #[v0, v1] t (0, 0)) := by
  have e := bset (bset h 0 v0) 1 v1
  simp only [List.setIfInBounds_toArray, List.set_cons_zero, List.set_cons_succ] at e
  exact e
theorem grown2 (w : World) (b : Nat) (v0 v1 : Value) : w.grownBy ((w.setCell ⟨b, 0, none⟩ v0).setCell ⟨b, 1, none⟩ v1) (some b) := (bgrown w b 0 v0).trans (bgrown _ b 1 v1)
theorem ext_grownS {w w' w'' : World} {b : Nat} (h : Ext w w') (g : w'.grownBy w'' (some b)) (hb : w.heap.size ≤ b) : Ext w w'' :=
  h.trans' (grown_below g h.size (fun k hk => by injection hk with e; omega))

theorem same_at {w : World} {B1 B2 : Nat} {vl1 vl2 vq1 vq2 : Value} {l1 l2 : List Tx} {ds1 ds2 : List QD} {qs1 qs2 : List QC} (b : Bool) (h1 : MkAt w B1 vl1 vq1 l1 ds1 qs1) (h2 : MkAt w B2 vl2 vq2 l2 ds2 qs2) (hp1 : 0 < l1.length) (hp2 : 0 < l2.length) (hb : b = true ↔ (l1 = l2 ∧ ds1 = ds2)) :
    Calls Tryd.prog 8 #[.agg #[vl1, vq1], .agg #[vl2, vq2]] w (SamePost b w) := by
  obtain ⟨b', hb', hc⟩ := Same_any eqCapOk B1 B2 vl1 vl2 vq1 vq2 l1 l2 ds1 ds2 qs1 qs2 w h1.labs h2.labs hp1 hp2 h1.queues h2.queues
  have e : b' = b := by
    cases b <;> cases b' <;> simp_all
  rw [← e]
  exact hc

theorem same_no {w : World} {B1 B2 : Nat} {vl1 vl2 vq1 vq2 : Value} {l1 l2 : List Tx} {ds1 ds2 : List QD} {qs1 qs2 : List QC} (h1 : MkAt w B1 vl1 vq1 l1 ds1 qs1) (h2 : MkAt w B2 vl2 vq2 l2 ds2 qs2) (hp1 : 0 < l1.length) (hp2 : 0 < l2.length) (hne : ¬ (l1 = l2 ∧ ds1 = ds2)) :
    Calls Tryd.prog 8 #[.agg #[vl1, vq1], .agg #[vl2, vq2]] w (SamePost false w) := same_at false h1 h2 hp1 hp2 ⟨fun h => (by cases h), fun h => absurd h hne⟩

set_option maxRecDepth 100000 in
set_option maxHeartbeats 12800000 in
theorem walk (w : World) (lab : Int) (_ : (Lit.int .i64 lab).wf = true) (q : Value) (rs : List RQ) (r0 : RdRaw w q rs) (which : Int) (_ : (Lit.int .i64 which).wf = true) (spot : Int) (_ : (Lit.int .i64 spot).wf = true) :
    Calls Tryd.prog 3 #[.agg #[.int .i64 lab, q], .int .i64 which, .int .i64 spot] w fun e w' => e = .returned (.bool true) ∧ Below w.heap.size w w' := by
  have HRQ := Lib.hid r0
  obtain ⟨A, c, rfl, _⟩ := r0
  obtain ⟨nr, hnr⟩ : ∃ n, n = rs.length := ⟨_, rfl⟩
  rw [← hnr] at HRQ ⊢
  have HNR := Lib.hid hnr
  clear hnr
  go_enter Tryd.func3, Tryd.ntmps3
  go_wp2_with fail
  (with_reducible refine (known_any _).mono ?_)
  rintro e w1 ⟨rfl, hx⟩
  have X1 := Lib.hid ((ext_alloc w (.cells #[.int .i64 lab, .slice A nr c] 24)).trans hx)
  have HB1 := Lib.hid (ext_blk hx (heap_alloc_new w (.cells #[.int .i64 lab, .slice A nr c] 24)))
  obtain ⟨R, hR⟩ : ∃ R, R = w.heap.size := ⟨_, rfl⟩
  have HR := Lib.hid (show w.heap.size ≤ R by omega)
  rw [← hR] at HB1 ⊢
  clear hx hR
  have r0 := bcel HB1.out 0 (.int .i64 lab) rfl
  have r1 := bcel HB1.out 1 (.slice A nr c) rfl
  go_wp2_with fail
  (with_reducible refine (few_any lab _ rs _ (HRQ.out.ext X1.out)).mono ?_)
  unfold FewPost
  rintro e w2 ⟨b, rfl, hb, hx⟩
  have X2 := Lib.hid (X1.out.trans hx)
  have HB2 := Lib.hid (ext_blk hx HB1.out)
  clear hx r0 r1 HB1 X1
  cases b
  · clear hb
    go_wp2
    go_ret
    exact ⟨rfl, X2.out⟩
  have hl20 := hb rfl
  obtain ⟨nl, hnl⟩ : ∃ nl : Nat, (nl : Int) = 1 + lab % 3 := ⟨(1 + lab % 3).toNat, by omega⟩
  have HNL := Lib.hid (show 1 ≤ nl ∧ nl ≤ 3 by omega)
  obtain ⟨ds, hds⟩ : ∃ ds, ds = makeQ nl (rs.take 16) := ⟨_, rfl⟩
  have HMK := Lib.hid (fun W (x : Ext w2 W) => (show Calls Tryd.prog 7 #[.agg #[.int .i64 lab, .slice A nr c]] W (Mk2Post nl ds W) from hds ▸ make2_any lab _ rs nl W (HRQ.out.ext (X2.out.trans x)) hl20 hnl HNL.out.2))
  have HDS := Lib.hid hds
  clear hb hds hnl hl20
  go_upto_region 5 with fail
  go_cut [7, 8] from 15 to 18 (fun s7 s8 wx => Mid w2 nl ds s7 s8 wx)
  case first =>
    have r0 := bcel HB2.out 0 (.int .i64 lab) rfl
    have r1 := bcel HB2.out 1 (.slice A nr c) rfl
    go_wp2
    refine wp_region_bush (LBelow w2.heap.size) (LBelow_way _) (.free 0 (.free 2 (.three 1 4 5 (.three 3 4 5 (.two 4 5 (.step 5 (.step 6 (.step 7 .done))) (.step 4 (.step 6 (.step 7 .done)))) (.two 3 5 (.step 5 (.step 6 (.step 7 .done))) (.step 3 (.step 6 (.step 7 .done)))) (.two 3 4 (.step 4 (.step 6 (.step 7 .done))) (.step 3 (.step 6 (.step 7 .done))))) (.two 1 5 (.two 3 5 (.step 5 (.step 6 (.step 7 .done))) (.step 3 (.step 6 (.step 7 .done)))) (.step 1 (.step 3 (.step 6 (.step 7 .done))))) (.two 1 4 (.two 3 4 (.step 4 (.step 6 (.step 7 .done))) (.step 3 (.step 6 (.step 7 .done)))) (.step 1 (.step 3 (.step 6 (.step 7 .done)))))))) (by kernel_rfl) (by kernel_rfl) (fun _ _ _ _ _ h => h) ?_
    repeat first | ((with_reducible refine bush_free ?_ ?_ ?_ ?_ (fun wk k1 => ?_) ?_); rotate_left 2; (rfl); (first | exact want_none rfl | exact want_some rfl rfl rfl rfl); (go_simp; first | exact OkX.val | (have kk := LBelow.ext k1; have y0 := kk.cell r0; have y1 := kk.cell r1; go_simp; exact OkX.val)); simp only [Act.put, List.setIfInBounds_toArray, List.set_cons_zero, List.set_cons_succ]) | ((with_reducible refine bush_skip ?_ ?_ ?_ ?_); rotate_left; (rfl); (exact want_not rfl rfl rfl rfl rfl); simp only [Act.put, List.setIfInBounds_toArray, List.set_cons_zero, List.set_cons_succ])
    clear r0 r1
    ((with_reducible refine bush_three ?_ ?_ ?_ ?_ ?_ ?_ ?_ ?_ ?_ (fun wk k1 => ?_) (fun wk k1 => ?_) (fun wk k1 => ?_)); rotate_left 3; (rfl); (first | exact want_none rfl | exact want_some rfl rfl rfl rfl); (rfl); (first | exact want_none rfl | exact want_some rfl rfl rfl rfl); (rfl); (first | exact want_none rfl | exact want_some rfl rfl rfl rfl))
    · have EN := Lib.hid ((Ext.drew _).trans k1)
      clear k1
      go_simp
      (with_reducible refine (HMK.out _ EN.out).mono ?_)
      unfold Mk2Post
      rintro e wf1 ⟨Al1, cl1, Aq1, cq1, qs1, rfl, hm, hx⟩
      refine ⟨(LBelow_way _).ext hx, ?_⟩
      try simp only [Act.put, List.setIfInBounds_toArray, List.set_cons_zero, List.set_cons_succ]
      have E := Lib.hid (EN.out.trans hx)
      obtain ⟨B1, hB1⟩ : ∃ B, B = wk.heap.size := ⟨_, rfl⟩
      have HW1 := Lib.hid (show w2.heap.size ≤ B1 by rw [hB1]; exact EN.out.size)
      rw [← hB1] at hm
      have M1 := Lib.hid hm
      clear hm hx EN hB1
      ((with_reducible refine bush_three ?_ ?_ ?_ ?_ ?_ ?_ ?_ ?_ ?_ (fun wk k1 => ?_) (fun wk k1 => ?_) (fun wk k1 => ?_)); rotate_left 3; (rfl); (first | exact want_none rfl | exact want_some rfl rfl rfl rfl); (rfl); (first | exact want_none rfl | exact want_some rfl rfl rfl rfl); (rfl); (first | exact want_none rfl | exact want_some rfl rfl rfl rfl))
      · have EN := Lib.hid (E.out.trans k1)
        have M1' := Lib.hid (M1.out.ext k1)
        clear M1
        have M1 := Lib.hid (M1'.out)
        clear M1'
        clear E
        clear k1
        go_simp
        have HU := Lib.hid M1.out.under
        (with_reducible refine (HMK.out _ EN.out).mono ?_)
        unfold Mk2Post
        rintro e wf2 ⟨Al2, cl2, Aq2, cq2, qs2, rfl, hm, hx⟩
        refine ⟨(LBelow_way _).ext hx, ?_⟩
        try simp only [Act.put, List.setIfInBounds_toArray, List.set_cons_zero, List.set_cons_succ]
        have E := Lib.hid (EN.out.trans hx)
        have M1' := Lib.hid (M1.out.ext hx)
        clear M1
        have M1 := Lib.hid (M1'.out)
        clear M1'
        obtain ⟨B2, hB2⟩ : ∃ B, B = wk.heap.size := ⟨_, rfl⟩
        have HW2 := Lib.hid (show w2.heap.size ≤ B2 by rw [hB2]; exact EN.out.size)
        rw [← hB2] at hm
        rw [← hB2] at HU
        have M2 := Lib.hid hm
        clear hm hx EN hB2
        ((with_reducible refine bush_two ?_ ?_ ?_ ?_ ?_ ?_ (fun wk k1 => ?_) (fun wk k1 => ?_)); rotate_left 2; (rfl); (first | exact want_none rfl | exact want_some rfl rfl rfl rfl); (rfl); (first | exact want_none rfl | exact want_some rfl rfl rfl rfl))
        · have EN := Lib.hid (E.out.trans k1)
          have M1' := Lib.hid (M1.out.ext k1)
          clear M1
          have M1 := Lib.hid (M1'.out)
          clear M1'
          have M2' := Lib.hid (M2.out.ext k1)
          clear M2
          have M2 := Lib.hid (M2'.out)
          clear M2'
          clear E
          clear k1
          go_simp
          refine ⟨(LBelow_way _).ext (ext_alloc _ _), ?_⟩
          try simp only [Act.put, List.setIfInBounds_toArray, List.set_cons_zero, List.set_cons_succ]
          have HA := Lib.hid (heap_alloc_new wk (.cells #[.slice none 0 0, .slice none 0 0] 30 (0, 0)))
          have hx := ext_alloc wk (.cells #[.slice none 0 0, .slice none 0 0] 30 (0, 0))
          have E := Lib.hid (EN.out.trans hx)
          have M1' := Lib.hid (M1.out.ext hx)
          clear M1
          have M1 := Lib.hid (M1'.out)
          clear M1'
          have M2' := Lib.hid (M2.out.ext hx)
          clear M2
          have M2 := Lib.hid (M2'.out)
          clear M2'
          obtain ⟨a, ha⟩ : ∃ x, x = wk.heap.size := ⟨_, rfl⟩
          have HWa := Lib.hid (show w2.heap.size ≤ a by rw [ha]; exact EN.out.size)
          rw [← ha] at HA ⊢
          clear hx EN ha
          ((with_reducible refine bush_step ?_ ?_ ?_ (fun wk k1 => ?_)); rotate_left; (rfl); (first | exact want_none rfl | exact want_some rfl rfl rfl rfl))
          have EN := Lib.hid (E.out.trans k1)
          have M1' := Lib.hid (M1.out.ext k1)
          clear M1
          have M1 := Lib.hid (M1'.out)
          clear M1'
          have M2' := Lib.hid (M2.out.ext k1)
          clear M2
          have M2 := Lib.hid (M2'.out)
          clear M2'
          have HA' := Lib.hid (ext_blk k1 HA.out)
          clear HA
          have HA := Lib.hid (HA'.out)
          clear HA'
          clear E
          clear k1
          go_simp
          have hab := (Array.getElem?_eq_some_iff.1 HA.out).1
          refine ⟨(LBelow_way _).ext (ext_alloc _ _), ?_⟩
          try simp only [Act.put, List.setIfInBounds_toArray, List.set_cons_zero, List.set_cons_succ]
          have HBB := Lib.hid (heap_alloc_new wk (.cells #[.slice none 0 0, .slice none 0 0] 30 (0, 0)))
          have hx := ext_alloc wk (.cells #[.slice none 0 0, .slice none 0 0] 30 (0, 0))
          have E := Lib.hid (EN.out.trans hx)
          have M1' := Lib.hid (M1.out.ext hx)
          clear M1
          have M1 := Lib.hid (M1'.out)
          clear M1'
          have M2' := Lib.hid (M2.out.ext hx)
          clear M2
          have M2 := Lib.hid (M2'.out)
          clear M2'
          have HA' := Lib.hid (ext_blk hx HA.out)
          clear HA
          have HA := Lib.hid (HA'.out)
          clear HA'
          obtain ⟨b, hb⟩ : ∃ x, x = wk.heap.size := ⟨_, rfl⟩
          have HWb := Lib.hid (show w2.heap.size ≤ b by rw [hb]; exact EN.out.size)
          have HAB := Lib.hid (show a ≠ b from fun e => by omega)
          clear hab
          rw [← hb] at HBB ⊢
          clear hx EN hb
          ((with_reducible refine bush_step ?_ ?_ ?_ (fun wk k1 => ?_)); rotate_left; (rfl); (first | exact want_none rfl | exact want_some rfl rfl rfl rfl))
          have M1' := Lib.hid (M1.out.ext k1)
          have M2' := Lib.hid (M2.out.ext k1)
          have EN := Lib.hid (E.out.trans k1)
          have ha := ext_blk k1 HA.out
          have hb := Lib.hid (ext_blk k1 HBB.out)
          clear k1 M1 M2 HA HBB E
          have d0 := bcel ha 0 (.slice none 0 0) rfl
          have d1 := bcel ha 1 (.slice none 0 0) rfl
          have fd := fun j => bfre ha j
          go_simp
          have hgr := grown2 wk a (.slice Al1 nl cl1) (.slice Aq1 ds.length cq1)
          refine ⟨fun _ => grown_below hgr EN.out.size (fun k hk => by injection hk with hk; have := HWa.out; omega), ?_⟩
          try simp only [Act.put, List.setIfInBounds_toArray, List.set_cons_zero, List.set_cons_succ]
          have hb6 := bset2s ha (.slice Al1 nl cl1) (.slice Aq1 ds.length cq1)
          obtain ⟨W6, hW6⟩ : ∃ W6, W6 = ((wk.setCell ⟨a, 0, none⟩ (.slice Al1 nl cl1)).setCell ⟨a, 1, none⟩ (.slice Aq1 ds.length cq1)) := ⟨_, rfl⟩
          rw [← hW6] at hgr hb6 ⊢
          have HA6 := Lib.hid hb6
          have HB6 := Lib.hid (show W6.heap[b]? = some (.cells #[.slice none 0 0, .slice none 0 0] 30 (0, 0)) from (hgr.block b (Array.getElem?_eq_some_iff.1 hb.out).1 (fun e => by injection e with e; exact HAB.out e.symm)).trans hb.out)
          have M16 := Lib.hid (M1'.out.turn hgr ha)
          have M26 := Lib.hid (M2'.out.turn hgr ha)
          have E6 := Lib.hid (ext_grownS EN.out hgr HWa.out)
          clear hW6 hgr hb6 ha d0 d1 fd M1' M2' EN hb
          ((with_reducible refine bush_step ?_ ?_ ?_ (fun wk k1 => ?_)); rotate_left; (rfl); (first | exact want_none rfl | exact want_some rfl rfl rfl rfl))
          have M1' := Lib.hid (M16.out.ext k1)
          have M2' := Lib.hid (M26.out.ext k1)
          have EN := Lib.hid (E6.out.trans k1)
          have hb := ext_blk k1 HB6.out
          have ha := Lib.hid (ext_blk k1 HA6.out)
          clear k1 M16 M26 HA6 HB6 E6
          have d0 := bcel hb 0 (.slice none 0 0) rfl
          have d1 := bcel hb 1 (.slice none 0 0) rfl
          have fd := fun j => bfre hb j
          go_simp
          have hgr := grown2 wk b (.slice Al2 nl cl2) (.slice Aq2 ds.length cq2)
          refine ⟨fun _ => grown_below hgr EN.out.size (fun k hk => by injection hk with hk; have := HWb.out; omega), ?_⟩
          try simp only [Act.put, List.setIfInBounds_toArray, List.set_cons_zero, List.set_cons_succ]
          have hb7 := bset2s hb (.slice Al2 nl cl2) (.slice Aq2 ds.length cq2)
          obtain ⟨W7, hW7⟩ : ∃ W7, W7 = ((wk.setCell ⟨b, 0, none⟩ (.slice Al2 nl cl2)).setCell ⟨b, 1, none⟩ (.slice Aq2 ds.length cq2)) := ⟨_, rfl⟩
          rw [← hW7] at hgr hb7 ⊢
          refine bush_done (fun wz k1 => ?_)
          have hfin := Lib.hid (show Mid w2 nl ds (.pointer (some ⟨a, 0, none⟩)) (.pointer (some ⟨b, 0, none⟩)) wz from
            ⟨a, b, B1, B2, Al1, Aq1, Al2, Aq2, cl1, cq1, cl2, cq2, qs1, qs2, rfl, rfl, HAB.out, HWa.out, HWb.out,
              ext_blk k1 ((hgr.block a (Array.getElem?_eq_some_iff.1 ha.out).1 (fun e => by injection e with e; exact HAB.out e)).trans ha.out), ext_blk k1 hb7,
              (M1'.out.turn hgr hb).ext k1, (M2'.out.turn hgr hb).ext k1, HU.out, HW1.out, HW2.out, (ext_grownS EN.out hgr HWb.out).trans k1⟩)
          clear k1 hW7 hgr hb7 hb d0 d1 fd
          go_wp2
          go_meet
          case rel => exact hfin.out
        · have EN := Lib.hid (E.out.trans k1)
          have M1' := Lib.hid (M1.out.ext k1)
          clear M1
          have M1 := Lib.hid (M1'.out)
          clear M1'
          have M2' := Lib.hid (M2.out.ext k1)
          clear M2
          have M2 := Lib.hid (M2'.out)
          clear M2'
          clear E
          clear k1
          go_simp
          refine ⟨(LBelow_way _).ext (ext_alloc _ _), ?_⟩
          try simp only [Act.put, List.setIfInBounds_toArray, List.set_cons_zero, List.set_cons_succ]
          have HBB := Lib.hid (heap_alloc_new wk (.cells #[.slice none 0 0, .slice none 0 0] 30 (0, 0)))
          have hx := ext_alloc wk (.cells #[.slice none 0 0, .slice none 0 0] 30 (0, 0))
          have E := Lib.hid (EN.out.trans hx)
          have M1' := Lib.hid (M1.out.ext hx)
          clear M1
          have M1 := Lib.hid (M1'.out)
          clear M1'
          have M2' := Lib.hid (M2.out.ext hx)
          clear M2
          have M2 := Lib.hid (M2'.out)
          clear M2'
          obtain ⟨b, hb⟩ : ∃ x, x = wk.heap.size := ⟨_, rfl⟩
          have HWb := Lib.hid (show w2.heap.size ≤ b by rw [hb]; exact EN.out.size)
          rw [← hb] at HBB ⊢
          clear hx EN hb
          ((with_reducible refine bush_step ?_ ?_ ?_ (fun wk k1 => ?_)); rotate_left; (rfl); (first | exact want_none rfl | exact want_some rfl rfl rfl rfl))
          have EN := Lib.hid (E.out.trans k1)
          have M1' := Lib.hid (M1.out.ext k1)
          clear M1
          have M1 := Lib.hid (M1'.out)
          clear M1'
          have M2' := Lib.hid (M2.out.ext k1)
          clear M2
          have M2 := Lib.hid (M2'.out)
          clear M2'
          have HBB' := Lib.hid (ext_blk k1 HBB.out)
          clear HBB
          have HBB := Lib.hid (HBB'.out)
          clear HBB'
          clear E
          clear k1
          go_simp
          have hab := (Array.getElem?_eq_some_iff.1 HBB.out).1
          refine ⟨(LBelow_way _).ext (ext_alloc _ _), ?_⟩
          try simp only [Act.put, List.setIfInBounds_toArray, List.set_cons_zero, List.set_cons_succ]
          have HA := Lib.hid (heap_alloc_new wk (.cells #[.slice none 0 0, .slice none 0 0] 30 (0, 0)))
          have hx := ext_alloc wk (.cells #[.slice none 0 0, .slice none 0 0] 30 (0, 0))
          have E := Lib.hid (EN.out.trans hx)
          have M1' := Lib.hid (M1.out.ext hx)
          clear M1
          have M1 := Lib.hid (M1'.out)
          clear M1'
          have M2' := Lib.hid (M2.out.ext hx)
          clear M2
          have M2 := Lib.hid (M2'.out)
          clear M2'
          have HBB' := Lib.hid (ext_blk hx HBB.out)
          clear HBB
          have HBB := Lib.hid (HBB'.out)
          clear HBB'
          obtain ⟨a, ha⟩ : ∃ x, x = wk.heap.size := ⟨_, rfl⟩
          have HWa := Lib.hid (show w2.heap.size ≤ a by rw [ha]; exact EN.out.size)
          have HAB := Lib.hid (show a ≠ b from fun e => by omega)
          clear hab
          rw [← ha] at HA ⊢
          clear hx EN ha
          ((with_reducible refine bush_step ?_ ?_ ?_ (fun wk k1 => ?_)); rotate_left; (rfl); (first | exact want_none rfl | exact want_some rfl rfl rfl rfl))
          have M1' := Lib.hid (M1.out.ext k1)
          have M2' := Lib.hid (M2.out.ext k1)
          have EN := Lib.hid (E.out.trans k1)
          have ha := ext_blk k1 HA.out
          have hb := Lib.hid (ext_blk k1 HBB.out)
          clear k1 M1 M2 HA HBB E
          have d0 := bcel ha 0 (.slice none 0 0) rfl
          have d1 := bcel ha 1 (.slice none 0 0) rfl
          have fd := fun j => bfre ha j
          go_simp
          have hgr := grown2 wk a (.slice Al1 nl cl1) (.slice Aq1 ds.length cq1)
          refine ⟨fun _ => grown_below hgr EN.out.size (fun k hk => by injection hk with hk; have := HWa.out; omega), ?_⟩
          try simp only [Act.put, List.setIfInBounds_toArray, List.set_cons_zero, List.set_cons_succ]
          have hb6 := bset2s ha (.slice Al1 nl cl1) (.slice Aq1 ds.length cq1)
          obtain ⟨W6, hW6⟩ : ∃ W6, W6 = ((wk.setCell ⟨a, 0, none⟩ (.slice Al1 nl cl1)).setCell ⟨a, 1, none⟩ (.slice Aq1 ds.length cq1)) := ⟨_, rfl⟩
          rw [← hW6] at hgr hb6 ⊢
          have HA6 := Lib.hid hb6
          have HB6 := Lib.hid (show W6.heap[b]? = some (.cells #[.slice none 0 0, .slice none 0 0] 30 (0, 0)) from (hgr.block b (Array.getElem?_eq_some_iff.1 hb.out).1 (fun e => by injection e with e; exact HAB.out e.symm)).trans hb.out)
          have M16 := Lib.hid (M1'.out.turn hgr ha)
          have M26 := Lib.hid (M2'.out.turn hgr ha)
          have E6 := Lib.hid (ext_grownS EN.out hgr HWa.out)
          clear hW6 hgr hb6 ha d0 d1 fd M1' M2' EN hb
          ((with_reducible refine bush_step ?_ ?_ ?_ (fun wk k1 => ?_)); rotate_left; (rfl); (first | exact want_none rfl | exact want_some rfl rfl rfl rfl))
          have M1' := Lib.hid (M16.out.ext k1)
          have M2' := Lib.hid (M26.out.ext k1)
          have EN := Lib.hid (E6.out.trans k1)
          have hb := ext_blk k1 HB6.out
          have ha := Lib.hid (ext_blk k1 HA6.out)
          clear k1 M16 M26 HA6 HB6 E6
          have d0 := bcel hb 0 (.slice none 0 0) rfl
          have d1 := bcel hb 1 (.slice none 0 0) rfl
          have fd := fun j => bfre hb j
          go_simp
          have hgr := grown2 wk b (.slice Al2 nl cl2) (.slice Aq2 ds.length cq2)
          refine ⟨fun _ => grown_below hgr EN.out.size (fun k hk => by injection hk with hk; have := HWb.out; omega), ?_⟩
          try simp only [Act.put, List.setIfInBounds_toArray, List.set_cons_zero, List.set_cons_succ]
          have hb7 := bset2s hb (.slice Al2 nl cl2) (.slice Aq2 ds.length cq2)
          obtain ⟨W7, hW7⟩ : ∃ W7, W7 = ((wk.setCell ⟨b, 0, none⟩ (.slice Al2 nl cl2)).setCell ⟨b, 1, none⟩ (.slice Aq2 ds.length cq2)) := ⟨_, rfl⟩
          rw [← hW7] at hgr hb7 ⊢
          refine bush_done (fun wz k1 => ?_)
          have hfin := Lib.hid (show Mid w2 nl ds (.pointer (some ⟨a, 0, none⟩)) (.pointer (some ⟨b, 0, none⟩)) wz from
            ⟨a, b, B1, B2, Al1, Aq1, Al2, Aq2, cl1, cq1, cl2, cq2, qs1, qs2, rfl, rfl, HAB.out, HWa.out, HWb.out,
              ext_blk k1 ((hgr.block a (Array.getElem?_eq_some_iff.1 ha.out).1 (fun e => by injection e with e; exact HAB.out e)).trans ha.out), ext_blk k1 hb7,
              (M1'.out.turn hgr hb).ext k1, (M2'.out.turn hgr hb).ext k1, HU.out, HW1.out, HW2.out, (ext_grownS EN.out hgr HWb.out).trans k1⟩)
          clear k1 hW7 hgr hb7 hb d0 d1 fd
          go_wp2
          go_meet
          case rel => exact hfin.out
      · have EN := Lib.hid (E.out.trans k1)
        have M1' := Lib.hid (M1.out.ext k1)
        clear M1
        have M1 := Lib.hid (M1'.out)
        clear M1'
        clear E
        clear k1
        go_simp
        refine ⟨(LBelow_way _).ext (ext_alloc _ _), ?_⟩
        try simp only [Act.put, List.setIfInBounds_toArray, List.set_cons_zero, List.set_cons_succ]
        have HA := Lib.hid (heap_alloc_new wk (.cells #[.slice none 0 0, .slice none 0 0] 30 (0, 0)))
        have hx := ext_alloc wk (.cells #[.slice none 0 0, .slice none 0 0] 30 (0, 0))
        have E := Lib.hid (EN.out.trans hx)
        have M1' := Lib.hid (M1.out.ext hx)
        clear M1
        have M1 := Lib.hid (M1'.out)
        clear M1'
        obtain ⟨a, ha⟩ : ∃ x, x = wk.heap.size := ⟨_, rfl⟩
        have HWa := Lib.hid (show w2.heap.size ≤ a by rw [ha]; exact EN.out.size)
        rw [← ha] at HA ⊢
        clear hx EN ha
        ((with_reducible refine bush_two ?_ ?_ ?_ ?_ ?_ ?_ (fun wk k1 => ?_) (fun wk k1 => ?_)); rotate_left 2; (rfl); (first | exact want_none rfl | exact want_some rfl rfl rfl rfl); (rfl); (first | exact want_none rfl | exact want_some rfl rfl rfl rfl))
        · have EN := Lib.hid (E.out.trans k1)
          have M1' := Lib.hid (M1.out.ext k1)
          clear M1
          have M1 := Lib.hid (M1'.out)
          clear M1'
          have HA' := Lib.hid (ext_blk k1 HA.out)
          clear HA
          have HA := Lib.hid (HA'.out)
          clear HA'
          clear E
          clear k1
          go_simp
          have HU := Lib.hid M1.out.under
          (with_reducible refine (HMK.out _ EN.out).mono ?_)
          unfold Mk2Post
          rintro e wf2 ⟨Al2, cl2, Aq2, cq2, qs2, rfl, hm, hx⟩
          refine ⟨(LBelow_way _).ext hx, ?_⟩
          try simp only [Act.put, List.setIfInBounds_toArray, List.set_cons_zero, List.set_cons_succ]
          have E := Lib.hid (EN.out.trans hx)
          have M1' := Lib.hid (M1.out.ext hx)
          clear M1
          have M1 := Lib.hid (M1'.out)
          clear M1'
          have HA' := Lib.hid (ext_blk hx HA.out)
          clear HA
          have HA := Lib.hid (HA'.out)
          clear HA'
          obtain ⟨B2, hB2⟩ : ∃ B, B = wk.heap.size := ⟨_, rfl⟩
          have HW2 := Lib.hid (show w2.heap.size ≤ B2 by rw [hB2]; exact EN.out.size)
          rw [← hB2] at hm
          rw [← hB2] at HU
          have M2 := Lib.hid hm
          clear hm hx EN hB2
          ((with_reducible refine bush_step ?_ ?_ ?_ (fun wk k1 => ?_)); rotate_left; (rfl); (first | exact want_none rfl | exact want_some rfl rfl rfl rfl))
          have EN := Lib.hid (E.out.trans k1)
          have M1' := Lib.hid (M1.out.ext k1)
          clear M1
          have M1 := Lib.hid (M1'.out)
          clear M1'
          have M2' := Lib.hid (M2.out.ext k1)
          clear M2
          have M2 := Lib.hid (M2'.out)
          clear M2'
          have HA' := Lib.hid (ext_blk k1 HA.out)
          clear HA
          have HA := Lib.hid (HA'.out)
          clear HA'
          clear E
          clear k1
          go_simp
          have hab := (Array.getElem?_eq_some_iff.1 HA.out).1
          refine ⟨(LBelow_way _).ext (ext_alloc _ _), ?_⟩
          try simp only [Act.put, List.setIfInBounds_toArray, List.set_cons_zero, List.set_cons_succ]
          have HBB := Lib.hid (heap_alloc_new wk (.cells #[.slice none 0 0, .slice none 0 0] 30 (0, 0)))
          have hx := ext_alloc wk (.cells #[.slice none 0 0, .slice none 0 0] 30 (0, 0))
          have E := Lib.hid (EN.out.trans hx)
          have M1' := Lib.hid (M1.out.ext hx)
          clear M1
          have M1 := Lib.hid (M1'.out)
          clear M1'
          have M2' := Lib.hid (M2.out.ext hx)
          clear M2
          have M2 := Lib.hid (M2'.out)
          clear M2'
          have HA' := Lib.hid (ext_blk hx HA.out)
          clear HA
          have HA := Lib.hid (HA'.out)
          clear HA'
          obtain ⟨b, hb⟩ : ∃ x, x = wk.heap.size := ⟨_, rfl⟩
          have HWb := Lib.hid (show w2.heap.size ≤ b by rw [hb]; exact EN.out.size)
          have HAB := Lib.hid (show a ≠ b from fun e => by omega)
          clear hab
          rw [← hb] at HBB ⊢
          clear hx EN hb
          ((with_reducible refine bush_step ?_ ?_ ?_ (fun wk k1 => ?_)); rotate_left; (rfl); (first | exact want_none rfl | exact want_some rfl rfl rfl rfl))
          have M1' := Lib.hid (M1.out.ext k1)
          have M2' := Lib.hid (M2.out.ext k1)
          have EN := Lib.hid (E.out.trans k1)
          have ha := ext_blk k1 HA.out
          have hb := Lib.hid (ext_blk k1 HBB.out)
          clear k1 M1 M2 HA HBB E
          have d0 := bcel ha 0 (.slice none 0 0) rfl
          have d1 := bcel ha 1 (.slice none 0 0) rfl
          have fd := fun j => bfre ha j
          go_simp
          have hgr := grown2 wk a (.slice Al1 nl cl1) (.slice Aq1 ds.length cq1)
          refine ⟨fun _ => grown_below hgr EN.out.size (fun k hk => by injection hk with hk; have := HWa.out; omega), ?_⟩
          try simp only [Act.put, List.setIfInBounds_toArray, List.set_cons_zero, List.set_cons_succ]
          have hb6 := bset2s ha (.slice Al1 nl cl1) (.slice Aq1 ds.length cq1)
          obtain ⟨W6, hW6⟩ : ∃ W6, W6 = ((wk.setCell ⟨a, 0, none⟩ (.slice Al1 nl cl1)).setCell ⟨a, 1, none⟩ (.slice Aq1 ds.length cq1)) := ⟨_, rfl⟩
          rw [← hW6] at hgr hb6 ⊢
          have HA6 := Lib.hid hb6
          have HB6 := Lib.hid (show W6.heap[b]? = some (.cells #[.slice none 0 0, .slice none 0 0] 30 (0, 0)) from (hgr.block b (Array.getElem?_eq_some_iff.1 hb.out).1 (fun e => by injection e with e; exact HAB.out e.symm)).trans hb.out)
          have M16 := Lib.hid (M1'.out.turn hgr ha)
          have M26 := Lib.hid (M2'.out.turn hgr ha)
          have E6 := Lib.hid (ext_grownS EN.out hgr HWa.out)
          clear hW6 hgr hb6 ha d0 d1 fd M1' M2' EN hb
          ((with_reducible refine bush_step ?_ ?_ ?_ (fun wk k1 => ?_)); rotate_left; (rfl); (first | exact want_none rfl | exact want_some rfl rfl rfl rfl))
          have M1' := Lib.hid (M16.out.ext k1)
          have M2' := Lib.hid (M26.out.ext k1)
          have EN := Lib.hid (E6.out.trans k1)
          have hb := ext_blk k1 HB6.out
          have ha := Lib.hid (ext_blk k1 HA6.out)
          clear k1 M16 M26 HA6 HB6 E6
          have d0 := bcel hb 0 (.slice none 0 0) rfl
          have d1 := bcel hb 1 (.slice none 0 0) rfl
          have fd := fun j => bfre hb j
          go_simp
          have hgr := grown2 wk b (.slice Al2 nl cl2) (.slice Aq2 ds.length cq2)
          refine ⟨fun _ => grown_below hgr EN.out.size (fun k hk => by injection hk with hk; have := HWb.out; omega), ?_⟩
          try simp only [Act.put, List.setIfInBounds_toArray, List.set_cons_zero, List.set_cons_succ]
          have hb7 := bset2s hb (.slice Al2 nl cl2) (.slice Aq2 ds.length cq2)
          obtain ⟨W7, hW7⟩ : ∃ W7, W7 = ((wk.setCell ⟨b, 0, none⟩ (.slice Al2 nl cl2)).setCell ⟨b, 1, none⟩ (.slice Aq2 ds.length cq2)) := ⟨_, rfl⟩
          rw [← hW7] at hgr hb7 ⊢
          refine bush_done (fun wz k1 => ?_)
          have hfin := Lib.hid (show Mid w2 nl ds (.pointer (some ⟨a, 0, none⟩)) (.pointer (some ⟨b, 0, none⟩)) wz from
            ⟨a, b, B1, B2, Al1, Aq1, Al2, Aq2, cl1, cq1, cl2, cq2, qs1, qs2, rfl, rfl, HAB.out, HWa.out, HWb.out,
              ext_blk k1 ((hgr.block a (Array.getElem?_eq_some_iff.1 ha.out).1 (fun e => by injection e with e; exact HAB.out e)).trans ha.out), ext_blk k1 hb7,
              (M1'.out.turn hgr hb).ext k1, (M2'.out.turn hgr hb).ext k1, HU.out, HW1.out, HW2.out, (ext_grownS EN.out hgr HWb.out).trans k1⟩)
          clear k1 hW7 hgr hb7 hb d0 d1 fd
          go_wp2
          go_meet
          case rel => exact hfin.out
        · have EN := Lib.hid (E.out.trans k1)
          have M1' := Lib.hid (M1.out.ext k1)
          clear M1
          have M1 := Lib.hid (M1'.out)
          clear M1'
          have HA' := Lib.hid (ext_blk k1 HA.out)
          clear HA
          have HA := Lib.hid (HA'.out)
          clear HA'
          clear E
          clear k1
          go_simp
          have hab := (Array.getElem?_eq_some_iff.1 HA.out).1
          refine ⟨(LBelow_way _).ext (ext_alloc _ _), ?_⟩
          try simp only [Act.put, List.setIfInBounds_toArray, List.set_cons_zero, List.set_cons_succ]
          have HBB := Lib.hid (heap_alloc_new wk (.cells #[.slice none 0 0, .slice none 0 0] 30 (0, 0)))
          have hx := ext_alloc wk (.cells #[.slice none 0 0, .slice none 0 0] 30 (0, 0))
          have E := Lib.hid (EN.out.trans hx)
          have M1' := Lib.hid (M1.out.ext hx)
          clear M1
          have M1 := Lib.hid (M1'.out)
          clear M1'
          have HA' := Lib.hid (ext_blk hx HA.out)
          clear HA
          have HA := Lib.hid (HA'.out)
          clear HA'
          obtain ⟨b, hb⟩ : ∃ x, x = wk.heap.size := ⟨_, rfl⟩
          have HWb := Lib.hid (show w2.heap.size ≤ b by rw [hb]; exact EN.out.size)
          have HAB := Lib.hid (show a ≠ b from fun e => by omega)
          clear hab
          rw [← hb] at HBB ⊢
          clear hx EN hb
          ((with_reducible refine bush_step ?_ ?_ ?_ (fun wk k1 => ?_)); rotate_left; (rfl); (first | exact want_none rfl | exact want_some rfl rfl rfl rfl))
          have EN := Lib.hid (E.out.trans k1)
          have M1' := Lib.hid (M1.out.ext k1)
          clear M1
          have M1 := Lib.hid (M1'.out)
          clear M1'
          have HA' := Lib.hid (ext_blk k1 HA.out)
          clear HA
          have HA := Lib.hid (HA'.out)
          clear HA'
          have HBB' := Lib.hid (ext_blk k1 HBB.out)
          clear HBB
          have HBB := Lib.hid (HBB'.out)
          clear HBB'
          clear E
          clear k1
          go_simp
          have HU := Lib.hid M1.out.under
          (with_reducible refine (HMK.out _ EN.out).mono ?_)
          unfold Mk2Post
          rintro e wf2 ⟨Al2, cl2, Aq2, cq2, qs2, rfl, hm, hx⟩
          refine ⟨(LBelow_way _).ext hx, ?_⟩
          try simp only [Act.put, List.setIfInBounds_toArray, List.set_cons_zero, List.set_cons_succ]
          have E := Lib.hid (EN.out.trans hx)
          have M1' := Lib.hid (M1.out.ext hx)
          clear M1
          have M1 := Lib.hid (M1'.out)
          clear M1'
          have HA' := Lib.hid (ext_blk hx HA.out)
          clear HA
          have HA := Lib.hid (HA'.out)
          clear HA'
          have HBB' := Lib.hid (ext_blk hx HBB.out)
          clear HBB
          have HBB := Lib.hid (HBB'.out)
          clear HBB'
          obtain ⟨B2, hB2⟩ : ∃ B, B = wk.heap.size := ⟨_, rfl⟩
          have HW2 := Lib.hid (show w2.heap.size ≤ B2 by rw [hB2]; exact EN.out.size)
          rw [← hB2] at hm
          rw [← hB2] at HU
          have M2 := Lib.hid hm
          clear hm hx EN hB2
          ((with_reducible refine bush_step ?_ ?_ ?_ (fun wk k1 => ?_)); rotate_left; (rfl); (first | exact want_none rfl | exact want_some rfl rfl rfl rfl))
          have M1' := Lib.hid (M1.out.ext k1)
          have M2' := Lib.hid (M2.out.ext k1)
          have EN := Lib.hid (E.out.trans k1)
          have ha := ext_blk k1 HA.out
          have hb := Lib.hid (ext_blk k1 HBB.out)
          clear k1 M1 M2 HA HBB E
          have d0 := bcel ha 0 (.slice none 0 0) rfl
          have d1 := bcel ha 1 (.slice none 0 0) rfl
          have fd := fun j => bfre ha j
          go_simp
          have hgr := grown2 wk a (.slice Al1 nl cl1) (.slice Aq1 ds.length cq1)
          refine ⟨fun _ => grown_below hgr EN.out.size (fun k hk => by injection hk with hk; have := HWa.out; omega), ?_⟩
          try simp only [Act.put, List.setIfInBounds_toArray, List.set_cons_zero, List.set_cons_succ]
          have hb6 := bset2s ha (.slice Al1 nl cl1) (.slice Aq1 ds.length cq1)
          obtain ⟨W6, hW6⟩ : ∃ W6, W6 = ((wk.setCell ⟨a, 0, none⟩ (.slice Al1 nl cl1)).setCell ⟨a, 1, none⟩ (.slice Aq1 ds.length cq1)) := ⟨_, rfl⟩
          rw [← hW6] at hgr hb6 ⊢
          have HA6 := Lib.hid hb6
          have HB6 := Lib.hid (show W6.heap[b]? = some (.cells #[.slice none 0 0, .slice none 0 0] 30 (0, 0)) from (hgr.block b (Array.getElem?_eq_some_iff.1 hb.out).1 (fun e => by injection e with e; exact HAB.out e.symm)).trans hb.out)
          have M16 := Lib.hid (M1'.out.turn hgr ha)
          have M26 := Lib.hid (M2'.out.turn hgr ha)
          have E6 := Lib.hid (ext_grownS EN.out hgr HWa.out)
          clear hW6 hgr hb6 ha d0 d1 fd M1' M2' EN hb
          ((with_reducible refine bush_step ?_ ?_ ?_ (fun wk k1 => ?_)); rotate_left; (rfl); (first | exact want_none rfl | exact want_some rfl rfl rfl rfl))
          have M1' := Lib.hid (M16.out.ext k1)
          have M2' := Lib.hid (M26.out.ext k1)
          have EN := Lib.hid (E6.out.trans k1)
          have hb := ext_blk k1 HB6.out
          have ha := Lib.hid (ext_blk k1 HA6.out)
          clear k1 M16 M26 HA6 HB6 E6
          have d0 := bcel hb 0 (.slice none 0 0) rfl
          have d1 := bcel hb 1 (.slice none 0 0) rfl
          have fd := fun j => bfre hb j
          go_simp
          have hgr := grown2 wk b (.slice Al2 nl cl2) (.slice Aq2 ds.length cq2)
          refine ⟨fun _ => grown_below hgr EN.out.size (fun k hk => by injection hk with hk; have := HWb.out; omega), ?_⟩
          try simp only [Act.put, List.setIfInBounds_toArray, List.set_cons_zero, List.set_cons_succ]
          have hb7 := bset2s hb (.slice Al2 nl cl2) (.slice Aq2 ds.length cq2)
          obtain ⟨W7, hW7⟩ : ∃ W7, W7 = ((wk.setCell ⟨b, 0, none⟩ (.slice Al2 nl cl2)).setCell ⟨b, 1, none⟩ (.slice Aq2 ds.length cq2)) := ⟨_, rfl⟩
          rw [← hW7] at hgr hb7 ⊢
          refine bush_done (fun wz k1 => ?_)
          have hfin := Lib.hid (show Mid w2 nl ds (.pointer (some ⟨a, 0, none⟩)) (.pointer (some ⟨b, 0, none⟩)) wz from
            ⟨a, b, B1, B2, Al1, Aq1, Al2, Aq2, cl1, cq1, cl2, cq2, qs1, qs2, rfl, rfl, HAB.out, HWa.out, HWb.out,
              ext_blk k1 ((hgr.block a (Array.getElem?_eq_some_iff.1 ha.out).1 (fun e => by injection e with e; exact HAB.out e)).trans ha.out), ext_blk k1 hb7,
              (M1'.out.turn hgr hb).ext k1, (M2'.out.turn hgr hb).ext k1, HU.out, HW1.out, HW2.out, (ext_grownS EN.out hgr HWb.out).trans k1⟩)
          clear k1 hW7 hgr hb7 hb d0 d1 fd
          go_wp2
          go_meet
          case rel => exact hfin.out
      · have EN := Lib.hid (E.out.trans k1)
        have M1' := Lib.hid (M1.out.ext k1)
        clear M1
        have M1 := Lib.hid (M1'.out)
        clear M1'
        clear E
        clear k1
        go_simp
        refine ⟨(LBelow_way _).ext (ext_alloc _ _), ?_⟩
        try simp only [Act.put, List.setIfInBounds_toArray, List.set_cons_zero, List.set_cons_succ]
        have HBB := Lib.hid (heap_alloc_new wk (.cells #[.slice none 0 0, .slice none 0 0] 30 (0, 0)))
        have hx := ext_alloc wk (.cells #[.slice none 0 0, .slice none 0 0] 30 (0, 0))
        have E := Lib.hid (EN.out.trans hx)
        have M1' := Lib.hid (M1.out.ext hx)
        clear M1
        have M1 := Lib.hid (M1'.out)
        clear M1'
        obtain ⟨b, hb⟩ : ∃ x, x = wk.heap.size := ⟨_, rfl⟩
        have HWb := Lib.hid (show w2.heap.size ≤ b by rw [hb]; exact EN.out.size)
        rw [← hb] at HBB ⊢
        clear hx EN hb
        ((with_reducible refine bush_two ?_ ?_ ?_ ?_ ?_ ?_ (fun wk k1 => ?_) (fun wk k1 => ?_)); rotate_left 2; (rfl); (first | exact want_none rfl | exact want_some rfl rfl rfl rfl); (rfl); (first | exact want_none rfl | exact want_some rfl rfl rfl rfl))
        · have EN := Lib.hid (E.out.trans k1)
          have M1' := Lib.hid (M1.out.ext k1)
          clear M1
          have M1 := Lib.hid (M1'.out)
          clear M1'
          have HBB' := Lib.hid (ext_blk k1 HBB.out)
          clear HBB
          have HBB := Lib.hid (HBB'.out)
          clear HBB'
          clear E
          clear k1
          go_simp
          have HU := Lib.hid M1.out.under
          (with_reducible refine (HMK.out _ EN.out).mono ?_)
          unfold Mk2Post
          rintro e wf2 ⟨Al2, cl2, Aq2, cq2, qs2, rfl, hm, hx⟩
          refine ⟨(LBelow_way _).ext hx, ?_⟩
          try simp only [Act.put, List.setIfInBounds_toArray, List.set_cons_zero, List.set_cons_succ]
          have E := Lib.hid (EN.out.trans hx)
          have M1' := Lib.hid (M1.out.ext hx)
          clear M1
          have M1 := Lib.hid (M1'.out)
          clear M1'
          have HBB' := Lib.hid (ext_blk hx HBB.out)
          clear HBB
          have HBB := Lib.hid (HBB'.out)
          clear HBB'
          obtain ⟨B2, hB2⟩ : ∃ B, B = wk.heap.size := ⟨_, rfl⟩
          have HW2 := Lib.hid (show w2.heap.size ≤ B2 by rw [hB2]; exact EN.out.size)
          rw [← hB2] at hm
          rw [← hB2] at HU
          have M2 := Lib.hid hm
          clear hm hx EN hB2
          ((with_reducible refine bush_step ?_ ?_ ?_ (fun wk k1 => ?_)); rotate_left; (rfl); (first | exact want_none rfl | exact want_some rfl rfl rfl rfl))
          have EN := Lib.hid (E.out.trans k1)
          have M1' := Lib.hid (M1.out.ext k1)
          clear M1
          have M1 := Lib.hid (M1'.out)
          clear M1'
          have M2' := Lib.hid (M2.out.ext k1)
          clear M2
          have M2 := Lib.hid (M2'.out)
          clear M2'
          have HBB' := Lib.hid (ext_blk k1 HBB.out)
          clear HBB
          have HBB := Lib.hid (HBB'.out)
          clear HBB'
          clear E
          clear k1
          go_simp
          have hab := (Array.getElem?_eq_some_iff.1 HBB.out).1
          refine ⟨(LBelow_way _).ext (ext_alloc _ _), ?_⟩
          try simp only [Act.put, List.setIfInBounds_toArray, List.set_cons_zero, List.set_cons_succ]
          have HA := Lib.hid (heap_alloc_new wk (.cells #[.slice none 0 0, .slice none 0 0] 30 (0, 0)))
          have hx := ext_alloc wk (.cells #[.slice none 0 0, .slice none 0 0] 30 (0, 0))
          have E := Lib.hid (EN.out.trans hx)
          have M1' := Lib.hid (M1.out.ext hx)
          clear M1
          have M1 := Lib.hid (M1'.out)
          clear M1'
          have M2' := Lib.hid (M2.out.ext hx)
          clear M2
          have M2 := Lib.hid (M2'.out)
          clear M2'
          have HBB' := Lib.hid (ext_blk hx HBB.out)
          clear HBB
          have HBB := Lib.hid (HBB'.out)
          clear HBB'
          obtain ⟨a, ha⟩ : ∃ x, x = wk.heap.size := ⟨_, rfl⟩
          have HWa := Lib.hid (show w2.heap.size ≤ a by rw [ha]; exact EN.out.size)
          have HAB := Lib.hid (show a ≠ b from fun e => by omega)
          clear hab
          rw [← ha] at HA ⊢
          clear hx EN ha
          ((with_reducible refine bush_step ?_ ?_ ?_ (fun wk k1 => ?_)); rotate_left; (rfl); (first | exact want_none rfl | exact want_some rfl rfl rfl rfl))
          have M1' := Lib.hid (M1.out.ext k1)
          have M2' := Lib.hid (M2.out.ext k1)
          have EN := Lib.hid (E.out.trans k1)
          have ha := ext_blk k1 HA.out
          have hb := Lib.hid (ext_blk k1 HBB.out)
          clear k1 M1 M2 HA HBB E
          have d0 := bcel ha 0 (.slice none 0 0) rfl
          have d1 := bcel ha 1 (.slice none 0 0) rfl
          have fd := fun j => bfre ha j
          go_simp
          have hgr := grown2 wk a (.slice Al1 nl cl1) (.slice Aq1 ds.length cq1)
          refine ⟨fun _ => grown_below hgr EN.out.size (fun k hk => by injection hk with hk; have := HWa.out; omega), ?_⟩
          try simp only [Act.put, List.setIfInBounds_toArray, List.set_cons_zero, List.set_cons_succ]
          have hb6 := bset2s ha (.slice Al1 nl cl1) (.slice Aq1 ds.length cq1)
          obtain ⟨W6, hW6⟩ : ∃ W6, W6 = ((wk.setCell ⟨a, 0, none⟩ (.slice Al1 nl cl1)).setCell ⟨a, 1, none⟩ (.slice Aq1 ds.length cq1)) := ⟨_, rfl⟩
          rw [← hW6] at hgr hb6 ⊢
          have HA6 := Lib.hid hb6
          have HB6 := Lib.hid (show W6.heap[b]? = some (.cells #[.slice none 0 0, .slice none 0 0] 30 (0, 0)) from (hgr.block b (Array.getElem?_eq_some_iff.1 hb.out).1 (fun e => by injection e with e; exact HAB.out e.symm)).trans hb.out)
          have M16 := Lib.hid (M1'.out.turn hgr ha)
          have M26 := Lib.hid (M2'.out.turn hgr ha)
          have E6 := Lib.hid (ext_grownS EN.out hgr HWa.out)
          clear hW6 hgr hb6 ha d0 d1 fd M1' M2' EN hb
          ((with_reducible refine bush_step ?_ ?_ ?_ (fun wk k1 => ?_)); rotate_left; (rfl); (first | exact want_none rfl | exact want_some rfl rfl rfl rfl))
          have M1' := Lib.hid (M16.out.ext k1)
          have M2' := Lib.hid (M26.out.ext k1)
          have EN := Lib.hid (E6.out.trans k1)
          have hb := ext_blk k1 HB6.out
          have ha := Lib.hid (ext_blk k1 HA6.out)
          clear k1 M16 M26 HA6 HB6 E6
          have d0 := bcel hb 0 (.slice none 0 0) rfl
          have d1 := bcel hb 1 (.slice none 0 0) rfl
          have fd := fun j => bfre hb j
          go_simp
          have hgr := grown2 wk b (.slice Al2 nl cl2) (.slice Aq2 ds.length cq2)
          refine ⟨fun _ => grown_below hgr EN.out.size (fun k hk => by injection hk with hk; have := HWb.out; omega), ?_⟩
          try simp only [Act.put, List.setIfInBounds_toArray, List.set_cons_zero, List.set_cons_succ]
          have hb7 := bset2s hb (.slice Al2 nl cl2) (.slice Aq2 ds.length cq2)
          obtain ⟨W7, hW7⟩ : ∃ W7, W7 = ((wk.setCell ⟨b, 0, none⟩ (.slice Al2 nl cl2)).setCell ⟨b, 1, none⟩ (.slice Aq2 ds.length cq2)) := ⟨_, rfl⟩
          rw [← hW7] at hgr hb7 ⊢
          refine bush_done (fun wz k1 => ?_)
          have hfin := Lib.hid (show Mid w2 nl ds (.pointer (some ⟨a, 0, none⟩)) (.pointer (some ⟨b, 0, none⟩)) wz from
            ⟨a, b, B1, B2, Al1, Aq1, Al2, Aq2, cl1, cq1, cl2, cq2, qs1, qs2, rfl, rfl, HAB.out, HWa.out, HWb.out,
              ext_blk k1 ((hgr.block a (Array.getElem?_eq_some_iff.1 ha.out).1 (fun e => by injection e with e; exact HAB.out e)).trans ha.out), ext_blk k1 hb7,
              (M1'.out.turn hgr hb).ext k1, (M2'.out.turn hgr hb).ext k1, HU.out, HW1.out, HW2.out, (ext_grownS EN.out hgr HWb.out).trans k1⟩)
          clear k1 hW7 hgr hb7 hb d0 d1 fd
          go_wp2
          go_meet
          case rel => exact hfin.out
        · have EN := Lib.hid (E.out.trans k1)
          have M1' := Lib.hid (M1.out.ext k1)
          clear M1
          have M1 := Lib.hid (M1'.out)
          clear M1'
          have HBB' := Lib.hid (ext_blk k1 HBB.out)
          clear HBB
          have HBB := Lib.hid (HBB'.out)
          clear HBB'
          clear E
          clear k1
          go_simp
          have hab := (Array.getElem?_eq_some_iff.1 HBB.out).1
          refine ⟨(LBelow_way _).ext (ext_alloc _ _), ?_⟩
          try simp only [Act.put, List.setIfInBounds_toArray, List.set_cons_zero, List.set_cons_succ]
          have HA := Lib.hid (heap_alloc_new wk (.cells #[.slice none 0 0, .slice none 0 0] 30 (0, 0)))
          have hx := ext_alloc wk (.cells #[.slice none 0 0, .slice none 0 0] 30 (0, 0))
          have E := Lib.hid (EN.out.trans hx)
          have M1' := Lib.hid (M1.out.ext hx)
          clear M1
          have M1 := Lib.hid (M1'.out)
          clear M1'
          have HBB' := Lib.hid (ext_blk hx HBB.out)
          clear HBB
          have HBB := Lib.hid (HBB'.out)
          clear HBB'
          obtain ⟨a, ha⟩ : ∃ x, x = wk.heap.size := ⟨_, rfl⟩
          have HWa := Lib.hid (show w2.heap.size ≤ a by rw [ha]; exact EN.out.size)
          have HAB := Lib.hid (show a ≠ b from fun e => by omega)
          clear hab
          rw [← ha] at HA ⊢
          clear hx EN ha
          ((with_reducible refine bush_step ?_ ?_ ?_ (fun wk k1 => ?_)); rotate_left; (rfl); (first | exact want_none rfl | exact want_some rfl rfl rfl rfl))
          have EN := Lib.hid (E.out.trans k1)
          have M1' := Lib.hid (M1.out.ext k1)
          clear M1
          have M1 := Lib.hid (M1'.out)
          clear M1'
          have HA' := Lib.hid (ext_blk k1 HA.out)
          clear HA
          have HA := Lib.hid (HA'.out)
          clear HA'
          have HBB' := Lib.hid (ext_blk k1 HBB.out)
          clear HBB
          have HBB := Lib.hid (HBB'.out)
          clear HBB'
          clear E
          clear k1
          go_simp
          have HU := Lib.hid M1.out.under
          (with_reducible refine (HMK.out _ EN.out).mono ?_)
          unfold Mk2Post
          rintro e wf2 ⟨Al2, cl2, Aq2, cq2, qs2, rfl, hm, hx⟩
          refine ⟨(LBelow_way _).ext hx, ?_⟩
          try simp only [Act.put, List.setIfInBounds_toArray, List.set_cons_zero, List.set_cons_succ]
          have E := Lib.hid (EN.out.trans hx)
          have M1' := Lib.hid (M1.out.ext hx)
          clear M1
          have M1 := Lib.hid (M1'.out)
          clear M1'
          have HA' := Lib.hid (ext_blk hx HA.out)
          clear HA
          have HA := Lib.hid (HA'.out)
          clear HA'
          have HBB' := Lib.hid (ext_blk hx HBB.out)
          clear HBB
          have HBB := Lib.hid (HBB'.out)
          clear HBB'
          obtain ⟨B2, hB2⟩ : ∃ B, B = wk.heap.size := ⟨_, rfl⟩
          have HW2 := Lib.hid (show w2.heap.size ≤ B2 by rw [hB2]; exact EN.out.size)
          rw [← hB2] at hm
          rw [← hB2] at HU
          have M2 := Lib.hid hm
          clear hm hx EN hB2
          ((with_reducible refine bush_step ?_ ?_ ?_ (fun wk k1 => ?_)); rotate_left; (rfl); (first | exact want_none rfl | exact want_some rfl rfl rfl rfl))
          have M1' := Lib.hid (M1.out.ext k1)
          have M2' := Lib.hid (M2.out.ext k1)
          have EN := Lib.hid (E.out.trans k1)
          have ha := ext_blk k1 HA.out
          have hb := Lib.hid (ext_blk k1 HBB.out)
          clear k1 M1 M2 HA HBB E
          have d0 := bcel ha 0 (.slice none 0 0) rfl
          have d1 := bcel ha 1 (.slice none 0 0) rfl
          have fd := fun j => bfre ha j
          go_simp
          have hgr := grown2 wk a (.slice Al1 nl cl1) (.slice Aq1 ds.length cq1)
          refine ⟨fun _ => grown_below hgr EN.out.size (fun k hk => by injection hk with hk; have := HWa.out; omega), ?_⟩
          try simp only [Act.put, List.setIfInBounds_toArray, List.set_cons_zero, List.set_cons_succ]
          have hb6 := bset2s ha (.slice Al1 nl cl1) (.slice Aq1 ds.length cq1)
          obtain ⟨W6, hW6⟩ : ∃ W6, W6 = ((wk.setCell ⟨a, 0, none⟩ (.slice Al1 nl cl1)).setCell ⟨a, 1, none⟩ (.slice Aq1 ds.length cq1)) := ⟨_, rfl⟩
          rw [← hW6] at hgr hb6 ⊢
          have HA6 := Lib.hid hb6
          have HB6 := Lib.hid (show W6.heap[b]? = some (.cells #[.slice none 0 0, .slice none 0 0] 30 (0, 0)) from (hgr.block b (Array.getElem?_eq_some_iff.1 hb.out).1 (fun e => by injection e with e; exact HAB.out e.symm)).trans hb.out)
          have M16 := Lib.hid (M1'.out.turn hgr ha)
          have M26 := Lib.hid (M2'.out.turn hgr ha)
          have E6 := Lib.hid (ext_grownS EN.out hgr HWa.out)
          clear hW6 hgr hb6 ha d0 d1 fd M1' M2' EN hb
          ((with_reducible refine bush_step ?_ ?_ ?_ (fun wk k1 => ?_)); rotate_left; (rfl); (first | exact want_none rfl | exact want_some rfl rfl rfl rfl))
          have M1' := Lib.hid (M16.out.ext k1)
          have M2' := Lib.hid (M26.out.ext k1)
          have EN := Lib.hid (E6.out.trans k1)
          have hb := ext_blk k1 HB6.out
          have ha := Lib.hid (ext_blk k1 HA6.out)
          clear k1 M16 M26 HA6 HB6 E6
          have d0 := bcel hb 0 (.slice none 0 0) rfl
          have d1 := bcel hb 1 (.slice none 0 0) rfl
          have fd := fun j => bfre hb j
          go_simp
          have hgr := grown2 wk b (.slice Al2 nl cl2) (.slice Aq2 ds.length cq2)
          refine ⟨fun _ => grown_below hgr EN.out.size (fun k hk => by injection hk with hk; have := HWb.out; omega), ?_⟩
          try simp only [Act.put, List.setIfInBounds_toArray, List.set_cons_zero, List.set_cons_succ]
          have hb7 := bset2s hb (.slice Al2 nl cl2) (.slice Aq2 ds.length cq2)
          obtain ⟨W7, hW7⟩ : ∃ W7, W7 = ((wk.setCell ⟨b, 0, none⟩ (.slice Al2 nl cl2)).setCell ⟨b, 1, none⟩ (.slice Aq2 ds.length cq2)) := ⟨_, rfl⟩
          rw [← hW7] at hgr hb7 ⊢
          refine bush_done (fun wz k1 => ?_)
          have hfin := Lib.hid (show Mid w2 nl ds (.pointer (some ⟨a, 0, none⟩)) (.pointer (some ⟨b, 0, none⟩)) wz from
            ⟨a, b, B1, B2, Al1, Aq1, Al2, Aq2, cl1, cq1, cl2, cq2, qs1, qs2, rfl, rfl, HAB.out, HWa.out, HWb.out,
              ext_blk k1 ((hgr.block a (Array.getElem?_eq_some_iff.1 ha.out).1 (fun e => by injection e with e; exact HAB.out e)).trans ha.out), ext_blk k1 hb7,
              (M1'.out.turn hgr hb).ext k1, (M2'.out.turn hgr hb).ext k1, HU.out, HW1.out, HW2.out, (ext_grownS EN.out hgr HWb.out).trans k1⟩)
          clear k1 hW7 hgr hb7 hb d0 d1 fd
          go_wp2
          go_meet
          case rel => exact hfin.out
    · have EN := Lib.hid ((Ext.drew _).trans k1)
      clear k1
      go_simp
      refine ⟨(LBelow_way _).ext (ext_alloc _ _), ?_⟩
      try simp only [Act.put, List.setIfInBounds_toArray, List.set_cons_zero, List.set_cons_succ]
      have HA := Lib.hid (heap_alloc_new wk (.cells #[.slice none 0 0, .slice none 0 0] 30 (0, 0)))
      have hx := ext_alloc wk (.cells #[.slice none 0 0, .slice none 0 0] 30 (0, 0))
      have E := Lib.hid (EN.out.trans hx)
      obtain ⟨a, ha⟩ : ∃ x, x = wk.heap.size := ⟨_, rfl⟩
      have HWa := Lib.hid (show w2.heap.size ≤ a by rw [ha]; exact EN.out.size)
      rw [← ha] at HA ⊢
      clear hx EN ha
      ((with_reducible refine bush_two ?_ ?_ ?_ ?_ ?_ ?_ (fun wk k1 => ?_) (fun wk k1 => ?_)); rotate_left 2; (rfl); (first | exact want_none rfl | exact want_some rfl rfl rfl rfl); (rfl); (first | exact want_none rfl | exact want_some rfl rfl rfl rfl))
      · have EN := Lib.hid (E.out.trans k1)
        have HA' := Lib.hid (ext_blk k1 HA.out)
        clear HA
        have HA := Lib.hid (HA'.out)
        clear HA'
        clear E
        clear k1
        go_simp
        (with_reducible refine (HMK.out _ EN.out).mono ?_)
        unfold Mk2Post
        rintro e wf1 ⟨Al1, cl1, Aq1, cq1, qs1, rfl, hm, hx⟩
        refine ⟨(LBelow_way _).ext hx, ?_⟩
        try simp only [Act.put, List.setIfInBounds_toArray, List.set_cons_zero, List.set_cons_succ]
        have E := Lib.hid (EN.out.trans hx)
        have HA' := Lib.hid (ext_blk hx HA.out)
        clear HA
        have HA := Lib.hid (HA'.out)
        clear HA'
        obtain ⟨B1, hB1⟩ : ∃ B, B = wk.heap.size := ⟨_, rfl⟩
        have HW1 := Lib.hid (show w2.heap.size ≤ B1 by rw [hB1]; exact EN.out.size)
        rw [← hB1] at hm
        have M1 := Lib.hid hm
        clear hm hx EN hB1
        ((with_reducible refine bush_two ?_ ?_ ?_ ?_ ?_ ?_ (fun wk k1 => ?_) (fun wk k1 => ?_)); rotate_left 2; (rfl); (first | exact want_none rfl | exact want_some rfl rfl rfl rfl); (rfl); (first | exact want_none rfl | exact want_some rfl rfl rfl rfl))
        · have EN := Lib.hid (E.out.trans k1)
          have M1' := Lib.hid (M1.out.ext k1)
          clear M1
          have M1 := Lib.hid (M1'.out)
          clear M1'
          have HA' := Lib.hid (ext_blk k1 HA.out)
          clear HA
          have HA := Lib.hid (HA'.out)
          clear HA'
          clear E
          clear k1
          go_simp
          have HU := Lib.hid M1.out.under
          (with_reducible refine (HMK.out _ EN.out).mono ?_)
          unfold Mk2Post
          rintro e wf2 ⟨Al2, cl2, Aq2, cq2, qs2, rfl, hm, hx⟩
          refine ⟨(LBelow_way _).ext hx, ?_⟩
          try simp only [Act.put, List.setIfInBounds_toArray, List.set_cons_zero, List.set_cons_succ]
          have E := Lib.hid (EN.out.trans hx)
          have M1' := Lib.hid (M1.out.ext hx)
          clear M1
          have M1 := Lib.hid (M1'.out)
          clear M1'
          have HA' := Lib.hid (ext_blk hx HA.out)
          clear HA
          have HA := Lib.hid (HA'.out)
          clear HA'
          obtain ⟨B2, hB2⟩ : ∃ B, B = wk.heap.size := ⟨_, rfl⟩
          have HW2 := Lib.hid (show w2.heap.size ≤ B2 by rw [hB2]; exact EN.out.size)
          rw [← hB2] at hm
          rw [← hB2] at HU
          have M2 := Lib.hid hm
          clear hm hx EN hB2
          ((with_reducible refine bush_step ?_ ?_ ?_ (fun wk k1 => ?_)); rotate_left; (rfl); (first | exact want_none rfl | exact want_some rfl rfl rfl rfl))
          have EN := Lib.hid (E.out.trans k1)
          have M1' := Lib.hid (M1.out.ext k1)
          clear M1
          have M1 := Lib.hid (M1'.out)
          clear M1'
          have M2' := Lib.hid (M2.out.ext k1)
          clear M2
          have M2 := Lib.hid (M2'.out)
          clear M2'
          have HA' := Lib.hid (ext_blk k1 HA.out)
          clear HA
          have HA := Lib.hid (HA'.out)
          clear HA'
          clear E
          clear k1
          go_simp
          have hab := (Array.getElem?_eq_some_iff.1 HA.out).1
          refine ⟨(LBelow_way _).ext (ext_alloc _ _), ?_⟩
          try simp only [Act.put, List.setIfInBounds_toArray, List.set_cons_zero, List.set_cons_succ]
          have HBB := Lib.hid (heap_alloc_new wk (.cells #[.slice none 0 0, .slice none 0 0] 30 (0, 0)))
          have hx := ext_alloc wk (.cells #[.slice none 0 0, .slice none 0 0] 30 (0, 0))
          have E := Lib.hid (EN.out.trans hx)
          have M1' := Lib.hid (M1.out.ext hx)
          clear M1
          have M1 := Lib.hid (M1'.out)
          clear M1'
          have M2' := Lib.hid (M2.out.ext hx)
          clear M2
          have M2 := Lib.hid (M2'.out)
          clear M2'
          have HA' := Lib.hid (ext_blk hx HA.out)
          clear HA
          have HA := Lib.hid (HA'.out)
          clear HA'
          obtain ⟨b, hb⟩ : ∃ x, x = wk.heap.size := ⟨_, rfl⟩
          have HWb := Lib.hid (show w2.heap.size ≤ b by rw [hb]; exact EN.out.size)
          have HAB := Lib.hid (show a ≠ b from fun e => by omega)
          clear hab
          rw [← hb] at HBB ⊢
          clear hx EN hb
          ((with_reducible refine bush_step ?_ ?_ ?_ (fun wk k1 => ?_)); rotate_left; (rfl); (first | exact want_none rfl | exact want_some rfl rfl rfl rfl))
          have M1' := Lib.hid (M1.out.ext k1)
          have M2' := Lib.hid (M2.out.ext k1)
          have EN := Lib.hid (E.out.trans k1)
          have ha := ext_blk k1 HA.out
          have hb := Lib.hid (ext_blk k1 HBB.out)
          clear k1 M1 M2 HA HBB E
          have d0 := bcel ha 0 (.slice none 0 0) rfl
          have d1 := bcel ha 1 (.slice none 0 0) rfl
          have fd := fun j => bfre ha j
          go_simp
          have hgr := grown2 wk a (.slice Al1 nl cl1) (.slice Aq1 ds.length cq1)
          refine ⟨fun _ => grown_below hgr EN.out.size (fun k hk => by injection hk with hk; have := HWa.out; omega), ?_⟩
          try simp only [Act.put, List.setIfInBounds_toArray, List.set_cons_zero, List.set_cons_succ]
          have hb6 := bset2s ha (.slice Al1 nl cl1) (.slice Aq1 ds.length cq1)
          obtain ⟨W6, hW6⟩ : ∃ W6, W6 = ((wk.setCell ⟨a, 0, none⟩ (.slice Al1 nl cl1)).setCell ⟨a, 1, none⟩ (.slice Aq1 ds.length cq1)) := ⟨_, rfl⟩
          rw [← hW6] at hgr hb6 ⊢
          have HA6 := Lib.hid hb6
          have HB6 := Lib.hid (show W6.heap[b]? = some (.cells #[.slice none 0 0, .slice none 0 0] 30 (0, 0)) from (hgr.block b (Array.getElem?_eq_some_iff.1 hb.out).1 (fun e => by injection e with e; exact HAB.out e.symm)).trans hb.out)
          have M16 := Lib.hid (M1'.out.turn hgr ha)
          have M26 := Lib.hid (M2'.out.turn hgr ha)
          have E6 := Lib.hid (ext_grownS EN.out hgr HWa.out)
          clear hW6 hgr hb6 ha d0 d1 fd M1' M2' EN hb
          ((with_reducible refine bush_step ?_ ?_ ?_ (fun wk k1 => ?_)); rotate_left; (rfl); (first | exact want_none rfl | exact want_some rfl rfl rfl rfl))
          have M1' := Lib.hid (M16.out.ext k1)
          have M2' := Lib.hid (M26.out.ext k1)
          have EN := Lib.hid (E6.out.trans k1)
          have hb := ext_blk k1 HB6.out
          have ha := Lib.hid (ext_blk k1 HA6.out)
          clear k1 M16 M26 HA6 HB6 E6
          have d0 := bcel hb 0 (.slice none 0 0) rfl
          have d1 := bcel hb 1 (.slice none 0 0) rfl
          have fd := fun j => bfre hb j
          go_simp
          have hgr := grown2 wk b (.slice Al2 nl cl2) (.slice Aq2 ds.length cq2)
          refine ⟨fun _ => grown_below hgr EN.out.size (fun k hk => by injection hk with hk; have := HWb.out; omega), ?_⟩
          try simp only [Act.put, List.setIfInBounds_toArray, List.set_cons_zero, List.set_cons_succ]
          have hb7 := bset2s hb (.slice Al2 nl cl2) (.slice Aq2 ds.length cq2)
          obtain ⟨W7, hW7⟩ : ∃ W7, W7 = ((wk.setCell ⟨b, 0, none⟩ (.slice Al2 nl cl2)).setCell ⟨b, 1, none⟩ (.slice Aq2 ds.length cq2)) := ⟨_, rfl⟩
          rw [← hW7] at hgr hb7 ⊢
          refine bush_done (fun wz k1 => ?_)
          have hfin := Lib.hid (show Mid w2 nl ds (.pointer (some ⟨a, 0, none⟩)) (.pointer (some ⟨b, 0, none⟩)) wz from
            ⟨a, b, B1, B2, Al1, Aq1, Al2, Aq2, cl1, cq1, cl2, cq2, qs1, qs2, rfl, rfl, HAB.out, HWa.out, HWb.out,
              ext_blk k1 ((hgr.block a (Array.getElem?_eq_some_iff.1 ha.out).1 (fun e => by injection e with e; exact HAB.out e)).trans ha.out), ext_blk k1 hb7,
              (M1'.out.turn hgr hb).ext k1, (M2'.out.turn hgr hb).ext k1, HU.out, HW1.out, HW2.out, (ext_grownS EN.out hgr HWb.out).trans k1⟩)
          clear k1 hW7 hgr hb7 hb d0 d1 fd
          go_wp2
          go_meet
          case rel => exact hfin.out
        · have EN := Lib.hid (E.out.trans k1)
          have M1' := Lib.hid (M1.out.ext k1)
          clear M1
          have M1 := Lib.hid (M1'.out)
          clear M1'
          have HA' := Lib.hid (ext_blk k1 HA.out)
          clear HA
          have HA := Lib.hid (HA'.out)
          clear HA'
          clear E
          clear k1
          go_simp
          have hab := (Array.getElem?_eq_some_iff.1 HA.out).1
          refine ⟨(LBelow_way _).ext (ext_alloc _ _), ?_⟩
          try simp only [Act.put, List.setIfInBounds_toArray, List.set_cons_zero, List.set_cons_succ]
          have HBB := Lib.hid (heap_alloc_new wk (.cells #[.slice none 0 0, .slice none 0 0] 30 (0, 0)))
          have hx := ext_alloc wk (.cells #[.slice none 0 0, .slice none 0 0] 30 (0, 0))
          have E := Lib.hid (EN.out.trans hx)
          have M1' := Lib.hid (M1.out.ext hx)
          clear M1
          have M1 := Lib.hid (M1'.out)
          clear M1'
          have HA' := Lib.hid (ext_blk hx HA.out)
          clear HA
          have HA := Lib.hid (HA'.out)
          clear HA'
          obtain ⟨b, hb⟩ : ∃ x, x = wk.heap.size := ⟨_, rfl⟩
          have HWb := Lib.hid (show w2.heap.size ≤ b by rw [hb]; exact EN.out.size)
          have HAB := Lib.hid (show a ≠ b from fun e => by omega)
          clear hab
          rw [← hb] at HBB ⊢
          clear hx EN hb
          ((with_reducible refine bush_step ?_ ?_ ?_ (fun wk k1 => ?_)); rotate_left; (rfl); (first | exact want_none rfl | exact want_some rfl rfl rfl rfl))
          have EN := Lib.hid (E.out.trans k1)
          have M1' := Lib.hid (M1.out.ext k1)
          clear M1
          have M1 := Lib.hid (M1'.out)
          clear M1'
          have HA' := Lib.hid (ext_blk k1 HA.out)
          clear HA
          have HA := Lib.hid (HA'.out)
          clear HA'
          have HBB' := Lib.hid (ext_blk k1 HBB.out)
          clear HBB
          have HBB := Lib.hid (HBB'.out)
          clear HBB'
          clear E
          clear k1
          go_simp
          have HU := Lib.hid M1.out.under
          (with_reducible refine (HMK.out _ EN.out).mono ?_)
          unfold Mk2Post
          rintro e wf2 ⟨Al2, cl2, Aq2, cq2, qs2, rfl, hm, hx⟩
          refine ⟨(LBelow_way _).ext hx, ?_⟩
          try simp only [Act.put, List.setIfInBounds_toArray, List.set_cons_zero, List.set_cons_succ]
          have E := Lib.hid (EN.out.trans hx)
          have M1' := Lib.hid (M1.out.ext hx)
          clear M1
          have M1 := Lib.hid (M1'.out)
          clear M1'
          have HA' := Lib.hid (ext_blk hx HA.out)
          clear HA
          have HA := Lib.hid (HA'.out)
          clear HA'
          have HBB' := Lib.hid (ext_blk hx HBB.out)
          clear HBB
          have HBB := Lib.hid (HBB'.out)
          clear HBB'
          obtain ⟨B2, hB2⟩ : ∃ B, B = wk.heap.size := ⟨_, rfl⟩
          have HW2 := Lib.hid (show w2.heap.size ≤ B2 by rw [hB2]; exact EN.out.size)
          rw [← hB2] at hm
          rw [← hB2] at HU
          have M2 := Lib.hid hm
          clear hm hx EN hB2
          ((with_reducible refine bush_step ?_ ?_ ?_ (fun wk k1 => ?_)); rotate_left; (rfl); (first | exact want_none rfl | exact want_some rfl rfl rfl rfl))
          have M1' := Lib.hid (M1.out.ext k1)
          have M2' := Lib.hid (M2.out.ext k1)
          have EN := Lib.hid (E.out.trans k1)
          have ha := ext_blk k1 HA.out
          have hb := Lib.hid (ext_blk k1 HBB.out)
          clear k1 M1 M2 HA HBB E
          have d0 := bcel ha 0 (.slice none 0 0) rfl
          have d1 := bcel ha 1 (.slice none 0 0) rfl
          have fd := fun j => bfre ha j
          go_simp
          have hgr := grown2 wk a (.slice Al1 nl cl1) (.slice Aq1 ds.length cq1)
          refine ⟨fun _ => grown_below hgr EN.out.size (fun k hk => by injection hk with hk; have := HWa.out; omega), ?_⟩
          try simp only [Act.put, List.setIfInBounds_toArray, List.set_cons_zero, List.set_cons_succ]
          have hb6 := bset2s ha (.slice Al1 nl cl1) (.slice Aq1 ds.length cq1)
          obtain ⟨W6, hW6⟩ : ∃ W6, W6 = ((wk.setCell ⟨a, 0, none⟩ (.slice Al1 nl cl1)).setCell ⟨a, 1, none⟩ (.slice Aq1 ds.length cq1)) := ⟨_, rfl⟩
          rw [← hW6] at hgr hb6 ⊢
          have HA6 := Lib.hid hb6
          have HB6 := Lib.hid (show W6.heap[b]? = some (.cells #[.slice none 0 0, .slice none 0 0] 30 (0, 0)) from (hgr.block b (Array.getElem?_eq_some_iff.1 hb.out).1 (fun e => by injection e with e; exact HAB.out e.symm)).trans hb.out)
          have M16 := Lib.hid (M1'.out.turn hgr ha)
          have M26 := Lib.hid (M2'.out.turn hgr ha)
          have E6 := Lib.hid (ext_grownS EN.out hgr HWa.out)
          clear hW6 hgr hb6 ha d0 d1 fd M1' M2' EN hb
          ((with_reducible refine bush_step ?_ ?_ ?_ (fun wk k1 => ?_)); rotate_left; (rfl); (first | exact want_none rfl | exact want_some rfl rfl rfl rfl))
          have M1' := Lib.hid (M16.out.ext k1)
          have M2' := Lib.hid (M26.out.ext k1)
          have EN := Lib.hid (E6.out.trans k1)
          have hb := ext_blk k1 HB6.out
          have ha := Lib.hid (ext_blk k1 HA6.out)
          clear k1 M16 M26 HA6 HB6 E6
          have d0 := bcel hb 0 (.slice none 0 0) rfl
          have d1 := bcel hb 1 (.slice none 0 0) rfl
          have fd := fun j => bfre hb j
          go_simp
          have hgr := grown2 wk b (.slice Al2 nl cl2) (.slice Aq2 ds.length cq2)
          refine ⟨fun _ => grown_below hgr EN.out.size (fun k hk => by injection hk with hk; have := HWb.out; omega), ?_⟩
          try simp only [Act.put, List.setIfInBounds_toArray, List.set_cons_zero, List.set_cons_succ]
          have hb7 := bset2s hb (.slice Al2 nl cl2) (.slice Aq2 ds.length cq2)
          obtain ⟨W7, hW7⟩ : ∃ W7, W7 = ((wk.setCell ⟨b, 0, none⟩ (.slice Al2 nl cl2)).setCell ⟨b, 1, none⟩ (.slice Aq2 ds.length cq2)) := ⟨_, rfl⟩
          rw [← hW7] at hgr hb7 ⊢
          refine bush_done (fun wz k1 => ?_)
          have hfin := Lib.hid (show Mid w2 nl ds (.pointer (some ⟨a, 0, none⟩)) (.pointer (some ⟨b, 0, none⟩)) wz from
            ⟨a, b, B1, B2, Al1, Aq1, Al2, Aq2, cl1, cq1, cl2, cq2, qs1, qs2, rfl, rfl, HAB.out, HWa.out, HWb.out,
              ext_blk k1 ((hgr.block a (Array.getElem?_eq_some_iff.1 ha.out).1 (fun e => by injection e with e; exact HAB.out e)).trans ha.out), ext_blk k1 hb7,
              (M1'.out.turn hgr hb).ext k1, (M2'.out.turn hgr hb).ext k1, HU.out, HW1.out, HW2.out, (ext_grownS EN.out hgr HWb.out).trans k1⟩)
          clear k1 hW7 hgr hb7 hb d0 d1 fd
          go_wp2
          go_meet
          case rel => exact hfin.out
      · have EN := Lib.hid (E.out.trans k1)
        have HA' := Lib.hid (ext_blk k1 HA.out)
        clear HA
        have HA := Lib.hid (HA'.out)
        clear HA'
        clear E
        clear k1
        go_simp
        have hab := (Array.getElem?_eq_some_iff.1 HA.out).1
        refine ⟨(LBelow_way _).ext (ext_alloc _ _), ?_⟩
        try simp only [Act.put, List.setIfInBounds_toArray, List.set_cons_zero, List.set_cons_succ]
        have HBB := Lib.hid (heap_alloc_new wk (.cells #[.slice none 0 0, .slice none 0 0] 30 (0, 0)))
        have hx := ext_alloc wk (.cells #[.slice none 0 0, .slice none 0 0] 30 (0, 0))
        have E := Lib.hid (EN.out.trans hx)
        have HA' := Lib.hid (ext_blk hx HA.out)
        clear HA
        have HA := Lib.hid (HA'.out)
        clear HA'
        obtain ⟨b, hb⟩ : ∃ x, x = wk.heap.size := ⟨_, rfl⟩
        have HWb := Lib.hid (show w2.heap.size ≤ b by rw [hb]; exact EN.out.size)
        have HAB := Lib.hid (show a ≠ b from fun e => by omega)
        clear hab
        rw [← hb] at HBB ⊢
        clear hx EN hb
        ((with_reducible refine bush_step ?_ ?_ ?_ (fun wk k1 => ?_)); rotate_left; (rfl); (first | exact want_none rfl | exact want_some rfl rfl rfl rfl))
        have EN := Lib.hid (E.out.trans k1)
        have HA' := Lib.hid (ext_blk k1 HA.out)
        clear HA
        have HA := Lib.hid (HA'.out)
        clear HA'
        have HBB' := Lib.hid (ext_blk k1 HBB.out)
        clear HBB
        have HBB := Lib.hid (HBB'.out)
        clear HBB'
        clear E
        clear k1
        go_simp
        (with_reducible refine (HMK.out _ EN.out).mono ?_)
        unfold Mk2Post
        rintro e wf1 ⟨Al1, cl1, Aq1, cq1, qs1, rfl, hm, hx⟩
        refine ⟨(LBelow_way _).ext hx, ?_⟩
        try simp only [Act.put, List.setIfInBounds_toArray, List.set_cons_zero, List.set_cons_succ]
        have E := Lib.hid (EN.out.trans hx)
        have HA' := Lib.hid (ext_blk hx HA.out)
        clear HA
        have HA := Lib.hid (HA'.out)
        clear HA'
        have HBB' := Lib.hid (ext_blk hx HBB.out)
        clear HBB
        have HBB := Lib.hid (HBB'.out)
        clear HBB'
        obtain ⟨B1, hB1⟩ : ∃ B, B = wk.heap.size := ⟨_, rfl⟩
        have HW1 := Lib.hid (show w2.heap.size ≤ B1 by rw [hB1]; exact EN.out.size)
        rw [← hB1] at hm
        have M1 := Lib.hid hm
        clear hm hx EN hB1
        ((with_reducible refine bush_step ?_ ?_ ?_ (fun wk k1 => ?_)); rotate_left; (rfl); (first | exact want_none rfl | exact want_some rfl rfl rfl rfl))
        have EN := Lib.hid (E.out.trans k1)
        have M1' := Lib.hid (M1.out.ext k1)
        clear M1
        have M1 := Lib.hid (M1'.out)
        clear M1'
        have HA' := Lib.hid (ext_blk k1 HA.out)
        clear HA
        have HA := Lib.hid (HA'.out)
        clear HA'
        have HBB' := Lib.hid (ext_blk k1 HBB.out)
        clear HBB
        have HBB := Lib.hid (HBB'.out)
        clear HBB'
        clear E
        clear k1
        go_simp
        have HU := Lib.hid M1.out.under
        (with_reducible refine (HMK.out _ EN.out).mono ?_)
        unfold Mk2Post
        rintro e wf2 ⟨Al2, cl2, Aq2, cq2, qs2, rfl, hm, hx⟩
        refine ⟨(LBelow_way _).ext hx, ?_⟩
        try simp only [Act.put, List.setIfInBounds_toArray, List.set_cons_zero, List.set_cons_succ]
        have E := Lib.hid (EN.out.trans hx)
        have M1' := Lib.hid (M1.out.ext hx)
        clear M1
        have M1 := Lib.hid (M1'.out)
        clear M1'
        have HA' := Lib.hid (ext_blk hx HA.out)
        clear HA
        have HA := Lib.hid (HA'.out)
        clear HA'
        have HBB' := Lib.hid (ext_blk hx HBB.out)
        clear HBB
        have HBB := Lib.hid (HBB'.out)
        clear HBB'
        obtain ⟨B2, hB2⟩ : ∃ B, B = wk.heap.size := ⟨_, rfl⟩
        have HW2 := Lib.hid (show w2.heap.size ≤ B2 by rw [hB2]; exact EN.out.size)
        rw [← hB2] at hm
        rw [← hB2] at HU
        have M2 := Lib.hid hm
        clear hm hx EN hB2
        ((with_reducible refine bush_step ?_ ?_ ?_ (fun wk k1 => ?_)); rotate_left; (rfl); (first | exact want_none rfl | exact want_some rfl rfl rfl rfl))
        have M1' := Lib.hid (M1.out.ext k1)
        have M2' := Lib.hid (M2.out.ext k1)
        have EN := Lib.hid (E.out.trans k1)
        have ha := ext_blk k1 HA.out
        have hb := Lib.hid (ext_blk k1 HBB.out)
        clear k1 M1 M2 HA HBB E
        have d0 := bcel ha 0 (.slice none 0 0) rfl
        have d1 := bcel ha 1 (.slice none 0 0) rfl
        have fd := fun j => bfre ha j
        go_simp
        have hgr := grown2 wk a (.slice Al1 nl cl1) (.slice Aq1 ds.length cq1)
        refine ⟨fun _ => grown_below hgr EN.out.size (fun k hk => by injection hk with hk; have := HWa.out; omega), ?_⟩
        try simp only [Act.put, List.setIfInBounds_toArray, List.set_cons_zero, List.set_cons_succ]
        have hb6 := bset2s ha (.slice Al1 nl cl1) (.slice Aq1 ds.length cq1)
        obtain ⟨W6, hW6⟩ : ∃ W6, W6 = ((wk.setCell ⟨a, 0, none⟩ (.slice Al1 nl cl1)).setCell ⟨a, 1, none⟩ (.slice Aq1 ds.length cq1)) := ⟨_, rfl⟩
        rw [← hW6] at hgr hb6 ⊢
        have HA6 := Lib.hid hb6
        have HB6 := Lib.hid (show W6.heap[b]? = some (.cells #[.slice none 0 0, .slice none 0 0] 30 (0, 0)) from (hgr.block b (Array.getElem?_eq_some_iff.1 hb.out).1 (fun e => by injection e with e; exact HAB.out e.symm)).trans hb.out)
        have M16 := Lib.hid (M1'.out.turn hgr ha)
        have M26 := Lib.hid (M2'.out.turn hgr ha)
        have E6 := Lib.hid (ext_grownS EN.out hgr HWa.out)
        clear hW6 hgr hb6 ha d0 d1 fd M1' M2' EN hb
        ((with_reducible refine bush_step ?_ ?_ ?_ (fun wk k1 => ?_)); rotate_left; (rfl); (first | exact want_none rfl | exact want_some rfl rfl rfl rfl))
        have M1' := Lib.hid (M16.out.ext k1)
        have M2' := Lib.hid (M26.out.ext k1)
        have EN := Lib.hid (E6.out.trans k1)
        have hb := ext_blk k1 HB6.out
        have ha := Lib.hid (ext_blk k1 HA6.out)
        clear k1 M16 M26 HA6 HB6 E6
        have d0 := bcel hb 0 (.slice none 0 0) rfl
        have d1 := bcel hb 1 (.slice none 0 0) rfl
        have fd := fun j => bfre hb j
        go_simp
        have hgr := grown2 wk b (.slice Al2 nl cl2) (.slice Aq2 ds.length cq2)
        refine ⟨fun _ => grown_below hgr EN.out.size (fun k hk => by injection hk with hk; have := HWb.out; omega), ?_⟩
        try simp only [Act.put, List.setIfInBounds_toArray, List.set_cons_zero, List.set_cons_succ]
        have hb7 := bset2s hb (.slice Al2 nl cl2) (.slice Aq2 ds.length cq2)
        obtain ⟨W7, hW7⟩ : ∃ W7, W7 = ((wk.setCell ⟨b, 0, none⟩ (.slice Al2 nl cl2)).setCell ⟨b, 1, none⟩ (.slice Aq2 ds.length cq2)) := ⟨_, rfl⟩
        rw [← hW7] at hgr hb7 ⊢
        refine bush_done (fun wz k1 => ?_)
        have hfin := Lib.hid (show Mid w2 nl ds (.pointer (some ⟨a, 0, none⟩)) (.pointer (some ⟨b, 0, none⟩)) wz from
          ⟨a, b, B1, B2, Al1, Aq1, Al2, Aq2, cl1, cq1, cl2, cq2, qs1, qs2, rfl, rfl, HAB.out, HWa.out, HWb.out,
            ext_blk k1 ((hgr.block a (Array.getElem?_eq_some_iff.1 ha.out).1 (fun e => by injection e with e; exact HAB.out e)).trans ha.out), ext_blk k1 hb7,
            (M1'.out.turn hgr hb).ext k1, (M2'.out.turn hgr hb).ext k1, HU.out, HW1.out, HW2.out, (ext_grownS EN.out hgr HWb.out).trans k1⟩)
        clear k1 hW7 hgr hb7 hb d0 d1 fd
        go_wp2
        go_meet
        case rel => exact hfin.out
    · have EN := Lib.hid ((Ext.drew _).trans k1)
      clear k1
      go_simp
      refine ⟨(LBelow_way _).ext (ext_alloc _ _), ?_⟩
      try simp only [Act.put, List.setIfInBounds_toArray, List.set_cons_zero, List.set_cons_succ]
      have HBB := Lib.hid (heap_alloc_new wk (.cells #[.slice none 0 0, .slice none 0 0] 30 (0, 0)))
      have hx := ext_alloc wk (.cells #[.slice none 0 0, .slice none 0 0] 30 (0, 0))
      have E := Lib.hid (EN.out.trans hx)
      obtain ⟨b, hb⟩ : ∃ x, x = wk.heap.size := ⟨_, rfl⟩
      have HWb := Lib.hid (show w2.heap.size ≤ b by rw [hb]; exact EN.out.size)
      rw [← hb] at HBB ⊢
      clear hx EN hb
      ((with_reducible refine bush_two ?_ ?_ ?_ ?_ ?_ ?_ (fun wk k1 => ?_) (fun wk k1 => ?_)); rotate_left 2; (rfl); (first | exact want_none rfl | exact want_some rfl rfl rfl rfl); (rfl); (first | exact want_none rfl | exact want_some rfl rfl rfl rfl))
      · have EN := Lib.hid (E.out.trans k1)
        have HBB' := Lib.hid (ext_blk k1 HBB.out)
        clear HBB
        have HBB := Lib.hid (HBB'.out)
        clear HBB'
        clear E
        clear k1
        go_simp
        (with_reducible refine (HMK.out _ EN.out).mono ?_)
        unfold Mk2Post
        rintro e wf1 ⟨Al1, cl1, Aq1, cq1, qs1, rfl, hm, hx⟩
        refine ⟨(LBelow_way _).ext hx, ?_⟩
        try simp only [Act.put, List.setIfInBounds_toArray, List.set_cons_zero, List.set_cons_succ]
        have E := Lib.hid (EN.out.trans hx)
        have HBB' := Lib.hid (ext_blk hx HBB.out)
        clear HBB
        have HBB := Lib.hid (HBB'.out)
        clear HBB'
        obtain ⟨B1, hB1⟩ : ∃ B, B = wk.heap.size := ⟨_, rfl⟩
        have HW1 := Lib.hid (show w2.heap.size ≤ B1 by rw [hB1]; exact EN.out.size)
        rw [← hB1] at hm
        have M1 := Lib.hid hm
        clear hm hx EN hB1
        ((with_reducible refine bush_two ?_ ?_ ?_ ?_ ?_ ?_ (fun wk k1 => ?_) (fun wk k1 => ?_)); rotate_left 2; (rfl); (first | exact want_none rfl | exact want_some rfl rfl rfl rfl); (rfl); (first | exact want_none rfl | exact want_some rfl rfl rfl rfl))
        · have EN := Lib.hid (E.out.trans k1)
          have M1' := Lib.hid (M1.out.ext k1)
          clear M1
          have M1 := Lib.hid (M1'.out)
          clear M1'
          have HBB' := Lib.hid (ext_blk k1 HBB.out)
          clear HBB
          have HBB := Lib.hid (HBB'.out)
          clear HBB'
          clear E
          clear k1
          go_simp
          have HU := Lib.hid M1.out.under
          (with_reducible refine (HMK.out _ EN.out).mono ?_)
          unfold Mk2Post
          rintro e wf2 ⟨Al2, cl2, Aq2, cq2, qs2, rfl, hm, hx⟩
          refine ⟨(LBelow_way _).ext hx, ?_⟩
          try simp only [Act.put, List.setIfInBounds_toArray, List.set_cons_zero, List.set_cons_succ]
          have E := Lib.hid (EN.out.trans hx)
          have M1' := Lib.hid (M1.out.ext hx)
          clear M1
          have M1 := Lib.hid (M1'.out)
          clear M1'
          have HBB' := Lib.hid (ext_blk hx HBB.out)
          clear HBB
          have HBB := Lib.hid (HBB'.out)
          clear HBB'
          obtain ⟨B2, hB2⟩ : ∃ B, B = wk.heap.size := ⟨_, rfl⟩
          have HW2 := Lib.hid (show w2.heap.size ≤ B2 by rw [hB2]; exact EN.out.size)
          rw [← hB2] at hm
          rw [← hB2] at HU
          have M2 := Lib.hid hm
          clear hm hx EN hB2
          ((with_reducible refine bush_step ?_ ?_ ?_ (fun wk k1 => ?_)); rotate_left; (rfl); (first | exact want_none rfl | exact want_some rfl rfl rfl rfl))
          have EN := Lib.hid (E.out.trans k1)
          have M1' := Lib.hid (M1.out.ext k1)
          clear M1
          have M1 := Lib.hid (M1'.out)
          clear M1'
          have M2' := Lib.hid (M2.out.ext k1)
          clear M2
          have M2 := Lib.hid (M2'.out)
          clear M2'
          have HBB' := Lib.hid (ext_blk k1 HBB.out)
          clear HBB
          have HBB := Lib.hid (HBB'.out)
          clear HBB'
          clear E
          clear k1
          go_simp
          have hab := (Array.getElem?_eq_some_iff.1 HBB.out).1
          refine ⟨(LBelow_way _).ext (ext_alloc _ _), ?_⟩
          try simp only [Act.put, List.setIfInBounds_toArray, List.set_cons_zero, List.set_cons_succ]
          have HA := Lib.hid (heap_alloc_new wk (.cells #[.slice none 0 0, .slice none 0 0] 30 (0, 0)))
          have hx := ext_alloc wk (.cells #[.slice none 0 0, .slice none 0 0] 30 (0, 0))
          have E := Lib.hid (EN.out.trans hx)
          have M1' := Lib.hid (M1.out.ext hx)
          clear M1
          have M1 := Lib.hid (M1'.out)
          clear M1'
          have M2' := Lib.hid (M2.out.ext hx)
          clear M2
          have M2 := Lib.hid (M2'.out)
          clear M2'
          have HBB' := Lib.hid (ext_blk hx HBB.out)
          clear HBB
          have HBB := Lib.hid (HBB'.out)
          clear HBB'
          obtain ⟨a, ha⟩ : ∃ x, x = wk.heap.size := ⟨_, rfl⟩
          have HWa := Lib.hid (show w2.heap.size ≤ a by rw [ha]; exact EN.out.size)
          have HAB := Lib.hid (show a ≠ b from fun e => by omega)
          clear hab
          rw [← ha] at HA ⊢
          clear hx EN ha
          ((with_reducible refine bush_step ?_ ?_ ?_ (fun wk k1 => ?_)); rotate_left; (rfl); (first | exact want_none rfl | exact want_some rfl rfl rfl rfl))
          have M1' := Lib.hid (M1.out.ext k1)
          have M2' := Lib.hid (M2.out.ext k1)
          have EN := Lib.hid (E.out.trans k1)
          have ha := ext_blk k1 HA.out
          have hb := Lib.hid (ext_blk k1 HBB.out)
          clear k1 M1 M2 HA HBB E
          have d0 := bcel ha 0 (.slice none 0 0) rfl
          have d1 := bcel ha 1 (.slice none 0 0) rfl
          have fd := fun j => bfre ha j
          go_simp
          have hgr := grown2 wk a (.slice Al1 nl cl1) (.slice Aq1 ds.length cq1)
          refine ⟨fun _ => grown_below hgr EN.out.size (fun k hk => by injection hk with hk; have := HWa.out; omega), ?_⟩
          try simp only [Act.put, List.setIfInBounds_toArray, List.set_cons_zero, List.set_cons_succ]
          have hb6 := bset2s ha (.slice Al1 nl cl1) (.slice Aq1 ds.length cq1)
          obtain ⟨W6, hW6⟩ : ∃ W6, W6 = ((wk.setCell ⟨a, 0, none⟩ (.slice Al1 nl cl1)).setCell ⟨a, 1, none⟩ (.slice Aq1 ds.length cq1)) := ⟨_, rfl⟩
          rw [← hW6] at hgr hb6 ⊢
          have HA6 := Lib.hid hb6
          have HB6 := Lib.hid (show W6.heap[b]? = some (.cells #[.slice none 0 0, .slice none 0 0] 30 (0, 0)) from (hgr.block b (Array.getElem?_eq_some_iff.1 hb.out).1 (fun e => by injection e with e; exact HAB.out e.symm)).trans hb.out)
          have M16 := Lib.hid (M1'.out.turn hgr ha)
          have M26 := Lib.hid (M2'.out.turn hgr ha)
          have E6 := Lib.hid (ext_grownS EN.out hgr HWa.out)
          clear hW6 hgr hb6 ha d0 d1 fd M1' M2' EN hb
          ((with_reducible refine bush_step ?_ ?_ ?_ (fun wk k1 => ?_)); rotate_left; (rfl); (first | exact want_none rfl | exact want_some rfl rfl rfl rfl))
          have M1' := Lib.hid (M16.out.ext k1)
          have M2' := Lib.hid (M26.out.ext k1)
          have EN := Lib.hid (E6.out.trans k1)
          have hb := ext_blk k1 HB6.out
          have ha := Lib.hid (ext_blk k1 HA6.out)
          clear k1 M16 M26 HA6 HB6 E6
          have d0 := bcel hb 0 (.slice none 0 0) rfl
          have d1 := bcel hb 1 (.slice none 0 0) rfl
          have fd := fun j => bfre hb j
          go_simp
          have hgr := grown2 wk b (.slice Al2 nl cl2) (.slice Aq2 ds.length cq2)
          refine ⟨fun _ => grown_below hgr EN.out.size (fun k hk => by injection hk with hk; have := HWb.out; omega), ?_⟩
          try simp only [Act.put, List.setIfInBounds_toArray, List.set_cons_zero, List.set_cons_succ]
          have hb7 := bset2s hb (.slice Al2 nl cl2) (.slice Aq2 ds.length cq2)
          obtain ⟨W7, hW7⟩ : ∃ W7, W7 = ((wk.setCell ⟨b, 0, none⟩ (.slice Al2 nl cl2)).setCell ⟨b, 1, none⟩ (.slice Aq2 ds.length cq2)) := ⟨_, rfl⟩
          rw [← hW7] at hgr hb7 ⊢
          refine bush_done (fun wz k1 => ?_)
          have hfin := Lib.hid (show Mid w2 nl ds (.pointer (some ⟨a, 0, none⟩)) (.pointer (some ⟨b, 0, none⟩)) wz from
            ⟨a, b, B1, B2, Al1, Aq1, Al2, Aq2, cl1, cq1, cl2, cq2, qs1, qs2, rfl, rfl, HAB.out, HWa.out, HWb.out,
              ext_blk k1 ((hgr.block a (Array.getElem?_eq_some_iff.1 ha.out).1 (fun e => by injection e with e; exact HAB.out e)).trans ha.out), ext_blk k1 hb7,
              (M1'.out.turn hgr hb).ext k1, (M2'.out.turn hgr hb).ext k1, HU.out, HW1.out, HW2.out, (ext_grownS EN.out hgr HWb.out).trans k1⟩)
          clear k1 hW7 hgr hb7 hb d0 d1 fd
          go_wp2
          go_meet
          case rel => exact hfin.out
        · have EN := Lib.hid (E.out.trans k1)
          have M1' := Lib.hid (M1.out.ext k1)
          clear M1
          have M1 := Lib.hid (M1'.out)
          clear M1'
          have HBB' := Lib.hid (ext_blk k1 HBB.out)
          clear HBB
          have HBB := Lib.hid (HBB'.out)
          clear HBB'
          clear E
          clear k1
          go_simp
          have hab := (Array.getElem?_eq_some_iff.1 HBB.out).1
          refine ⟨(LBelow_way _).ext (ext_alloc _ _), ?_⟩
          try simp only [Act.put, List.setIfInBounds_toArray, List.set_cons_zero, List.set_cons_succ]
          have HA := Lib.hid (heap_alloc_new wk (.cells #[.slice none 0 0, .slice none 0 0] 30 (0, 0)))
          have hx := ext_alloc wk (.cells #[.slice none 0 0, .slice none 0 0] 30 (0, 0))
          have E := Lib.hid (EN.out.trans hx)
          have M1' := Lib.hid (M1.out.ext hx)
          clear M1
          have M1 := Lib.hid (M1'.out)
          clear M1'
          have HBB' := Lib.hid (ext_blk hx HBB.out)
          clear HBB
          have HBB := Lib.hid (HBB'.out)
          clear HBB'
          obtain ⟨a, ha⟩ : ∃ x, x = wk.heap.size := ⟨_, rfl⟩
          have HWa := Lib.hid (show w2.heap.size ≤ a by rw [ha]; exact EN.out.size)
          have HAB := Lib.hid (show a ≠ b from fun e => by omega)
          clear hab
          rw [← ha] at HA ⊢
          clear hx EN ha
          ((with_reducible refine bush_step ?_ ?_ ?_ (fun wk k1 => ?_)); rotate_left; (rfl); (first | exact want_none rfl | exact want_some rfl rfl rfl rfl))
          have EN := Lib.hid (E.out.trans k1)
          have M1' := Lib.hid (M1.out.ext k1)
          clear M1
          have M1 := Lib.hid (M1'.out)
          clear M1'
          have HA' := Lib.hid (ext_blk k1 HA.out)
          clear HA
          have HA := Lib.hid (HA'.out)
          clear HA'
          have HBB' := Lib.hid (ext_blk k1 HBB.out)
          clear HBB
          have HBB := Lib.hid (HBB'.out)
          clear HBB'
          clear E
          clear k1
          go_simp
          have HU := Lib.hid M1.out.under
          (with_reducible refine (HMK.out _ EN.out).mono ?_)
          unfold Mk2Post
          rintro e wf2 ⟨Al2, cl2, Aq2, cq2, qs2, rfl, hm, hx⟩
          refine ⟨(LBelow_way _).ext hx, ?_⟩
          try simp only [Act.put, List.setIfInBounds_toArray, List.set_cons_zero, List.set_cons_succ]
          have E := Lib.hid (EN.out.trans hx)
          have M1' := Lib.hid (M1.out.ext hx)
          clear M1
          have M1 := Lib.hid (M1'.out)
          clear M1'
          have HA' := Lib.hid (ext_blk hx HA.out)
          clear HA
          have HA := Lib.hid (HA'.out)
          clear HA'
          have HBB' := Lib.hid (ext_blk hx HBB.out)
          clear HBB
          have HBB := Lib.hid (HBB'.out)
          clear HBB'
          obtain ⟨B2, hB2⟩ : ∃ B, B = wk.heap.size := ⟨_, rfl⟩
          have HW2 := Lib.hid (show w2.heap.size ≤ B2 by rw [hB2]; exact EN.out.size)
          rw [← hB2] at hm
          rw [← hB2] at HU
          have M2 := Lib.hid hm
          clear hm hx EN hB2
          ((with_reducible refine bush_step ?_ ?_ ?_ (fun wk k1 => ?_)); rotate_left; (rfl); (first | exact want_none rfl | exact want_some rfl rfl rfl rfl))
          have M1' := Lib.hid (M1.out.ext k1)
          have M2' := Lib.hid (M2.out.ext k1)
          have EN := Lib.hid (E.out.trans k1)
          have ha := ext_blk k1 HA.out
          have hb := Lib.hid (ext_blk k1 HBB.out)
          clear k1 M1 M2 HA HBB E
          have d0 := bcel ha 0 (.slice none 0 0) rfl
          have d1 := bcel ha 1 (.slice none 0 0) rfl
          have fd := fun j => bfre ha j
          go_simp
          have hgr := grown2 wk a (.slice Al1 nl cl1) (.slice Aq1 ds.length cq1)
          refine ⟨fun _ => grown_below hgr EN.out.size (fun k hk => by injection hk with hk; have := HWa.out; omega), ?_⟩
          try simp only [Act.put, List.setIfInBounds_toArray, List.set_cons_zero, List.set_cons_succ]
          have hb6 := bset2s ha (.slice Al1 nl cl1) (.slice Aq1 ds.length cq1)
          obtain ⟨W6, hW6⟩ : ∃ W6, W6 = ((wk.setCell ⟨a, 0, none⟩ (.slice Al1 nl cl1)).setCell ⟨a, 1, none⟩ (.slice Aq1 ds.length cq1)) := ⟨_, rfl⟩
          rw [← hW6] at hgr hb6 ⊢
          have HA6 := Lib.hid hb6
          have HB6 := Lib.hid (show W6.heap[b]? = some (.cells #[.slice none 0 0, .slice none 0 0] 30 (0, 0)) from (hgr.block b (Array.getElem?_eq_some_iff.1 hb.out).1 (fun e => by injection e with e; exact HAB.out e.symm)).trans hb.out)
          have M16 := Lib.hid (M1'.out.turn hgr ha)
          have M26 := Lib.hid (M2'.out.turn hgr ha)
          have E6 := Lib.hid (ext_grownS EN.out hgr HWa.out)
          clear hW6 hgr hb6 ha d0 d1 fd M1' M2' EN hb
          ((with_reducible refine bush_step ?_ ?_ ?_ (fun wk k1 => ?_)); rotate_left; (rfl); (first | exact want_none rfl | exact want_some rfl rfl rfl rfl))
          have M1' := Lib.hid (M16.out.ext k1)
          have M2' := Lib.hid (M26.out.ext k1)
          have EN := Lib.hid (E6.out.trans k1)
          have hb := ext_blk k1 HB6.out
          have ha := Lib.hid (ext_blk k1 HA6.out)
          clear k1 M16 M26 HA6 HB6 E6
          have d0 := bcel hb 0 (.slice none 0 0) rfl
          have d1 := bcel hb 1 (.slice none 0 0) rfl
          have fd := fun j => bfre hb j
          go_simp
          have hgr := grown2 wk b (.slice Al2 nl cl2) (.slice Aq2 ds.length cq2)
          refine ⟨fun _ => grown_below hgr EN.out.size (fun k hk => by injection hk with hk; have := HWb.out; omega), ?_⟩
          try simp only [Act.put, List.setIfInBounds_toArray, List.set_cons_zero, List.set_cons_succ]
          have hb7 := bset2s hb (.slice Al2 nl cl2) (.slice Aq2 ds.length cq2)
          obtain ⟨W7, hW7⟩ : ∃ W7, W7 = ((wk.setCell ⟨b, 0, none⟩ (.slice Al2 nl cl2)).setCell ⟨b, 1, none⟩ (.slice Aq2 ds.length cq2)) := ⟨_, rfl⟩
          rw [← hW7] at hgr hb7 ⊢
          refine bush_done (fun wz k1 => ?_)
          have hfin := Lib.hid (show Mid w2 nl ds (.pointer (some ⟨a, 0, none⟩)) (.pointer (some ⟨b, 0, none⟩)) wz from
            ⟨a, b, B1, B2, Al1, Aq1, Al2, Aq2, cl1, cq1, cl2, cq2, qs1, qs2, rfl, rfl, HAB.out, HWa.out, HWb.out,
              ext_blk k1 ((hgr.block a (Array.getElem?_eq_some_iff.1 ha.out).1 (fun e => by injection e with e; exact HAB.out e)).trans ha.out), ext_blk k1 hb7,
              (M1'.out.turn hgr hb).ext k1, (M2'.out.turn hgr hb).ext k1, HU.out, HW1.out, HW2.out, (ext_grownS EN.out hgr HWb.out).trans k1⟩)
          clear k1 hW7 hgr hb7 hb d0 d1 fd
          go_wp2
          go_meet
          case rel => exact hfin.out
      · have EN := Lib.hid (E.out.trans k1)
        have HBB' := Lib.hid (ext_blk k1 HBB.out)
        clear HBB
        have HBB := Lib.hid (HBB'.out)
        clear HBB'
        clear E
        clear k1
        go_simp
        have hab := (Array.getElem?_eq_some_iff.1 HBB.out).1
        refine ⟨(LBelow_way _).ext (ext_alloc _ _), ?_⟩
        try simp only [Act.put, List.setIfInBounds_toArray, List.set_cons_zero, List.set_cons_succ]
        have HA := Lib.hid (heap_alloc_new wk (.cells #[.slice none 0 0, .slice none 0 0] 30 (0, 0)))
        have hx := ext_alloc wk (.cells #[.slice none 0 0, .slice none 0 0] 30 (0, 0))
        have E := Lib.hid (EN.out.trans hx)
        have HBB' := Lib.hid (ext_blk hx HBB.out)
        clear HBB
        have HBB := Lib.hid (HBB'.out)
        clear HBB'
        obtain ⟨a, ha⟩ : ∃ x, x = wk.heap.size := ⟨_, rfl⟩
        have HWa := Lib.hid (show w2.heap.size ≤ a by rw [ha]; exact EN.out.size)
        have HAB := Lib.hid (show a ≠ b from fun e => by omega)
        clear hab
        rw [← ha] at HA ⊢
        clear hx EN ha
        ((with_reducible refine bush_step ?_ ?_ ?_ (fun wk k1 => ?_)); rotate_left; (rfl); (first | exact want_none rfl | exact want_some rfl rfl rfl rfl))
        have EN := Lib.hid (E.out.trans k1)
        have HA' := Lib.hid (ext_blk k1 HA.out)
        clear HA
        have HA := Lib.hid (HA'.out)
        clear HA'
        have HBB' := Lib.hid (ext_blk k1 HBB.out)
        clear HBB
        have HBB := Lib.hid (HBB'.out)
        clear HBB'
        clear E
        clear k1
        go_simp
        (with_reducible refine (HMK.out _ EN.out).mono ?_)
        unfold Mk2Post
        rintro e wf1 ⟨Al1, cl1, Aq1, cq1, qs1, rfl, hm, hx⟩
        refine ⟨(LBelow_way _).ext hx, ?_⟩
        try simp only [Act.put, List.setIfInBounds_toArray, List.set_cons_zero, List.set_cons_succ]
        have E := Lib.hid (EN.out.trans hx)
        have HA' := Lib.hid (ext_blk hx HA.out)
        clear HA
        have HA := Lib.hid (HA'.out)
        clear HA'
        have HBB' := Lib.hid (ext_blk hx HBB.out)
        clear HBB
        have HBB := Lib.hid (HBB'.out)
        clear HBB'
        obtain ⟨B1, hB1⟩ : ∃ B, B = wk.heap.size := ⟨_, rfl⟩
        have HW1 := Lib.hid (show w2.heap.size ≤ B1 by rw [hB1]; exact EN.out.size)
        rw [← hB1] at hm
        have M1 := Lib.hid hm
        clear hm hx EN hB1
        ((with_reducible refine bush_step ?_ ?_ ?_ (fun wk k1 => ?_)); rotate_left; (rfl); (first | exact want_none rfl | exact want_some rfl rfl rfl rfl))
        have EN := Lib.hid (E.out.trans k1)
        have M1' := Lib.hid (M1.out.ext k1)
        clear M1
        have M1 := Lib.hid (M1'.out)
        clear M1'
        have HA' := Lib.hid (ext_blk k1 HA.out)
        clear HA
        have HA := Lib.hid (HA'.out)
        clear HA'
        have HBB' := Lib.hid (ext_blk k1 HBB.out)
        clear HBB
        have HBB := Lib.hid (HBB'.out)
        clear HBB'
        clear E
        clear k1
        go_simp
        have HU := Lib.hid M1.out.under
        (with_reducible refine (HMK.out _ EN.out).mono ?_)
        unfold Mk2Post
        rintro e wf2 ⟨Al2, cl2, Aq2, cq2, qs2, rfl, hm, hx⟩
        refine ⟨(LBelow_way _).ext hx, ?_⟩
        try simp only [Act.put, List.setIfInBounds_toArray, List.set_cons_zero, List.set_cons_succ]
        have E := Lib.hid (EN.out.trans hx)
        have M1' := Lib.hid (M1.out.ext hx)
        clear M1
        have M1 := Lib.hid (M1'.out)
        clear M1'
        have HA' := Lib.hid (ext_blk hx HA.out)
        clear HA
        have HA := Lib.hid (HA'.out)
        clear HA'
        have HBB' := Lib.hid (ext_blk hx HBB.out)
        clear HBB
        have HBB := Lib.hid (HBB'.out)
        clear HBB'
        obtain ⟨B2, hB2⟩ : ∃ B, B = wk.heap.size := ⟨_, rfl⟩
        have HW2 := Lib.hid (show w2.heap.size ≤ B2 by rw [hB2]; exact EN.out.size)
        rw [← hB2] at hm
        rw [← hB2] at HU
        have M2 := Lib.hid hm
        clear hm hx EN hB2
        ((with_reducible refine bush_step ?_ ?_ ?_ (fun wk k1 => ?_)); rotate_left; (rfl); (first | exact want_none rfl | exact want_some rfl rfl rfl rfl))
        have M1' := Lib.hid (M1.out.ext k1)
        have M2' := Lib.hid (M2.out.ext k1)
        have EN := Lib.hid (E.out.trans k1)
        have ha := ext_blk k1 HA.out
        have hb := Lib.hid (ext_blk k1 HBB.out)
        clear k1 M1 M2 HA HBB E
        have d0 := bcel ha 0 (.slice none 0 0) rfl
        have d1 := bcel ha 1 (.slice none 0 0) rfl
        have fd := fun j => bfre ha j
        go_simp
        have hgr := grown2 wk a (.slice Al1 nl cl1) (.slice Aq1 ds.length cq1)
        refine ⟨fun _ => grown_below hgr EN.out.size (fun k hk => by injection hk with hk; have := HWa.out; omega), ?_⟩
        try simp only [Act.put, List.setIfInBounds_toArray, List.set_cons_zero, List.set_cons_succ]
        have hb6 := bset2s ha (.slice Al1 nl cl1) (.slice Aq1 ds.length cq1)
        obtain ⟨W6, hW6⟩ : ∃ W6, W6 = ((wk.setCell ⟨a, 0, none⟩ (.slice Al1 nl cl1)).setCell ⟨a, 1, none⟩ (.slice Aq1 ds.length cq1)) := ⟨_, rfl⟩
        rw [← hW6] at hgr hb6 ⊢
        have HA6 := Lib.hid hb6
        have HB6 := Lib.hid (show W6.heap[b]? = some (.cells #[.slice none 0 0, .slice none 0 0] 30 (0, 0)) from (hgr.block b (Array.getElem?_eq_some_iff.1 hb.out).1 (fun e => by injection e with e; exact HAB.out e.symm)).trans hb.out)
        have M16 := Lib.hid (M1'.out.turn hgr ha)
        have M26 := Lib.hid (M2'.out.turn hgr ha)
        have E6 := Lib.hid (ext_grownS EN.out hgr HWa.out)
        clear hW6 hgr hb6 ha d0 d1 fd M1' M2' EN hb
        ((with_reducible refine bush_step ?_ ?_ ?_ (fun wk k1 => ?_)); rotate_left; (rfl); (first | exact want_none rfl | exact want_some rfl rfl rfl rfl))
        have M1' := Lib.hid (M16.out.ext k1)
        have M2' := Lib.hid (M26.out.ext k1)
        have EN := Lib.hid (E6.out.trans k1)
        have hb := ext_blk k1 HB6.out
        have ha := Lib.hid (ext_blk k1 HA6.out)
        clear k1 M16 M26 HA6 HB6 E6
        have d0 := bcel hb 0 (.slice none 0 0) rfl
        have d1 := bcel hb 1 (.slice none 0 0) rfl
        have fd := fun j => bfre hb j
        go_simp
        have hgr := grown2 wk b (.slice Al2 nl cl2) (.slice Aq2 ds.length cq2)
        refine ⟨fun _ => grown_below hgr EN.out.size (fun k hk => by injection hk with hk; have := HWb.out; omega), ?_⟩
        try simp only [Act.put, List.setIfInBounds_toArray, List.set_cons_zero, List.set_cons_succ]
        have hb7 := bset2s hb (.slice Al2 nl cl2) (.slice Aq2 ds.length cq2)
        obtain ⟨W7, hW7⟩ : ∃ W7, W7 = ((wk.setCell ⟨b, 0, none⟩ (.slice Al2 nl cl2)).setCell ⟨b, 1, none⟩ (.slice Aq2 ds.length cq2)) := ⟨_, rfl⟩
        rw [← hW7] at hgr hb7 ⊢
        refine bush_done (fun wz k1 => ?_)
        have hfin := Lib.hid (show Mid w2 nl ds (.pointer (some ⟨a, 0, none⟩)) (.pointer (some ⟨b, 0, none⟩)) wz from
          ⟨a, b, B1, B2, Al1, Aq1, Al2, Aq2, cl1, cq1, cl2, cq2, qs1, qs2, rfl, rfl, HAB.out, HWa.out, HWb.out,
            ext_blk k1 ((hgr.block a (Array.getElem?_eq_some_iff.1 ha.out).1 (fun e => by injection e with e; exact HAB.out e)).trans ha.out), ext_blk k1 hb7,
            (M1'.out.turn hgr hb).ext k1, (M2'.out.turn hgr hb).ext k1, HU.out, HW1.out, HW2.out, (ext_grownS EN.out hgr HWb.out).trans k1⟩)
        clear k1 hW7 hgr hb7 hb d0 d1 fd
        go_wp2
        go_meet
        case rel => exact hfin.out
  case rest =>
  obtain ⟨a, b, B1, B2, Al1, Aq1, Al2, Aq2, cl1, cq1, cl2, cq2, qs1, qs2, rfl, rfl, hab, ha, hb, hA, hB, hm1, hm2, hu, hB1, hB2, hx⟩ := hcut
  have HP1 := Lib.hid (show 0 < (labsM nl).length by rw [labsM_len HNL.out.2]; exact HNL.out.1)
  have HSP := Lib.hid (show ∀ d ∈ ds, d.caps.length = nl ∧ 0 ≤ d.user ∧ d.user < 1000000 ∧ d.path.length ≤ 20 ∧ ∀ p ∈ d.caps, 0 ≤ p.1 ∧ p.1 ≤ 10000 ∧ 0 ≤ p.2 ∧ p.2 ≤ 10000 by rw [HDS.out]; exact makeQ_spec nl _)
  have HLN := Lib.hid (show ds.length ≤ 16 by rw [HDS.out]; have := makeQ_len nl (rs.take 16); rw [List.length_take] at this; omega)
  have HAB := Lib.hid hab
  have HWA := Lib.hid (show w2.heap.size ≤ a ∧ w2.heap.size ≤ b ∧ w2.heap.size ≤ B1 ∧ w2.heap.size ≤ B2 from ⟨ha, hb, hB1, hB2⟩)
  have HA0 := Lib.hid hA
  have HB0 := Lib.hid hB
  have M10 := Lib.hid hm1
  have M20 := Lib.hid hm2
  have HU := Lib.hid hu
  have EX0 := Lib.hid hx
  clear hab ha hb hA hB hm1 hm2 hu hB1 hB2 hx HMK HDS
  obtain ⟨nq, hnq⟩ : ∃ n, n = ds.length := ⟨_, rfl⟩
  rw [← hnq] at HA0 HB0 M10 M20 HU HLN
  have HNQ := Lib.hid hnq
  clear hnq
  have HS0 := Lib.hid (same_at true M10.out M20.out HP1.out HP1.out (by simp))
  have a0 := bcel HA0.out 0 (.slice Al1 nl cl1) rfl
  have a1 := bcel HA0.out 1 (.slice Aq1 nq cq1) rfl
  have b0 := bcel HB0.out 0 (.slice Al2 nl cl2) rfl
  have b1 := bcel HB0.out 1 (.slice Aq2 nq cq2) rfl
  go_wp2_with fail
  (with_reducible refine (HS0.out).mono ?_)
  unfold SamePost
  rintro e wd ⟨rfl, hx⟩
  have HA1 := Lib.hid (ext_blk hx HA0.out)
  have HB1 := Lib.hid (ext_blk hx HB0.out)
  have M11 := Lib.hid (M10.out.ext hx)
  have M21 := Lib.hid (M20.out.ext hx)
  have EX1 := Lib.hid (EX0.out.trans hx)
  clear hx HA0 HB0 M10 M20 EX0 a0 a1 b0 b1 HS0
  have b0 := bcel HB1.out 0 (.slice Al2 nl cl2) rfl
  have b1 := bcel HB1.out 1 (.slice Aq2 nq cq2) rfl
  have bf := fun j => bfre HB1.out j
  by_cases hn0 : nq = 0
  · subst hn0
    obtain ⟨i0, hi, hz0, hz1, hz2⟩ := info_parts Tryd.infoStr
    have HL := Lib.hid (show wd.ownsRow B2 9 1 (.slice Al2 nl cl2) nl ((labsM nl).map sv) by have h := M21.out.labs; rwa [labsM_len HNL.out.2] at h)
    obtain ⟨gl, cur, hAl2, hgl, hcur, _, _, _⟩ := own_headS HL.out (by have := HNL.out; omega)
    subst hAl2
    have HGL := Lib.hid hgl
    have HCUR := Lib.hid (fun o => ext_blk (ext_alloc wd o) hcur)
    have HBS := Lib.hid (show B2 ≤ wd.heap.size by have := (Array.getElem?_eq_some_iff.1 hcur).1; omega)
    have b0 := fun o => bcel (ext_blk (ext_alloc wd o) HB1.out) 0 (.slice (some ⟨gl, 0, none⟩) nl cl2) rfl
    clear hgl hcur
    go_wp2_with (at_builtin; go_loud (refine wpList_append_own_at _ rfl (.tmp 28) (.tmp 29) 27 rfl B2 9 i0 _ 1 16 Tryd.underlying27 hi hz0 hz1 hz2 rfl (by decide) _ nl ((labsM nl).map sv) rfl (own_ExtK HL.out (ext_alloc _ _)) ⟨wd.heap.size, 0, none⟩ 1 1 [.string ⟨#[120]⟩] rfl rfl (cell_one_new _ _ _) (by simp [Value.oneCell']) ?c3 ?c4 ?c5 ?_))
    case c3 => have := HNL.out; simp [maxLen]; omega
    case c4 => have := HNL.out; omega
    case c5 => have := HBS.out; simp; omega
    intro v' w5 ho5 hg5 _ hat5
    obtain ⟨A5, c5, rfl, _, _⟩ := own_shape ho5
    have hgo : (Value.slice (some (⟨gl, 0, none⟩ : Addr)) nl cl2).ownBlock = some gl := rfl
    rw [hgo] at hg5
    have e0 := ext_alloc wd (.cells #[.string ⟨#[120]⟩] 9)
    have HA5 := Lib.hid (show w5.heap[a]? = some (.cells #[.slice Al1 nl cl1, .slice Aq1 0 cq1] 30 (0, 0)) from bapp e0 hg5 HA1.out (fun e => by injection e with e; have h1 := HCUR.out (.cells #[.string ⟨#[120]⟩] 9); rw [e, ext_blk e0 HA1.out] at h1; injection h1 with h1; injection h1 with _ h2; exact absurd h2 (by decide)))
    have HB5 := Lib.hid (show w5.heap[b]? = some (.cells #[.slice (some ⟨gl, 0, none⟩) nl cl2, .slice Aq2 0 cq2] 30 (0, 0)) from bapp e0 hg5 HB1.out (fun e => by injection e with e; have h1 := HCUR.out (.cells #[.string ⟨#[120]⟩] 9); rw [e, ext_blk e0 HB1.out] at h1; injection h1 with h1; injection h1 with _ h2; exact absurd h2 (by decide)))
    have M15 := Lib.hid ((M11.out.ext e0).grown HU.out hg5 HGL.out)
    have M25 := Lib.hid (show MkAt w5 B2 (.slice A5 (nl + 1) c5) (.slice Aq2 0 cq2) (labsM nl ++ [[120]]) ds qs2 from
      ⟨by rw [List.length_append, labsM_len HNL.out.2, List.length_singleton, List.map_append]; exact ho5, (M21.out.queues.ext e0).kept hg5 (HCUR.out _) (by decide) (by decide)⟩)
    have EX5 := Lib.hid (ext_grownS (EX1.out.trans e0) hg5 (by have := HWA.out; have := HGL.out; omega))
    clear ho5 hg5 hat5 hgo e0 HL HCUR HBS b0 b1 bf HA1 HB1 M11 M21 EX1
    have b0 := bcel HB5.out 0 (.slice (some ⟨gl, 0, none⟩) nl cl2) rfl
    have bf := fun j => bfre HB5.out j
    go_upto_region 10 with fail
    refine at_world (fun WX hWX => ?_)
    have hg6 := bgrown w5 b 0 (.slice A5 (nl + 1) c5)
    have hb6 := bset HB5.out 0 (.slice A5 (nl + 1) c5)
    rw [← hWX] at hg6 hb6
    have HA := Lib.hid ((hg6.block a (Array.getElem?_eq_some_iff.1 HA5.out).1 (fun e => by injection e with e; exact HAB.out e)).trans HA5.out)
    have HB := Lib.hid (show WX.heap[b]? = some (.cells #[.slice A5 (nl + 1) c5, .slice Aq2 0 cq2] 30 (0, 0)) from hb6)
    have M1 := Lib.hid (M15.out.turn hg6 HB5.out)
    have M2 := Lib.hid (M25.out.turn hg6 HB5.out)
    have EX := Lib.hid (ext_grownS EX5.out hg6 HWA.out.2.1)
    clear hWX hg6 hb6 b0 bf HA5 HB5 M15 M25 EX5
    have HS1 := Lib.hid (same_at false M1.out M2.out HP1.out (by simp) (by
      simp only [Bool.false_eq_true, false_iff]
      intro h
      have := congrArg List.length h.1
      simp at this))
    have a0 := bcel HA.out 0 (.slice Al1 nl cl1) rfl
    have a1 := bcel HA.out 1 (.slice Aq1 0 cq1) rfl
    have b0 := bcel HB.out 0 (.slice A5 (nl + 1) c5) rfl
    have b1 := bcel HB.out 1 (.slice Aq2 0 cq2) rfl
    go_wp2_with fail
    (with_reducible refine (HS1.out).mono ?_)
    unfold SamePost
    rintro e wa ⟨rfl, hx⟩
    have XF := Lib.hid (X2.out.trans (EX.out.trans hx))
    clear hx
    go_wp2
    go_ret
    exact ⟨rfl, XF.out⟩
  have hn1 : (nq == 0) = false := by simp; omega
  have hn2 : ((nq : Int) == 0) = false := by simp; omega
  have HWK := Lib.hid (fun W => within_some spot nq (nq : Int) W rfl ⟨by omega, by have := HLN.out; omega⟩)
  have HWY := Lib.hid (fun W => within_some which 6 6 W rfl (by omega))
  go_wp2_with fail
  (with_reducible refine (HWK.out _).mono ?_)
  rintro e w3 ⟨k, rfl, hk, rfl⟩
  go_wp2_with fail
  (with_reducible refine (HWY.out _).mono ?_)
  rintro e w3 ⟨y, rfl, hy, rfl⟩
  have hkd : k < ds.length := by have := HNQ.out; omega
  have k0 : (0 : Int) ≤ (k : Int) := by omega
  have k1 : (k : Int) < (nq : Int) := by omega
  obtain ⟨hc1, hu0, hu1, hp1, hcc⟩ := HSP.out _ (List.getElem_mem hkd)
  clear HWK HWY HSP
  have HQ := Lib.hid (show OwnQs wd B2 (.slice Aq2 ds.length cq2) ds qs2 by have h := M21.out.queues; rwa [HNQ.out] at h)
  obtain ⟨gq, cur, hAq2, hgq, hcur, hcq, hfq, _⟩ := own_headS HQ.out.row (by omega)
  subst hAq2
  have HGQ := Lib.hid (show B2 ≤ gq ∧ nq ≤ cq2 from ⟨hgq, by have := HNQ.out; omega⟩)
  have HCQ := Lib.hid hcur
  have HAG := Lib.hid (show a ≠ gq from fun e => by have h1 := HA1.out; rw [e, hcur] at h1; injection h1 with h1; injection h1 with _ h2; exact absurd h2 (by decide))
  have HBG := Lib.hid (show b ≠ gq from fun e => by have h1 := HB1.out; rw [e, hcur] at h1; injection h1 with h1; injection h1 with _ h2; exact absurd h2 (by decide))
  clear hgq hcur hcq
  have hy6 : y = 0 ∨ y = 1 ∨ y = 2 ∨ y = 3 ∨ y = 4 ∨ y = 5 := by omega
  rcases hy6 with rfl | rfl | rfl | rfl | rfl | rfl
  · obtain ⟨q0, g0, c0, hv, q1, q2, q3, hq1⟩ := HQ.out.at hkd
    simp only [Value.slice.injEq, Option.some.injEq, Addr.mk.injEq, and_true, true_and] at hv
    obtain ⟨rfl, rfl⟩ := hv
    obtain ⟨u, hu⟩ : ∃ u, u = q0.u := ⟨_, rfl⟩
    have hud : u = ds[k].user := by rw [hu]; exact hq1.2.1
    rw [← hu] at q3
    have HUD := Lib.hid hud
    have w1 : wrap64 (u + 1) = u + 1 := by unfold wrap64; omega
    have w2' : IntKind.wrap .i64 (u + 1) = u + 1 := by rw [IntKind.wrap_i64]; omega
    clear hu hud hq1 q1 q2
    go_upto_region 25 with fail
    refine at_world (fun WX hWX => ?_)
    clear w1 w2' b0 b1 bf q3
    have hrow := (HQ.out.row.stored (k * 3 + 2) (.int .i64 (u + 1))).1
    rw [← hWX] at hrow
    rw [← qcells_user qs2 k _ (by rw [HQ.out.len]; exact hkd)] at hrow
    have hg6 := bgrown wd gq (k * 3 + 2) (.int .i64 (u + 1))
    rw [← hWX] at hg6
    have HA := Lib.hid ((hg6.block a (Array.getElem?_eq_some_iff.1 HA1.out).1 (fun e => by injection e with e; exact HAG.out e)).trans HA1.out)
    have HB := Lib.hid ((hg6.block b (Array.getElem?_eq_some_iff.1 HB1.out).1 (fun e => by injection e with e; exact HBG.out e)).trans HB1.out)
    have M1 := Lib.hid (M11.out.grown HU.out hg6 HGQ.out.1)
    have hq6 := HQ.out.turn (k := k) (fun q => ⟨q.p, q.A, q.n, q.c, u + 1⟩) (fun d => ⟨d.path, d.caps, u + 1⟩) (fun _ => ⟨rfl, rfl, rfl⟩) (fun _ => rfl) (fun q d h1 h2 => ⟨h1, rfl⟩) hrow hg6
    rw [← HNQ.out] at hq6
    have M2 := Lib.hid (show MkAt WX B2 (.slice Al2 nl cl2) (.slice (some ⟨gq, 0, none⟩) nq cq2) (labsM nl) (ds.modify k (fun d => ⟨d.path, d.caps, u + 1⟩)) _ from ⟨M21.out.labs.kept hg6 (.inr (own_other M21.out.labs HCQ.out (by decide))), hq6⟩)
    have EX := Lib.hid (ext_grownS EX1.out hg6 (by have := HWA.out; have := HGQ.out; omega))
    have HNE := Lib.hid (show ds ≠ ds.modify k (fun d => ⟨d.path, d.caps, u + 1⟩) from modify_ne hkd _ (fun e => by have := congrArg QD.user e; dsimp only at this; have := HUD.out; omega))
    clear hWX hrow hg6 hq6 HA1 HB1 M11 M21 EX1 HQ HCQ HAG HBG
    have HNN := Lib.hid (show ¬ (labsM nl = labsM nl ∧ ds = ds.modify k (fun d => ⟨d.path, d.caps, u + 1⟩)) from (fun h => HNE.out h.2))
    have HS1 := Lib.hid (fun W (x : Ext WX W) => same_no (M1.out.ext x) (M2.out.ext x) HP1.out (by exact HP1.out) HNN.out)
    have HS2 := Lib.hid (fun W (x : Ext WX W) => same_no (M2.out.ext x) (M1.out.ext x) (by exact HP1.out) HP1.out (fun h => HNN.out ⟨h.1.symm, h.2.symm⟩))
    have a0 := bcel HA.out 0 (.slice Al1 nl cl1) rfl
    have a1 := bcel HA.out 1 (.slice Aq1 nq cq1) rfl
    have b0 := bcel HB.out 0 (.slice Al2 nl cl2) rfl
    have b1 := bcel HB.out 1 (.slice (some ⟨gq, 0, none⟩) nq cq2) rfl
    go_wp2_with fail
    (with_reducible refine (HS1.out _ (Ext.refl _)).mono ?_)
    unfold SamePost
    rintro e wa ⟨rfl, hx⟩
    have HX := Lib.hid hx
    have a0 := hx.cell a0
    have a1 := hx.cell a1
    have b0 := hx.cell b0
    have b1 := hx.cell b1
    clear hx
    go_wp2_with fail
    (with_reducible refine (HS2.out _ HX.out).mono ?_)
    unfold SamePost
    rintro e wb ⟨rfl, hx⟩
    have XF := Lib.hid (X2.out.trans (EX.out.trans (HX.out.trans hx)))
    clear hx
    go_wp2
    go_ret
    exact ⟨rfl, XF.out⟩
  · obtain ⟨q0, g0, c0, hv, q1, q2, q3, hq1⟩ := HQ.out.at hkd
    simp only [Value.slice.injEq, Option.some.injEq, Addr.mk.injEq, and_true, true_and] at hv
    obtain ⟨rfl, rfl⟩ := hv
    obtain ⟨P, hP⟩ : ∃ P, P = q0.p := ⟨_, rfl⟩
    have hPD : P.data.toList = ds[k].path := by rw [hP]; exact hq1.1
    rw [← hP] at q1
    have HPD := Lib.hid hPD
    clear hP hPD hq1 q2 q3
    go_upto_region 16 with fail
    refine wp_region_sched (FootL fun i => i = gq) (FootL_way _) [(0, true), (1, true), (2, true), (3, true), (4, true), (5, true), (6, true), (7, true), (8, false), (9, true), (10, true), (11, true), (12, false)] (by kernel_rfl) (by kernel_rfl) (fun _ _ _ _ _ h => h) ?_
    repeat first | ((with_reducible refine sched_free ?_ ?_ ?_ ?_ (fun wk k1 => ?_) ?_); rotate_left 2; (rfl); (first | exact want_none rfl | exact want_some rfl rfl rfl rfl); (go_simp; first | exact OkX.val | (have y1 := k1.cell ((Ext.drew _).cell b1) HBG.out; go_simp; exact OkX.val)); simp only [Act.put, List.setIfInBounds_toArray, List.set_cons_zero, List.set_cons_succ]) | ((with_reducible refine sched_skip ?_ ?_ ?_ ?_); rotate_left; (rfl); (exact want_not rfl rfl rfl rfl rfl); simp only [Act.put, List.setIfInBounds_toArray, List.set_cons_zero, List.set_cons_succ])
    ((with_reducible refine sched_step ?_ ?_ ?_ (fun wk k1 => ?_)); rotate_left; (rfl); (first | exact want_none rfl | exact want_some rfl rfl rfl rfl))
    have E7 := Lib.hid ((Ext.drew _).trans k1)
    have y2 := E7.out.cell q1
    clear k1
    go_simp
    refine ⟨FootL.of_ext (Ext.refl _), ?_⟩
    try simp only [Act.put, List.setIfInBounds_toArray, List.set_cons_zero, List.set_cons_succ]
    clear y2
    have hps : ¬ 9223372036854775807 < P.size + 1 := by rw [ba_size, HPD.out]; omega
    repeat first | ((with_reducible refine sched_free ?_ ?_ ?_ ?_ (fun wk k1 => ?_) ?_); rotate_left 2; (rfl); (first | exact want_none rfl | exact want_some rfl rfl rfl rfl); (go_simp; first | exact OkX.val); simp only [Act.put, List.setIfInBounds_toArray, List.set_cons_zero, List.set_cons_succ]) | ((with_reducible refine sched_skip ?_ ?_ ?_ ?_); rotate_left; (rfl); (exact want_not rfl rfl rfl rfl rfl); simp only [Act.put, List.setIfInBounds_toArray, List.set_cons_zero, List.set_cons_succ])
    clear hps
    ((with_reducible refine sched_step ?_ ?_ ?_ (fun wk k1 => ?_)); rotate_left; (rfl); (first | exact want_none rfl | exact want_some rfl rfl rfl rfl))
    have E8 := Lib.hid (E7.out.trans k1)
    have y2 := E8.out.cell q1
    have fz := E8.out.free (Array.getElem?_eq_some_iff.1 HCQ.out).1 (hfq (k * 3))
    clear k1 E7
    go_simp
    refine ⟨FootL.setCell _ _ _ _ _ rfl, ?_⟩
    try simp only [Act.put, List.setIfInBounds_toArray, List.set_cons_zero, List.set_cons_succ]
    have HQ8 := Lib.hid (HQ.out.ext E8.out)
    have HA1' := Lib.hid (ext_blk E8.out HA1.out)
    have HB1' := Lib.hid (ext_blk E8.out HB1.out)
    have M11' := Lib.hid (M11.out.ext E8.out)
    have M21' := Lib.hid (M21.out.ext E8.out)
    have HCQ' := Lib.hid (ext_blk E8.out HCQ.out)
    have EX1' := Lib.hid (EX1.out.trans E8.out)
    clear y2 fz b0 b1 bf q1 HQ HA1 HB1 M11 M21 HCQ EX1 E8
    have HA1 := Lib.hid HA1'.out
    have HB1 := Lib.hid HB1'.out
    have M11 := Lib.hid M11'.out
    have M21 := Lib.hid M21'.out
    have HCQ := Lib.hid HCQ'.out
    have EX1 := Lib.hid EX1'.out
    have HQ := Lib.hid HQ8.out
    clear HA1' HB1' M11' M21' HCQ' EX1' HQ8
    obtain ⟨P', hP'⟩ : ∃ P', P' = P ++ ⟨#[122]⟩ := ⟨_, rfl⟩
    have HP' := Lib.hid (show P'.data.toList = ds[k].path ++ [122] by rw [hP', ba_appM, HPD.out])
    rw [← hP']
    clear hP'
    refine sched_done (fun wz k1 => ?_)
    have EZ := Lib.hid k1
    clear k1
    obtain ⟨WX0, hWX⟩ : ∃ W, W = wk.setCell ⟨gq, k * 3, none⟩ (.string P') := ⟨_, rfl⟩
    rw [← hWX] at EZ
    have hrow := (HQ.out.row.stored (k * 3) (.string P')).1
    rw [← hWX] at hrow
    rw [← qcells_path qs2 k _ (by rw [HQ.out.len]; exact hkd)] at hrow
    have hg6 := bgrown wk gq (k * 3) (.string P')
    rw [← hWX] at hg6
    have HA' := Lib.hid ((hg6.block a (Array.getElem?_eq_some_iff.1 HA1.out).1 (fun e => by injection e with e; exact HAG.out e)).trans HA1.out)
    have HB' := Lib.hid ((hg6.block b (Array.getElem?_eq_some_iff.1 HB1.out).1 (fun e => by injection e with e; exact HBG.out e)).trans HB1.out)
    have M1' := Lib.hid (M11.out.grown HU.out hg6 HGQ.out.1)
    have hq6 := HQ.out.turn (k := k) (fun q => ⟨P', q.A, q.n, q.c, q.u⟩) (fun d => ⟨ds[k].path ++ [122], d.caps, d.user⟩) (fun _ => ⟨rfl, rfl, rfl⟩) (fun _ => rfl) (fun q d h1 h2 => ⟨HP'.out, h2⟩) hrow hg6
    rw [← HNQ.out] at hq6
    have M2' := Lib.hid (show MkAt WX0 B2 (.slice Al2 nl cl2) (.slice (some ⟨gq, 0, none⟩) nq cq2) (labsM nl) (ds.modify k (fun d => ⟨ds[k].path ++ [122], d.caps, d.user⟩)) _ from ⟨M21.out.labs.kept hg6 (.inr (own_other M21.out.labs HCQ.out (by decide))), hq6⟩)
    have EX' := Lib.hid (ext_grownS EX1.out hg6 (by have := HWA.out; have := HGQ.out; omega))
    have HNE := Lib.hid (show ds ≠ ds.modify k (fun d => ⟨ds[k].path ++ [122], d.caps, d.user⟩) from modify_ne hkd _ (fun e => by have h1 := congrArg QD.path e; have h2 := congrArg List.length h1; simp at h2))
    have HA := Lib.hid (ext_blk EZ.out HA'.out)
    have HB := Lib.hid (ext_blk EZ.out HB'.out)
    have M1 := Lib.hid (M1'.out.ext EZ.out)
    have M2 := Lib.hid (M2'.out.ext EZ.out)
    have EX := Lib.hid (EX'.out.trans EZ.out)
    clear hWX hrow hg6 hq6 HA1 HB1 M11 M21 EX1 HQ HCQ HAG HBG HA' HB' M1' M2' EX' EZ
    go_upto_region 25 with fail
    refine at_world (fun WX hWX => ?_)
    subst hWX
    have HNN := Lib.hid (show ¬ (labsM nl = labsM nl ∧ ds = ds.modify k (fun d => ⟨ds[k].path ++ [122], d.caps, d.user⟩)) from (fun h => HNE.out h.2))
    have HS1 := Lib.hid (fun W (x : Ext WX W) => same_no (M1.out.ext x) (M2.out.ext x) HP1.out (by exact HP1.out) HNN.out)
    have HS2 := Lib.hid (fun W (x : Ext WX W) => same_no (M2.out.ext x) (M1.out.ext x) (by exact HP1.out) HP1.out (fun h => HNN.out ⟨h.1.symm, h.2.symm⟩))
    have a0 := bcel HA.out 0 (.slice Al1 nl cl1) rfl
    have a1 := bcel HA.out 1 (.slice Aq1 nq cq1) rfl
    have b0 := bcel HB.out 0 (.slice Al2 nl cl2) rfl
    have b1 := bcel HB.out 1 (.slice (some ⟨gq, 0, none⟩) nq cq2) rfl
    go_wp2_with fail
    (with_reducible refine (HS1.out _ (Ext.refl _)).mono ?_)
    unfold SamePost
    rintro e wa ⟨rfl, hx⟩
    have HX := Lib.hid hx
    have a0 := hx.cell a0
    have a1 := hx.cell a1
    have b0 := hx.cell b0
    have b1 := hx.cell b1
    clear hx
    go_wp2_with fail
    (with_reducible refine (HS2.out _ HX.out).mono ?_)
    unfold SamePost
    rintro e wb ⟨rfl, hx⟩
    have XF := Lib.hid (X2.out.trans (EX.out.trans (HX.out.trans hx)))
    clear hx
    go_wp2
    go_ret
    exact ⟨rfl, XF.out⟩
  · have hcl : 0 < (ds[k]).caps.length := by rw [hc1]; exact HNL.out.1
    obtain ⟨gq', cq', g, c, hv, q2, hg1, hg2, ⟨cur, hg3⟩, hg4, hg5, hg6', hput⟩ := HQ.out.put hkd hcl
    simp only [Value.slice.injEq, Option.some.injEq, Addr.mk.injEq, and_true, true_and] at hv
    obtain ⟨rfl, rfl⟩ := hv
    obtain ⟨l, hl⟩ : ∃ l, l = ((ds[k]).caps[0]).1 := ⟨_, rfl⟩
    obtain ⟨m, hm⟩ : ∃ m, m = ((ds[k]).caps[0]).2 := ⟨_, rfl⟩
    have hlm := hcc _ (List.getElem_mem hcl)
    rw [← hl, ← hm] at hlm
    rw [← hl] at hg5
    rw [← hm] at hg6'
    rw [Nat.zero_mul] at hg5 hg6' hput
    rw [Nat.zero_add] at hg6' hput
    obtain ⟨nc, hnc⟩ : ∃ n, n = (ds[k]).caps.length := ⟨_, rfl⟩
    rw [← hnc] at q2 hcl
    have hci : (0 : Int) < (nc : Int) := by omega
    have w1 : wrap64 (l + 1) = l + 1 := by unfold wrap64; omega
    have w2' : IntKind.wrap .i64 (l + 1) = l + 1 := by rw [IntKind.wrap_i64]; omega
    have w3 : wrap64 (m - 1) = m - 1 := by unfold wrap64; omega
    have w4 : IntKind.wrap .i64 (m - 1) = m - 1 := by rw [IntKind.wrap_i64]; omega
    have HPUT := Lib.hid hput
    have HLM := Lib.hid (show l = ((ds[k]).caps[0]'(by rw [← hnc]; exact hcl)).1 ∧ m = ((ds[k]).caps[0]'(by rw [← hnc]; exact hcl)).2 from ⟨hl, hm⟩)
    have HG3 := Lib.hid hg3
    have HG1 := Lib.hid hg1
    clear hput hl hm hlm hg1 hg2 hg3 hcc hu0 hu1 hp1
    go_upto_region 25 with fail
    refine at_world (fun WX hWX => ?_)
    have hst : (wd.setCell ⟨g, 0, none⟩ (.int .i64 (l + 1))).setCell ⟨g, 1, none⟩ (.int .i64 m) = WX := by
      rw [hWX]
      exact setCell_id (by rw [World.cell?_setCell_other _ _ _ _ (by simp)]; exact hg6')
    obtain ⟨hq6, hg6⟩ := HPUT.out (l + 1) m
    rw [hst] at hq6
    have hg6 : wd.grownBy WX (some g) := by rw [hWX]; exact bgrown wd g 0 (.int .i64 (l + 1))
    have HAC := Lib.hid (show a ≠ g from fun e => by have h1 := HA1.out; rw [e, HG3.out] at h1; injection h1 with h1; injection h1 with _ h2; exact absurd h2 (by decide))
    have HBC := Lib.hid (show b ≠ g from fun e => by have h1 := HB1.out; rw [e, HG3.out] at h1; injection h1 with h1; injection h1 with _ h2; exact absurd h2 (by decide))
    have HA := Lib.hid ((hg6.block a (Array.getElem?_eq_some_iff.1 HA1.out).1 (fun e => by injection e with e; exact HAC.out e)).trans HA1.out)
    have HB := Lib.hid ((hg6.block b (Array.getElem?_eq_some_iff.1 HB1.out).1 (fun e => by injection e with e; exact HBC.out e)).trans HB1.out)
    have M1 := Lib.hid (M11.out.grown HU.out hg6 HG1.out)
    rw [← HNQ.out] at hq6
    have M2 := Lib.hid (show MkAt WX B2 (.slice Al2 nl cl2) (.slice (some ⟨gq, 0, none⟩) nq cq2) (labsM nl) (putCap ds k 0 (l + 1) m) _ from ⟨M21.out.labs.kept hg6 (.inr (own_other M21.out.labs HG3.out (by decide))), hq6⟩)
    have EX := Lib.hid (ext_grownS EX1.out hg6 (by have := HWA.out; have := HG1.out; omega))
    have HNE := Lib.hid (show ds ≠ putCap ds k 0 (l + 1) m from modify_ne hkd _ (fun e => by
      have h1 := congrArg (fun d : QD => d.caps[0]?) e
      dsimp only at h1
      rw [List.getElem?_set, List.getElem?_eq_getElem (by rw [← hnc]; exact hcl)] at h1
      simp [← hnc, hcl] at h1
      have h2 := HLM.out
      have h3 := congrArg Prod.fst h1; dsimp only at h3; omega))
    clear hWX hst hq6 hg6 HPUT HA1 HB1 M11 M21 EX1 HQ HCQ HAG HBG w1 w2' w3 w4 b0 b1 bf q2 hg4 hg5 hg6'
    have HNN := Lib.hid (show ¬ (labsM nl = labsM nl ∧ ds = putCap ds k 0 (l + 1) m) from (fun h => HNE.out h.2))
    have HS1 := Lib.hid (fun W (x : Ext WX W) => same_no (M1.out.ext x) (M2.out.ext x) HP1.out (by exact HP1.out) HNN.out)
    have HS2 := Lib.hid (fun W (x : Ext WX W) => same_no (M2.out.ext x) (M1.out.ext x) (by exact HP1.out) HP1.out (fun h => HNN.out ⟨h.1.symm, h.2.symm⟩))
    have a0 := bcel HA.out 0 (.slice Al1 nl cl1) rfl
    have a1 := bcel HA.out 1 (.slice Aq1 nq cq1) rfl
    have b0 := bcel HB.out 0 (.slice Al2 nl cl2) rfl
    have b1 := bcel HB.out 1 (.slice (some ⟨gq, 0, none⟩) nq cq2) rfl
    go_wp2_with fail
    (with_reducible refine (HS1.out _ (Ext.refl _)).mono ?_)
    unfold SamePost
    rintro e wa ⟨rfl, hx⟩
    have HX := Lib.hid hx
    have a0 := hx.cell a0
    have a1 := hx.cell a1
    have b0 := hx.cell b0
    have b1 := hx.cell b1
    clear hx
    go_wp2_with fail
    (with_reducible refine (HS2.out _ HX.out).mono ?_)
    unfold SamePost
    rintro e wb ⟨rfl, hx⟩
    have XF := Lib.hid (X2.out.trans (EX.out.trans (HX.out.trans hx)))
    clear hx
    go_wp2
    go_ret
    exact ⟨rfl, XF.out⟩
  · have hcl : 0 < (ds[k]).caps.length := by rw [hc1]; exact HNL.out.1
    obtain ⟨gq', cq', g, c, hv, q2, hg1, hg2, ⟨cur, hg3⟩, hg4, hg5, hg6', hput⟩ := HQ.out.put hkd hcl
    simp only [Value.slice.injEq, Option.some.injEq, Addr.mk.injEq, and_true, true_and] at hv
    obtain ⟨rfl, rfl⟩ := hv
    obtain ⟨l, hl⟩ : ∃ l, l = ((ds[k]).caps[0]).1 := ⟨_, rfl⟩
    obtain ⟨m, hm⟩ : ∃ m, m = ((ds[k]).caps[0]).2 := ⟨_, rfl⟩
    have hlm := hcc _ (List.getElem_mem hcl)
    rw [← hl, ← hm] at hlm
    rw [← hl] at hg5
    rw [← hm] at hg6'
    rw [Nat.zero_mul] at hg5 hg6' hput
    rw [Nat.zero_add] at hg6' hput
    obtain ⟨nc, hnc⟩ : ∃ n, n = (ds[k]).caps.length := ⟨_, rfl⟩
    rw [← hnc] at q2 hcl
    have hci : (0 : Int) < (nc : Int) := by omega
    have w1 : wrap64 (l + 1) = l + 1 := by unfold wrap64; omega
    have w2' : IntKind.wrap .i64 (l + 1) = l + 1 := by rw [IntKind.wrap_i64]; omega
    have w3 : wrap64 (m - 1) = m - 1 := by unfold wrap64; omega
    have w4 : IntKind.wrap .i64 (m - 1) = m - 1 := by rw [IntKind.wrap_i64]; omega
    have HPUT := Lib.hid hput
    have HLM := Lib.hid (show l = ((ds[k]).caps[0]'(by rw [← hnc]; exact hcl)).1 ∧ m = ((ds[k]).caps[0]'(by rw [← hnc]; exact hcl)).2 from ⟨hl, hm⟩)
    have HG3 := Lib.hid hg3
    have HG1 := Lib.hid hg1
    clear hput hl hm hlm hg1 hg2 hg3 hcc hu0 hu1 hp1
    go_upto_region 25 with fail
    refine at_world (fun WX hWX => ?_)
    have hst : (wd.setCell ⟨g, 0, none⟩ (.int .i64 l)).setCell ⟨g, 1, none⟩ (.int .i64 (m - 1)) = WX := by
      rw [hWX]
      rw [setCell_id hg5]
    obtain ⟨hq6, hg6⟩ := HPUT.out l (m - 1)
    rw [hst] at hq6
    have hg6 : wd.grownBy WX (some g) := by rw [hWX]; exact bgrown wd g 1 (.int .i64 (m - 1))
    have HAC := Lib.hid (show a ≠ g from fun e => by have h1 := HA1.out; rw [e, HG3.out] at h1; injection h1 with h1; injection h1 with _ h2; exact absurd h2 (by decide))
    have HBC := Lib.hid (show b ≠ g from fun e => by have h1 := HB1.out; rw [e, HG3.out] at h1; injection h1 with h1; injection h1 with _ h2; exact absurd h2 (by decide))
    have HA := Lib.hid ((hg6.block a (Array.getElem?_eq_some_iff.1 HA1.out).1 (fun e => by injection e with e; exact HAC.out e)).trans HA1.out)
    have HB := Lib.hid ((hg6.block b (Array.getElem?_eq_some_iff.1 HB1.out).1 (fun e => by injection e with e; exact HBC.out e)).trans HB1.out)
    have M1 := Lib.hid (M11.out.grown HU.out hg6 HG1.out)
    rw [← HNQ.out] at hq6
    have M2 := Lib.hid (show MkAt WX B2 (.slice Al2 nl cl2) (.slice (some ⟨gq, 0, none⟩) nq cq2) (labsM nl) (putCap ds k 0 l (m - 1)) _ from ⟨M21.out.labs.kept hg6 (.inr (own_other M21.out.labs HG3.out (by decide))), hq6⟩)
    have EX := Lib.hid (ext_grownS EX1.out hg6 (by have := HWA.out; have := HG1.out; omega))
    have HNE := Lib.hid (show ds ≠ putCap ds k 0 l (m - 1) from modify_ne hkd _ (fun e => by
      have h1 := congrArg (fun d : QD => d.caps[0]?) e
      dsimp only at h1
      rw [List.getElem?_set, List.getElem?_eq_getElem (by rw [← hnc]; exact hcl)] at h1
      simp [← hnc, hcl] at h1
      have h2 := HLM.out
      have h3 := congrArg Prod.snd h1; dsimp only at h3; omega))
    clear hWX hst hq6 hg6 HPUT HA1 HB1 M11 M21 EX1 HQ HCQ HAG HBG w1 w2' w3 w4 b0 b1 bf q2 hg4 hg5 hg6'
    have HNN := Lib.hid (show ¬ (labsM nl = labsM nl ∧ ds = putCap ds k 0 l (m - 1)) from (fun h => HNE.out h.2))
    have HS1 := Lib.hid (fun W (x : Ext WX W) => same_no (M1.out.ext x) (M2.out.ext x) HP1.out (by exact HP1.out) HNN.out)
    have HS2 := Lib.hid (fun W (x : Ext WX W) => same_no (M2.out.ext x) (M1.out.ext x) (by exact HP1.out) HP1.out (fun h => HNN.out ⟨h.1.symm, h.2.symm⟩))
    have a0 := bcel HA.out 0 (.slice Al1 nl cl1) rfl
    have a1 := bcel HA.out 1 (.slice Aq1 nq cq1) rfl
    have b0 := bcel HB.out 0 (.slice Al2 nl cl2) rfl
    have b1 := bcel HB.out 1 (.slice (some ⟨gq, 0, none⟩) nq cq2) rfl
    go_wp2_with fail
    (with_reducible refine (HS1.out _ (Ext.refl _)).mono ?_)
    unfold SamePost
    rintro e wa ⟨rfl, hx⟩
    have HX := Lib.hid hx
    have a0 := hx.cell a0
    have a1 := hx.cell a1
    have b0 := hx.cell b0
    have b1 := hx.cell b1
    clear hx
    go_wp2_with fail
    (with_reducible refine (HS2.out _ HX.out).mono ?_)
    unfold SamePost
    rintro e wb ⟨rfl, hx⟩
    have XF := Lib.hid (X2.out.trans (EX.out.trans (HX.out.trans hx)))
    clear hx
    go_wp2
    go_ret
    exact ⟨rfl, XF.out⟩
  · obtain ⟨nm, hnm⟩ : ∃ n, n = nq - 1 := ⟨_, rfl⟩
    have HNM := Lib.hid hnm
    have w1 : wrap64 ((nq : Int) - 1) = (nm : Int) := by have := HLN.out; unfold wrap64; omega
    have w2' : IntKind.wrap .i64 ((nq : Int) - 1) = (nm : Int) := by have := HLN.out; rw [IntKind.wrap_i64]; omega
    have sh := fun (W : World) (kl : IntKind) => slq_h gq nq cq2 nm (by have := HGQ.out; omega) W kl
    clear hnm
    go_upto_region 25 with fail
    refine at_world (fun WX hWX => ?_)
    have hg6 := bgrown wd b 1 (.slice (some ⟨gq, 0, none⟩) nm cq2)
    have hb6 := bset HB1.out 1 (.slice (some ⟨gq, 0, none⟩) nm cq2)
    rw [← hWX] at hg6 hb6
    have HA := Lib.hid ((hg6.block a (Array.getElem?_eq_some_iff.1 HA1.out).1 (fun e => by injection e with e; exact HAB.out e)).trans HA1.out)
    have HB := Lib.hid (show WX.heap[b]? = some (.cells #[.slice Al2 nl cl2, .slice (some ⟨gq, 0, none⟩) nm cq2] 30 (0, 0)) from hb6)
    have M1 := Lib.hid (M11.out.turn hg6 HB1.out)
    have M2 := Lib.hid (show MkAt WX B2 (.slice Al2 nl cl2) (.slice (some ⟨gq, 0, none⟩) nm cq2) (labsM nl) (ds.take nm) (qs2.take nm) from (show MkAt wd B2 _ _ _ _ _ from ⟨M21.out.labs, HQ.out.take nm (by have := HNM.out; have := HNQ.out; omega)⟩).turn hg6 HB1.out)
    have EX := Lib.hid (ext_grownS EX1.out hg6 HWA.out.2.1)
    have HNE := Lib.hid (show ds ≠ ds.take nm from fun e => by have h1 := congrArg List.length e; rw [List.length_take] at h1; have := HNM.out; have := HNQ.out; omega)
    clear hWX hg6 hb6 sh w1 w2' b0 b1 bf HA1 HB1 M11 M21 EX1 HQ HCQ HAG HBG
    have HNN := Lib.hid (show ¬ (labsM nl = labsM nl ∧ ds = ds.take nm) from (fun h => HNE.out h.2))
    have HS1 := Lib.hid (fun W (x : Ext WX W) => same_no (M1.out.ext x) (M2.out.ext x) HP1.out (by exact HP1.out) HNN.out)
    have HS2 := Lib.hid (fun W (x : Ext WX W) => same_no (M2.out.ext x) (M1.out.ext x) (by exact HP1.out) HP1.out (fun h => HNN.out ⟨h.1.symm, h.2.symm⟩))
    have a0 := bcel HA.out 0 (.slice Al1 nl cl1) rfl
    have a1 := bcel HA.out 1 (.slice Aq1 nq cq1) rfl
    have b0 := bcel HB.out 0 (.slice Al2 nl cl2) rfl
    have b1 := bcel HB.out 1 (.slice (some ⟨gq, 0, none⟩) nm cq2) rfl
    go_wp2_with fail
    (with_reducible refine (HS1.out _ (Ext.refl _)).mono ?_)
    unfold SamePost
    rintro e wa ⟨rfl, hx⟩
    have HX := Lib.hid hx
    have a0 := hx.cell a0
    have a1 := hx.cell a1
    have b0 := hx.cell b0
    have b1 := hx.cell b1
    clear hx
    go_wp2_with fail
    (with_reducible refine (HS2.out _ HX.out).mono ?_)
    unfold SamePost
    rintro e wb ⟨rfl, hx⟩
    have XF := Lib.hid (X2.out.trans (EX.out.trans (HX.out.trans hx)))
    clear hx
    go_wp2
    go_ret
    exact ⟨rfl, XF.out⟩
  · have HL := Lib.hid (show wd.ownsRow B2 9 1 (.slice Al2 nl cl2) nl ((labsM nl).map sv) by have h := M21.out.labs; rwa [labsM_len HNL.out.2] at h)
    obtain ⟨gl, curl, hAl2, hgl, hcurl, _, hfl, hcl⟩ := own_headS HL.out (by have := HNL.out; omega)
    subst hAl2
    obtain ⟨nm, hnm⟩ : ∃ n, n = nl - 1 := ⟨_, rfl⟩
    have HNM := Lib.hid (show nl = nm + 1 by have := HNL.out; omega)
    have w1 : wrap64 ((nl : Int) - 1) = (nm : Int) := by have := HNL.out; unfold wrap64; omega
    have w2' : IntKind.wrap .i64 ((nl : Int) - 1) = (nm : Int) := by have := HNL.out; rw [IntKind.wrap_i64]; omega
    have i0 : (0 : Int) ≤ (nm : Int) := by omega
    have i1 : (nm : Int) < (nl : Int) := by have := HNM.out; omega
    obtain ⟨ul, hul⟩ : ∃ u, ((labsM nl).map sv)[nm]? = some u := ⟨_, List.getElem?_eq_getElem (by rw [List.length_map, labsM_len HNL.out.2]; have := HNM.out; omega)⟩
    have q0 := hcl nm ul hul
    have HGL := Lib.hid hgl
    have HCL := Lib.hid hcurl
    clear hnm hul hcl hgl hcurl
    go_upto_region 25 with fail
    refine at_world (fun WX hWX => ?_)
    have hrow := (HL.out.stored nm (.string ⟨#[111, 116, 104, 101, 114]⟩)).1
    have hg6 := bgrown wd gl nm (.string ⟨#[111, 116, 104, 101, 114]⟩)
    rw [← hWX] at hrow hg6
    have HAC := Lib.hid (show a ≠ gl from fun e => by have h1 := HA1.out; rw [e, HCL.out] at h1; injection h1 with h1; injection h1 with _ h2; exact absurd h2 (by decide))
    have HBC := Lib.hid (show b ≠ gl from fun e => by have h1 := HB1.out; rw [e, HCL.out] at h1; injection h1 with h1; injection h1 with _ h2; exact absurd h2 (by decide))
    have HA := Lib.hid ((hg6.block a (Array.getElem?_eq_some_iff.1 HA1.out).1 (fun e => by injection e with e; exact HAC.out e)).trans HA1.out)
    have HB := Lib.hid ((hg6.block b (Array.getElem?_eq_some_iff.1 HB1.out).1 (fun e => by injection e with e; exact HBC.out e)).trans HB1.out)
    have M1 := Lib.hid (M11.out.grown HU.out hg6 HGL.out)
    have hq6 := HQ.out.kept hg6 HCL.out (by decide) (by decide)
    rw [← HNQ.out] at hq6
    have M2 := Lib.hid (show MkAt WX B2 (.slice (some ⟨gl, 0, none⟩) nl cl2) (.slice (some ⟨gq, 0, none⟩) nq cq2) ((labsM nl).set nm [111, 116, 104, 101, 114]) ds qs2 from ⟨by rw [List.length_set, labsM_len HNL.out.2, List.map_set]; exact hrow, hq6⟩)
    have EX := Lib.hid (ext_grownS EX1.out hg6 (by have := HWA.out; have := HGL.out; omega))
    have HNE := Lib.hid (show labsM nl ≠ (labsM nl).set nm [111, 116, 104, 101, 114] by
      have h1 := HNL.out
      have h2 := HNM.out
      have h3 : nm = 0 ∨ nm = 1 ∨ nm = 2 := by omega
      rw [h2]
      rcases h3 with rfl | rfl | rfl <;> decide)
    clear hWX hrow hg6 hq6 HA1 HB1 M11 M21 EX1 HQ HCQ HAG HBG HL q0 w1 w2' i0 i1 b0 b1 bf hfl
    have HNN := Lib.hid (show ¬ (labsM nl = (labsM nl).set nm [111, 116, 104, 101, 114] ∧ ds = ds) from (fun h => HNE.out h.1))
    have HS1 := Lib.hid (fun W (x : Ext WX W) => same_no (M1.out.ext x) (M2.out.ext x) HP1.out (by rw [List.length_set]; exact HP1.out) HNN.out)
    have HS2 := Lib.hid (fun W (x : Ext WX W) => same_no (M2.out.ext x) (M1.out.ext x) (by rw [List.length_set]; exact HP1.out) HP1.out (fun h => HNN.out ⟨h.1.symm, h.2.symm⟩))
    have a0 := bcel HA.out 0 (.slice Al1 nl cl1) rfl
    have a1 := bcel HA.out 1 (.slice Aq1 nq cq1) rfl
    have b0 := bcel HB.out 0 (.slice (some ⟨gl, 0, none⟩) nl cl2) rfl
    have b1 := bcel HB.out 1 (.slice (some ⟨gq, 0, none⟩) nq cq2) rfl
    go_wp2_with fail
    (with_reducible refine (HS1.out _ (Ext.refl _)).mono ?_)
    unfold SamePost
    rintro e wa ⟨rfl, hx⟩
    have HX := Lib.hid hx
    have a0 := hx.cell a0
    have a1 := hx.cell a1
    have b0 := hx.cell b0
    have b1 := hx.cell b1
    clear hx
    go_wp2_with fail
    (with_reducible refine (HS2.out _ HX.out).mono ?_)
    unfold SamePost
    rintro e wb ⟨rfl, hx⟩
    have XF := Lib.hid (X2.out.trans (EX.out.trans (HX.out.trans hx)))
    clear hx
    go_wp2
    go_ret
    exact ⟨rfl, XF.out⟩
end Go.Proofs.YtigfoghkndoakaaDoor.ConfSames
