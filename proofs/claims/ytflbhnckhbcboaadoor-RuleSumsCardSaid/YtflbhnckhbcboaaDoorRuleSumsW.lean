/- dispatchlaw6.RuleSums: the walk. -/
import Derived.Test.YtflbhnckhbcboaaDoorGood
import Derived.Test.YtflbhnckhbcboaaDoorBlk
import Derived.Test.YtflbhnckhbcboaaDoorSumsP
import Derived.Test.YtflbhnckhbcboaaDoorOwnCaps
import Derived.Test.YtflbhnckhbcboaaDoorSched
import Derived.Laws.Concat
import Derived.Laws.Cover1
import Derived.ChangeSlices
import Derived.OpenShut
import Derived.ChangeOld
import Derived.ChangeSame
import Derived.ChangeMaps
import Derived.JoinedOf
import Derived.JoinedAt
import Derived.RowKit3
import Derived.Lib.SmallJoins
namespace Go.Proofs.YtflbhnckhbcboaaDoor.RuleSums
open Go.ChangeShapes Go.WideShapes Go.ChangeAt Go.RowKit Go.Joins

set_option maxRecDepth 100000 in
set_option maxHeartbeats 6400000 in
theorem walk (w : World) (sh : Int) (_ : (Lit.int .i64 sh).wf = true) (v : Value) (xs : List Int) (r0 : Rd w v (xs.map (Value.int .i64))) (_ : ∀ z ∈ xs, (Lit.int .i64 z).wf = true) (at' : Int) (_ : (Lit.int .i64 at').wf = true) (by' : Int) (_ : (Lit.int .i64 by').wf = true)
    (hm : ∃ m, w.cell? ⟨0, 0, none⟩ = some (.int .i64 m)) :
    Calls Tryd.prog 4 #[.int .i64 sh, v, .int .i64 at', .int .i64 by'] w fun e w' => e = .returned (.bool true) ∧ Below w.heap.size w w' := by
  obtain ⟨A, N, c, rfl, hN, hc1, hc2, hcell⟩ := ints_open r0
  have HR0 := Lib.hid r0
  have HN := Lib.hid hN
  have HM := Lib.hid hm
  clear hcell hN r0 hm
  go_enter Tryd.func4, Tryd.ntmps4
  go_wp2_with fail
  refine (known6_any _).mono ?_
  rintro e w1 ⟨rfl, hx1⟩
  have X1 := Lib.hid hx1
  clear hx1
  by_cases h30 : (30 : Int) < (N : Int)
  · go_wp2
    go_ret
    exact ⟨rfl, X1.out⟩
  have hx30 : xs.length ≤ 30 := by have := HN.out; omega
  go_wp2_with fail
  (with_reducible refine (Good_any sh _ xs _ (HR0.out.ext X1.out) hx30).mono ?_)
  rintro e w2 ⟨nl, hn1, hn2, vl, vq, ds, qs, B, rfl, hB, hlab, hOQ, hGI, hx2⟩
  have HGI := Lib.hid hGI
  have HX2 := Lib.hid (X1.out.trans hx2)
  obtain ⟨y, hy⟩ : ∃ y, y = (sh % 5).toNat := ⟨_, rfl⟩
  rw [← hy] at HGI
  have hdl : ds.length ≤ 7 := by rw [HGI.out.gd.len]; exact tree_len y
  have hd0 : 0 < ds.length := by
    rw [HGI.out.gd.len]
    exact (List.getElem?_eq_some_iff.1 (tree_root y)).1
  obtain ⟨Aq, NP, cq, rfl, hNP, hcq1, hcq2, hqc⟩ := hOQ.rd.open
  have HLAB := Lib.hid (own_ExtK hlab (ext_alloc w2 (.cells #[vl, .slice Aq NP cq] 27)))
  have HOQ := Lib.hid (hOQ.ext (ext_alloc w2 (.cells #[vl, .slice Aq NP cq] 27)))
  have HB := Lib.hid (show w.heap.size ≤ B from Nat.le_trans X1.out.size hB)
  obtain ⟨Al, cl, rfl, hcl1, hcl2⟩ := own_shape hlab
  have HNP := Lib.hid hNP
  have hNP7 : NP ≤ 7 := by omega
  have hNP0 : 0 < NP := by omega
  clear hx2 hGI hOQ hlab hy hNP hqc hx30 h30 hB X1
  obtain ⟨W3, hW3⟩ : ∃ W3, W3 = w2.alloc (.cells #[.slice Al nl cl, .slice Aq NP cq] 27) := ⟨_, rfl⟩
  rw [← hW3] at HLAB HOQ
  have HX3 := Lib.hid (show Ext w2 W3 by rw [hW3]; exact ext_alloc _ _)
  have HCB := Lib.hid (show W3.heap[w2.heap.size]? = some (.cells #[.slice Al nl cl, .slice Aq NP cq] 27 (0, 0)) by rw [hW3]; exact heap_alloc_new w2 _)
  have r0 := blk_cell HCB.out 0 _ rfl
  have r1 := blk_cell HCB.out 1 _ rfl
  go_wp2_with fail
  rw [← hW3]
  clear hW3
  (with_reducible refine (within6_some at' NP _ _ rfl (by omega)).mono ?_)
  rintro e w4 ⟨k, rfl, hkx, hk, rfl⟩
  clear hkx
  go_wp2_with fail
  (with_reducible refine (within6_some by' nl _ _ rfl (by omega)).mono ?_)
  rintro e w4 ⟨lb, rfl, hlx, hlb, rfl⟩
  clear hlx
  have hkd : k < ds.length := by have := HNP.out; omega
  have hcaps : ds[k].caps.length = nl := (HGI.out.gd.each _ (List.getElem_mem hkd)).1
  obtain ⟨gq, cq', g, c', ev, hc1', hBg, hglt, ⟨cur, hcur⟩, hfz, ha, hb, hput⟩ := HOQ.out.put hkd (show lb < ds[k].caps.length by omega)
  injection ev with eA eN eC
  subst eA eC
  clear eN
  rw [hcaps] at hc1'
  obtain ⟨a0, ha0⟩ : ∃ a0, a0 = (ds[k].caps[lb]'(by omega)).1 := ⟨_, rfl⟩
  obtain ⟨b0, hb0⟩ : ∃ b0, b0 = (ds[k].caps[lb]'(by omega)).2 := ⟨_, rfl⟩
  rw [← ha0] at ha
  rw [← hb0] at hb
  have hok : CapOk (a0, b0) := by rw [ha0, hb0]; exact (HGI.out.gd.each _ (List.getElem_mem hkd)).2.2.2 _ (List.getElem_mem _)
  obtain ⟨k1, k2, k3⟩ := hok
  simp only at k1 k2 k3
  have HPUT := Lib.hid hput
  have f0 := hfz (lb * 2)
  have f1 := hfz (lb * 2 + 1)
  have HCUR := Lib.hid hcur
  have i0 : (0 : Int) ≤ (k : Int) := by omega
  have i1 : (k : Int) < (NP : Int) := by omega
  have i2 : (0 : Int) ≤ (lb : Int) := by omega
  have i3 : (lb : Int) < (nl : Int) := by omega
  have HT := Lib.hid (fun a b (h : (a, b) = turnL (a0, b0)) => turned_13 hn1 hn2 HGI.out hkd hlb a b (fun c hc => by
    rw [h, ha0, hb0]
    rw [List.getElem?_eq_getElem (by omega)] at hc
    injection hc with hc
    rw [← hc]))
  have HA0 := Lib.hid ha0
  have HB0 := Lib.hid hb0
  clear hput hfz hcur ha0 hb0
  have tail : ∀ (a b : Int) (W : World), (a, b) = turnL (a0, b0) → W = (W3.setCell ⟨g, lb * 2, none⟩ (.int .i64 a)).setCell ⟨g, lb * 2 + 1, none⟩ (.int .i64 b) →
      Calls Tryd.prog 9 #[.agg #[.slice Al nl cl, .slice (some ⟨gq, 0, none⟩) NP cq]] W fun e w' => e = .returned (.int .i64 13) ∧ Ext w w' := by
    intro a b W h hW
    obtain ⟨hO, hgr⟩ := HPUT.out a b
    rw [← hW] at hO hgr
    have hX : Ext w W := (HX2.out.trans HX3.out).trans' (grown_below hgr (by have := HX2.out.size; have := HX3.out.size; omega) (fun k e => by injection e with e; have := HB.out; omega))
    have hconf : ConfAt W (.slice Al nl cl) (.slice (some ⟨gq, 0, none⟩) NP cq) (labs nl) (putCap ds k lb a b) := by
      refine ⟨?_, hO.rd, hO.capsQ, by rw [labs_length hn2]; omega, by rw [putCap_length]; omega, ?_, ?_, ?_⟩
      · exact Rd.of_own (HLAB.out.kept hgr (.inr (own_other HLAB.out HCUR.out (by decide))))
      · intro q hq
        have h1 : q.path ∈ tree y := by
          rw [← HGI.out.gd.paths, ← put_paths ds k lb a b]
          exact List.mem_map_of_mem hq
        have := tree_txt y _ h1
        omega
      · intro q hq
        rcases put_mem hkd hq with hq | rfl
        · rw [(HGI.out.gd.each q hq).1]; omega
        · simp only [List.length_set]; omega
      · obtain ⟨m, hm⟩ := HM.out
        exact ⟨m, hX.cell hm⟩
    refine (Check_all hconf).mono ?_
    rintro e w' ⟨rfl, hx⟩
    rw [HT.out a b h]
    exact ⟨rfl, hX.trans hx⟩
  have HTL := Lib.hid tail
  have hgne : g ≠ w2.heap.size := by
    intro e
    rw [e] at HCUR
    have h1 := HCUR.out.symm.trans HCB.out
    injection h1 with h1
    injection h1 with _ h2
    exact absurd h2 (by decide)
  have far : ∀ (W : World) (j j' : Nat) (u : Value), (W.setCell ⟨g, j', none⟩ u).cell? ⟨w2.heap.size, j, none⟩ = W.cell? ⟨w2.heap.size, j, none⟩ := fun W j j' u => World.cell?_of_block (heap_setCell_other W ⟨g, j', none⟩ w2.heap.size u (fun e => hgne e.symm))
  clear hgne
  clear tail
  by_cases hz : a0 = 0
  · have hz' : (a0 == 0) = true := by simp [hz]
    have e1 : turnL (a0, b0) = (1, max b0 1) := by unfold turnL; rw [if_pos hz]
    have HE := Lib.hid e1
    clear e1
    subst hz
    go_wp2_with fail
    (with_reducible refine (HTL.out 1 (max b0 1) _ HE.out.symm rfl).mono ?_)
    rintro e w9 ⟨rfl, hx9⟩
    have HX9 := Lib.hid hx9
    clear hx9
    go_wp2
    go_ret
    exact ⟨rfl, HX9.out⟩
  · have hz' : (a0 == 0) = false := by simp [hz]
    have e1 : turnL (a0, b0) = (a0 - 1, b0) := by unfold turnL; rw [if_neg hz]
    have HE := Lib.hid e1
    have HID := Lib.hid (show W3.setCell ⟨g, lb * 2, none⟩ (.int .i64 (a0 - 1)) = (W3.setCell ⟨g, lb * 2, none⟩ (.int .i64 (a0 - 1))).setCell ⟨g, lb * 2 + 1, none⟩ (.int .i64 b0) from (setCell_id ((World.cell?_setCell_other W3 ⟨g, lb * 2, none⟩ ⟨g, lb * 2 + 1, none⟩ (.int .i64 (a0 - 1)) (fun e => by injection e with _ e2; omega)).trans hb)).symm)
    clear e1
    go_wp2_with fail
    (with_reducible refine (HTL.out (a0 - 1) b0 _ HE.out.symm HID.out).mono ?_)
    rintro e w9 ⟨rfl, hx9⟩
    have HX9 := Lib.hid hx9
    clear hx9
    go_wp2
    go_ret
    exact ⟨rfl, HX9.out⟩
end Go.Proofs.YtflbhnckhbcboaaDoor.RuleSums
