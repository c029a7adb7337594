/- The law NodesBack holds at every input: what was registered is found as it was; a heartbeat changes its number, and when it was heard of, and nothing else. No condition. -/
import Derived.Test.YtffioglbgnbieaaNdKnown
import Derived.Test.YtffioglbgnbieaaNdBeat
import Derived.Test.YtffioglbgnbieaaOpenN
import Derived.Test.YtffioglbgnbieaaFoot
import Derived.Test.YtffioglbgnbieaaSched2
import Derived.Deep.CutRange
import Derived.ChangeSlices
import Derived.OpenShut
import Derived.ChangeOld
import Derived.ChangeSame
import Derived.ChangeMaps
import Derived.JoinedOf
import Derived.JoinedAt
import Derived.RowKit3
import Derived.Lib.SmallJoins
namespace Go.Proofs.Ytffioglbgnbieaa.NodesBack
open Go.ChangeShapes Go.WideShapes Go.ChangeAt Go.RowKit Go.Joins

theorem new0 (i r m c : Int) (hi : 0 ≤ i ∧ i < 1000) (hr : 0 ≤ r ∧ r < 100) (hm : 0 ≤ m ∧ m < 1073741825) (hc : 0 ≤ c ∧ c < 1073741825) : newE (newD []).nodes (newD []).labels.length ⟨i, 0, r, m, c, 0, 0, false⟩ = 0 := by
  have h : okN ⟨i, 0, r, m, c, 0, 0, false⟩ ((newD []).labels.length : Int) = true := by
    unfold okN inB
    simp [newD]
    omega
  unfold newE
  rw [h]
  rfl
theorem grown8 (w : World) (b : Nat) (v0 v1 v2 v3 v4 v5 v6 v7 : Value) :
    w.grownBy ((((((((w.setCell ⟨b, 0, none⟩ v0).setCell ⟨b, 1, none⟩ v1).setCell ⟨b, 2, none⟩ v2).setCell ⟨b, 3, none⟩ v3).setCell ⟨b, 4, none⟩ v4).setCell ⟨b, 5, none⟩ v5).setCell ⟨b, 6, none⟩ v6).setCell ⟨b, 7, none⟩ v7) (some b) :=
  (((((((bgrown w b 0 v0).trans (bgrown _ b 1 v1)).trans (bgrown _ b 2 v2)).trans (bgrown _ b 3 v3)).trans (bgrown _ b 4 v4)).trans (bgrown _ b 5 v5)).trans (bgrown _ b 6 v6)).trans (bgrown _ b 7 v7)
theorem get1 (n : ND) : getN [n] n.id = n := by
  unfold getN idxN
  simp [List.findIdx_cons]
theorem has1 (n : ND) : hasN [n] n.id = true := by
  unfold hasN idxN
  simp [List.findIdx_cons]
theorem get2 (n : ND) (j : Int) (h : j ≠ n.id) : getN [n] j = zND := by
  unfold getN idxN
  have h' : (j == n.id) = false := by simpa using h
  simp [List.findIdx_cons, h']
theorem has2 (n : ND) (j : Int) (h : j ≠ n.id) : hasN [n] j = false := by
  unfold hasN idxN
  have h' : (j == n.id) = false := by simpa using h
  simp [List.findIdx_cons, h']
theorem beat1 (n : ND) (nw x : Int) : beatN [n] n.id nw x = [⟨n.id, n.label, n.rack, n.mem, n.cores, nw, x, n.up⟩] := by
  unfold beatN idxN
  simp [List.findIdx_cons]

set_option maxRecDepth 100000 in
set_option maxHeartbeats 12800000 in
theorem walk (w : World) (id label rack mem cores seen beat : Int) (up : Bool) (now : Int) (_ : (Lit.int .i64 now).wf = true) (later : Int) (_ : (Lit.int .i64 later).wf = true) :
    Calls Try.prog 6 #[.agg #[.int .i64 id, .int .i64 label, .int .i64 rack, .int .i64 mem, .int .i64 cores, .int .i64 seen, .int .i64 beat, .bool up], .int .i64 now, .int .i64 later] w fun e w' => e = .returned (.bool true) ∧ Below w.heap.size w w' := by
  obtain ⟨y, hy⟩ : ∃ q, q = now % 1000 := ⟨_, rfl⟩
  have By := Lib.hid (show 0 ≤ y ∧ y < 1000 by omega)
  have Wy := Lib.hid (fun W => (hy ▸ within8_any now 1000 W (by omega) : Calls Try.prog 9 #[.int .i64 now, .int .i64 1000] W fun e w' => e = .returned (.int .i64 y) ∧ W = w'))
  clear hy
  obtain ⟨z, hz⟩ : ∃ q, q = later % 9 := ⟨_, rfl⟩
  have Bz := Lib.hid (show 0 ≤ z ∧ z < 9 by omega)
  have Wz := Lib.hid (fun W => (hz ▸ within8_any later 9 W (by omega) : Calls Try.prog 9 #[.int .i64 later, .int .i64 9] W fun e w' => e = .returned (.int .i64 z) ∧ W = w'))
  clear hz
  obtain ⟨i, hi⟩ : ∃ q, q = id % 1000 := ⟨_, rfl⟩
  have Bi := Lib.hid (show 0 ≤ i ∧ i < 1000 by omega)
  have Wi := Lib.hid (fun W => (hi ▸ within8_any id 1000 W (by omega) : Calls Try.prog 9 #[.int .i64 id, .int .i64 1000] W fun e w' => e = .returned (.int .i64 i) ∧ W = w'))
  clear hi
  obtain ⟨r, hr⟩ : ∃ q, q = rack % 100 := ⟨_, rfl⟩
  have Br := Lib.hid (show 0 ≤ r ∧ r < 100 by omega)
  have Wr := Lib.hid (fun W => (hr ▸ within8_any rack 100 W (by omega) : Calls Try.prog 9 #[.int .i64 rack, .int .i64 100] W fun e w' => e = .returned (.int .i64 r) ∧ W = w'))
  clear hr
  obtain ⟨m, hm⟩ : ∃ q, q = mem % 1073741825 := ⟨_, rfl⟩
  have Bm := Lib.hid (show 0 ≤ m ∧ m < 1073741825 by omega)
  have Wm := Lib.hid (fun W => (hm ▸ within8_any mem 1073741825 W (by omega) : Calls Try.prog 9 #[.int .i64 mem, .int .i64 1073741825] W fun e w' => e = .returned (.int .i64 m) ∧ W = w'))
  clear hm
  obtain ⟨c, hc⟩ : ∃ q, q = cores % 1073741825 := ⟨_, rfl⟩
  have Bc := Lib.hid (show 0 ≤ c ∧ c < 1073741825 by omega)
  have Wc := Lib.hid (fun W => (hc ▸ within8_any cores 1073741825 W (by omega) : Calls Try.prog 9 #[.int .i64 cores, .int .i64 1073741825] W fun e w' => e = .returned (.int .i64 c) ∧ W = w'))
  clear hc
  go_enter Try.func6, Try.ntmps6
  go_upto_region 1 with fail
  refine at_world (fun V0 hV0 => ?_)
  obtain ⟨N, hN⟩ : ∃ N, N = w.heap.size := ⟨_, rfl⟩
  have HNW := Lib.hid (show w.heap.size ≤ N by omega)
  have HN0 := Lib.hid (show V0.heap[N]? = some (.cells #[.int .i64 id, .int .i64 label, .int .i64 rack, .int .i64 mem, .int .i64 cores, .int .i64 seen, .int .i64 beat, .bool up] 44 (0, 0)) by rw [hV0, hN]; exact heap_alloc_new w _)
  have Y0 := Lib.hid (show Ext w V0 by rw [hV0]; exact ext_alloc _ _)
  rw [← hN]
  clear hV0 hN
  go_wp2_with fail
  (with_reducible refine (known8_any _).mono ?_)
  rintro e w1 ⟨rfl, hx⟩
  have X1 := Lib.hid (Y0.out.trans hx)
  have HN1 := Lib.hid (ext_blk hx HN0.out)
  clear hx HN0 Y0
  go_wp2_with fail
  (with_reducible refine (New_any _).mono ?_)
  rintro e w2 ⟨rfl, hnew, hsz, hx⟩
  have X2 := Lib.hid (X1.out.trans hx)
  have HNEW := Lib.hid hnew
  have HN2 := Lib.hid (ext_blk hx HN1.out)
  have HNG := Lib.hid (show N < w1.heap.size from (Array.getElem?_eq_some_iff.1 HN1.out).1)
  obtain ⟨g, hg⟩ : ∃ g, g = w1.heap.size := ⟨_, rfl⟩
  unfold newSV
  rw [← hg] at HNEW HNG ⊢
  have HG := Lib.hid (show w2.heap.size = g + 4 by rw [hg]; exact hsz)
  clear hx hnew hg hsz HN1
  simp only [SV.val]
  go_upto_region 4 with fail
  refine at_world (fun W3 hW3 => ?_)
  obtain ⟨S, hS⟩ : ∃ S, S = w2.heap.size := ⟨_, rfl⟩
  have HS := Lib.hid (show W3.heap[S]? = some (.cells #[.slice (some ⟨g + 1, 0, none⟩) 1 1, .slice (some ⟨g + 1 + 1 + 1, 0, none⟩) 1 1, .slice none 0 0, .slice none 0 0, .slice none 0 0, .slice none 0 0, .slice none 0 0, .int .i64 0, .int .i64 0, .int .i64 0] 34 (0, 0)) by rw [hW3, hS]; exact heap_alloc_new w2 _)
  have E3 := Lib.hid (show Ext w2 W3 by rw [hW3]; exact ext_alloc _ _)
  have X3 := Lib.hid (X2.out.trans E3.out)
  have HNW3 := Lib.hid (HNEW.out.ext E3.out)
  have HN3 := Lib.hid (ext_blk E3.out HN2.out)
  have HSG := Lib.hid (show S = g + 4 by rw [hS]; exact HG.out)
  have HSW := Lib.hid (show w.heap.size ≤ S by rw [hS]; exact X2.out.size)
  rw [← hS]
  clear hW3 hS E3 HNEW HN2 HG
  have s7 := bcel HS.out 7 (.int .i64 0) rfl
  have sf := fun j => bfre HS.out j
  go_wp2_with fail
  (with_reducible refine (Wy.out _).mono ?_)
  rintro e w4 ⟨rfl, rfl⟩
  go_upto_region 5 with fail
  refine at_world (fun W4 hW4 => ?_)
  have HS4 := Lib.hid (show W4.heap[S]? = some (.cells #[.slice (some ⟨g + 1, 0, none⟩) 1 1, .slice (some ⟨g + 1 + 1 + 1, 0, none⟩) 1 1, .slice none 0 0, .slice none 0 0, .slice none 0 0, .slice none 0 0, .slice none 0 0, .int .i64 y, .int .i64 0, .int .i64 0] 34 (0, 0)) by rw [hW4]; exact bset HS.out 7 (.int .i64 y))
  have X4 := Lib.hid (show Ext w W4 by rw [hW4]; exact ext_set X3.out HSW.out _)
  have HNW4 := Lib.hid (show NewAt g W4 from ⟨by rw [hW4, heap_setCell_other _ _ _ _ (by have := HSG.out; simp; omega)]; exact HNW3.out.labs, by rw [hW4, heap_setCell_other _ _ _ _ (by have := HSG.out; simp; omega)]; exact HNW3.out.caps, by rw [hW4, heap_setCell_other _ _ _ _ (by have := HSG.out; simp; omega)]; exact HNW3.out.queue⟩)
  have HN4 := Lib.hid (show W4.heap[N]? = some (.cells #[.int .i64 id, .int .i64 label, .int .i64 rack, .int .i64 mem, .int .i64 cores, .int .i64 seen, .int .i64 beat, .bool up] 44 (0, 0)) by rw [hW4, heap_setCell_other _ _ _ _ (by have := HSG.out; have := HNG.out; simp; omega)]; exact HN3.out)
  clear hW4 s7 sf HS X3 HNW3 HN3
  have n0 := bcel HN4.out 0 (.int .i64 id) rfl
  have n2 := bcel HN4.out 2 (.int .i64 rack) rfl
  have n3 := bcel HN4.out 3 (.int .i64 mem) rfl
  have n4 := bcel HN4.out 4 (.int .i64 cores) rfl
  refine wp_region_lex 16 (by kernel_rfl) (by kernel_rfl) (fun _ _ _ _ _ h => h) ?_
  simp only [List.take_succ_cons, List.take_zero, List.drop_succ_cons, List.drop_zero]
  repeat first | (refine seq_take ?_ (by rfl) (fun wk k1 => ?_) ?_; rotate_left; (have y0 := k1.cell n0; have y2 := k1.cell n2; have y3 := k1.cell n3; have y4 := k1.cell n4; go_simp; first | exact OkX.val | ((with_reducible refine OkX.eqv (OkX.same (Wi.out _)) ?_); exact rfl) | ((with_reducible refine OkX.eqv (OkX.same (Wr.out _)) ?_); exact rfl) | ((with_reducible refine OkX.eqv (OkX.same (Wm.out _)) ?_); exact rfl) | ((with_reducible refine OkX.eqv (OkX.same (Wc.out _)) ?_); exact rfl)); simp only [Act.put, List.setIfInBounds_toArray, List.set_cons_zero, List.set_cons_succ]) | (refine seq_skip (by rfl) ?_; simp only [Act.put, List.setIfInBounds_toArray, List.set_cons_zero, List.set_cons_succ])
  refine seq_nil (fun wk k1 => ?_)
  have hb := ext_blk k1 HN4.out
  have HS5' := Lib.hid (ext_blk k1 HS4.out)
  have X5' := Lib.hid (X4.out.trans k1)
  have HNW5' := Lib.hid (HNW4.out.ext k1)
  clear k1 n0 n2 n3 n4 HN4 HS4 X4 HNW4
  have d0 := bcel hb 0 (.int .i64 id) rfl
  have d1 := bcel hb 1 (.int .i64 label) rfl
  have d2 := bcel hb 2 (.int .i64 rack) rfl
  have d3 := bcel hb 3 (.int .i64 mem) rfl
  have d4 := bcel hb 4 (.int .i64 cores) rfl
  have d5 := bcel hb 5 (.int .i64 seen) rfl
  have d6 := bcel hb 6 (.int .i64 beat) rfl
  have d7 := bcel hb 7 (.bool up) rfl
  have df := fun j => bfre hb j
  have hb8 := bset8 hb (.int .i64 i) (.int .i64 0) (.int .i64 r) (.int .i64 m) (.int .i64 c) (.int .i64 0) (.int .i64 0) (.bool false)
  have hg8 := grown8 wk N (.int .i64 i) (.int .i64 0) (.int .i64 r) (.int .i64 m) (.int .i64 c) (.int .i64 0) (.int .i64 0) (.bool false)
  go_upto_region 6 with fail
  refine at_world (fun W5 hW5 => ?_)
  rw [← hW5] at hb8 hg8
  have HN5 := Lib.hid hb8
  have HNV := Lib.hid (show N < W5.heap.size from (Array.getElem?_eq_some_iff.1 hb8).1)
  have HS5 := Lib.hid (show W5.heap[S]? = some (.cells #[.slice (some ⟨g + 1, 0, none⟩) 1 1, .slice (some ⟨g + 1 + 1 + 1, 0, none⟩) 1 1, .slice none 0 0, .slice none 0 0, .slice none 0 0, .slice none 0 0, .slice none 0 0, .int .i64 y, .int .i64 0, .int .i64 0] 34 (0, 0)) from (hg8.block S (Array.getElem?_eq_some_iff.1 HS5'.out).1 (fun e => by injection e with e; have := HSG.out; have := HNG.out; omega)).trans HS5'.out)
  have X5 := Lib.hid (ext_grown X5'.out hg8 HNW.out)
  have HNW5 := Lib.hid (show NewAt g W5 from ⟨(hg8.block _ (Array.getElem?_eq_some_iff.1 HNW5'.out.labs).1 (fun e => by injection e with e; have := HNG.out; omega)).trans HNW5'.out.labs, (hg8.block _ (Array.getElem?_eq_some_iff.1 HNW5'.out.caps).1 (fun e => by injection e with e; have := HNG.out; omega)).trans HNW5'.out.caps, (hg8.block _ (Array.getElem?_eq_some_iff.1 HNW5'.out.queue).1 (fun e => by injection e with e; have := HNG.out; omega)).trans HNW5'.out.queue⟩)
  have HR := Lib.hid (HNW5.out.rd (show Hd W5 (.slice none 0 0) ([] : List ND).length (ncells []) from Hd.nil W5) y 0 0)
  clear hW5 hb8 hg8 hb df HS5' X5' HNW5' HNW5 d0 d1 d2 d3 d4 d5 d6 d7
  have s0 := bcel HS5.out 0 (.slice (some ⟨g + 1, 0, none⟩) 1 1) rfl
  have s1 := bcel HS5.out 1 (.slice (some ⟨g + 1 + 1 + 1, 0, none⟩) 1 1) rfl
  have s2 := bcel HS5.out 2 (.slice none 0 0) rfl
  have s3 := bcel HS5.out 3 (.slice none 0 0) rfl
  have s4 := bcel HS5.out 4 (.slice none 0 0) rfl
  have s5 := bcel HS5.out 5 (.slice none 0 0) rfl
  have s6 := bcel HS5.out 6 (.slice none 0 0) rfl
  have s7 := bcel HS5.out 7 (.int .i64 y) rfl
  have s8 := bcel HS5.out 8 (.int .i64 0) rfl
  have s9 := bcel HS5.out 9 (.int .i64 0) rfl
  have n0 := bcel HN5.out 0 (.int .i64 i) rfl
  have n1 := bcel HN5.out 1 (.int .i64 0) rfl
  have n2 := bcel HN5.out 2 (.int .i64 r) rfl
  have n3 := bcel HN5.out 3 (.int .i64 m) rfl
  have n4 := bcel HN5.out 4 (.int .i64 c) rfl
  have n5 := bcel HN5.out 5 (.int .i64 0) rfl
  have n6 := bcel HN5.out 6 (.int .i64 0) rfl
  have n7 := bcel HN5.out 7 (.bool false) rfl
  have hr := Register_any ⟨.slice (some ⟨g + 1, 0, none⟩) 1 1, .slice (some ⟨g + 1 + 1 + 1, 0, none⟩) 1 1, .slice none 0 0, .slice none 0 0, .slice none 0 0, .slice none 0 0, .slice none 0 0, y, 0, 0⟩ (newD []) ⟨i, 0, r, m, c, 0, 0, false⟩ W5 HR.out (newD_ok (by simp)) (by simp [newD])
  rw [new0 i r m c Bi.out Br.out Bm.out Bc.out] at hr
  simp only [SV.val, nodeV] at hr
  have HF := Lib.hid hr
  clear hr
  go_wp2_with fail
  (with_reducible refine (HF.out).mono ?_)
  unfold RegPost
  rintro e w6 ⟨s, e1, e2, e3, rfl, ho, hx⟩
  have hD : regD (newD []) ⟨i, 0, r, m, c, 0, 0, false⟩ y 0 = newD [⟨i, 0, r, m, c, y, 0, true⟩] := rfl
  rw [hD] at ho
  obtain ⟨A10, c10, A11, c11, A12, c12, A13, c13, A14, c14, A15, c15, A16, c16, es⟩ := ho.shapeN
  rw [e1, e2, e3] at es
  subst es
  have HO6 := Lib.hid ho
  have HS6 := Lib.hid (ext_blk hx HS5.out)
  have HN6 := Lib.hid (ext_blk hx HN5.out)
  have X6 := Lib.hid (X5.out.trans hx)
  clear ho hx e1 e2 e3 hD HF HR HS5 HN5 X5 s0 s1 s2 s3 s4 s5 s6 s7 s8 s9 n0 n1 n2 n3 n4 n5 n6 n7
  simp only [SV.val, List.length_cons, List.length_nil, Nat.zero_add] at HO6 ⊢
  go_upto_region 7 with fail
  refine at_world (fun W7 hW7 => ?_)
  have HT7 := Lib.hid (show W7.heap[w6.heap.size]? = some (.cells #[.slice A10 1 c10, .slice A11 1 c11, .slice A12 1 c12, .slice A13 0 c13, .slice A14 0 c14, .slice A15 0 c15, .slice A16 0 c16, .int .i64 y, .int .i64 0, .int .i64 0] 34 (0, 0)) by rw [hW7]; exact heap_alloc_new w6 _)
  have E7 := Lib.hid (show Ext w6 W7 by rw [hW7]; exact ext_alloc _ _)
  have HTW := Lib.hid (show w.heap.size ≤ w6.heap.size from X6.out.size)
  have HSU := Lib.hid (HO6.out.surv_high (Nat.le_refl _))
  have HBN := Lib.hid (show N < W5.heap.size from HNV.out)
  have HNT := Lib.hid (show N < w6.heap.size from (Array.getElem?_eq_some_iff.1 HN6.out).1)
  have HST := Lib.hid (show S < w6.heap.size from (Array.getElem?_eq_some_iff.1 HS6.out).1)
  obtain ⟨T, hT⟩ : ∃ T, T = w6.heap.size := ⟨_, rfl⟩
  rw [← hT] at HT7 HTW HSU HNT HST ⊢
  have HS7 := Lib.hid (ext_blk E7.out HS6.out)
  have HN7 := Lib.hid (ext_blk E7.out HN6.out)
  have HU7 := Lib.hid (HSU.out.ext E7.out)
  have X7 := Lib.hid (X6.out.trans E7.out)
  clear hW7 hT E7 HS6 HN6 HO6 X6 HSU
  have s0 := bcel HT7.out 0 (.slice A10 1 c10) rfl
  have s1 := bcel HT7.out 1 (.slice A11 1 c11) rfl
  have s2 := bcel HT7.out 2 (.slice A12 1 c12) rfl
  have s3 := bcel HT7.out 3 (.slice A13 0 c13) rfl
  have s4 := bcel HT7.out 4 (.slice A14 0 c14) rfl
  have s5 := bcel HT7.out 5 (.slice A15 0 c15) rfl
  have s6 := bcel HT7.out 6 (.slice A16 0 c16) rfl
  have s7 := bcel HT7.out 7 (.int .i64 y) rfl
  have s8 := bcel HT7.out 8 (.int .i64 0) rfl
  have s9 := bcel HT7.out 9 (.int .i64 0) rfl
  have n0 := bcel HN7.out 0 (.int .i64 i) rfl
  have hf := Find_any ⟨.slice A10 1 c10, .slice A11 1 c11, .slice A12 1 c12, .slice A13 0 c13, .slice A14 0 c14, .slice A15 0 c15, .slice A16 0 c16, y, 0, 0⟩ [⟨i, 0, r, m, c, y, 0, true⟩] i W7 (HU7.out.now (Ext.refl _)).rd.nodes (by simp)
  rw [show getN [⟨i, 0, r, m, c, y, 0, true⟩] i = ⟨i, 0, r, m, c, y, 0, true⟩ from get1 ⟨i, 0, r, m, c, y, 0, true⟩, show hasN [⟨i, 0, r, m, c, y, 0, true⟩] i = true from has1 ⟨i, 0, r, m, c, y, 0, true⟩] at hf
  simp only [SV.val, nodeV] at hf
  have HF := Lib.hid hf
  clear hf
  go_wp2_with fail
  (with_reducible refine (HF.out).mono ?_)
  rintro e w8 ⟨rfl, hx⟩
  have HT8 := Lib.hid (ext_blk hx HT7.out)
  have HS8 := Lib.hid (ext_blk hx HS7.out)
  have HN8 := Lib.hid (ext_blk hx HN7.out)
  have HU8 := Lib.hid (HU7.out.ext hx)
  have X8 := Lib.hid (X7.out.trans hx)
  clear hx HF HT7 HS7 HN7 HU7 X7 n0 s0 s1 s2 s3 s4 s5 s6 s7 s8 s9
  go_upto_region 8 with fail
  refine at_world (fun W9 hW9 => ?_)
  have HA9 := Lib.hid (show W9.heap[w8.heap.size]? = some (.cells #[.int .i64 i, .int .i64 0, .int .i64 r, .int .i64 m, .int .i64 c, .int .i64 y, .int .i64 0, .bool true] 44 (0, 0)) by rw [hW9]; exact heap_alloc_new w8 _)
  have hx : Ext w8 W9 := by rw [hW9]; exact ext_alloc _ _
  have HAL := Lib.hid (show T < w8.heap.size from (Array.getElem?_eq_some_iff.1 HT8.out).1)
  obtain ⟨A, hA⟩ : ∃ A, A = w8.heap.size := ⟨_, rfl⟩
  rw [← hA] at HA9 HAL ⊢
  have HT9 := Lib.hid (ext_blk hx HT8.out)
  have HS9 := Lib.hid (ext_blk hx HS8.out)
  have HN9 := Lib.hid (ext_blk hx HN8.out)
  have HU9 := Lib.hid (HU8.out.ext hx)
  have X9 := Lib.hid (X8.out.trans hx)
  clear hx hW9 hA HT8 HS8 HN8 HU8 X8
  have w1' : wrap64 (i + 1) = i + 1 := by have := Bi.out; unfold wrap64; omega
  have w2' : IntKind.wrap .i64 (i + 1) = i + 1 := by have := Bi.out; rw [IntKind.wrap_i64]; omega
  obtain ⟨j, hj⟩ : ∃ j, j = (i + 1).tmod 1000 := ⟨_, rfl⟩
  have hji : j ≠ i := by
    have := Bi.out
    rw [hj, Int.tmod_eq_emod_of_nonneg (by omega)]
    omega
  have HJ := Lib.hid (show (i + 1).tmod 1000 = j from hj.symm)
  clear hj
  have s0 := bcel HT9.out 0 (.slice A10 1 c10) rfl
  have s1 := bcel HT9.out 1 (.slice A11 1 c11) rfl
  have s2 := bcel HT9.out 2 (.slice A12 1 c12) rfl
  have s3 := bcel HT9.out 3 (.slice A13 0 c13) rfl
  have s4 := bcel HT9.out 4 (.slice A14 0 c14) rfl
  have s5 := bcel HT9.out 5 (.slice A15 0 c15) rfl
  have s6 := bcel HT9.out 6 (.slice A16 0 c16) rfl
  have s7 := bcel HT9.out 7 (.int .i64 y) rfl
  have s8 := bcel HT9.out 8 (.int .i64 0) rfl
  have s9 := bcel HT9.out 9 (.int .i64 0) rfl
  have n0 := bcel HN9.out 0 (.int .i64 i) rfl
  have hf := Find_any ⟨.slice A10 1 c10, .slice A11 1 c11, .slice A12 1 c12, .slice A13 0 c13, .slice A14 0 c14, .slice A15 0 c15, .slice A16 0 c16, y, 0, 0⟩ [⟨i, 0, r, m, c, y, 0, true⟩] j W9 (HU9.out.now (Ext.refl _)).rd.nodes (by simp)
  rw [get2 ⟨i, 0, r, m, c, y, 0, true⟩ j hji, has2 ⟨i, 0, r, m, c, y, 0, true⟩ j hji, ← HJ.out] at hf
  simp only [SV.val, nodeV, zND] at hf
  have HF := Lib.hid hf
  clear hf hji
  go_wp2_with fail
  (refine (HF.out).mono ?_)
  rintro e w10 ⟨rfl, hx⟩
  have HT10 := Lib.hid (ext_blk hx HT9.out)
  have HS10 := Lib.hid (ext_blk hx HS9.out)
  have HN10 := Lib.hid (ext_blk hx HN9.out)
  have HU10 := Lib.hid (HU9.out.ext hx)
  have X10 := Lib.hid (X9.out.trans hx)
  have HA10 := Lib.hid (ext_blk hx HA9.out)
  clear hx HF HT9 HS9 HN9 HU9 X9 HA9 n0 w1' w2' HJ s0 s1 s2 s3 s4 s5 s6 s7 s8 s9
  go_upto_region 9 with fail
  refine at_world (fun W11 hW11 => ?_)
  have hx : Ext w10 W11 := by rw [hW11]; exact ext_alloc _ _
  have HT11 := Lib.hid (ext_blk hx HT10.out)
  have HS11 := Lib.hid (ext_blk hx HS10.out)
  have HN11 := Lib.hid (ext_blk hx HN10.out)
  have HU11 := Lib.hid (HU10.out.ext hx)
  have X11 := Lib.hid (X10.out.trans hx)
  have HA11 := Lib.hid (ext_blk hx HA10.out)
  generalize w10.heap.size = AX
  clear hx hW11 HT10 HS10 HN10 HU10 X10 HA10
  have s7 := bcel HT11.out 7 (.int .i64 y) rfl
  have w1' : wrap64 (y + z) = y + z := by have := By.out; have := Bz.out; unfold wrap64; omega
  have w2' : IntKind.wrap .i64 (y + z) = y + z := by have := By.out; have := Bz.out; rw [IntKind.wrap_i64]; omega
  refine wp_region_lex 6 (by kernel_rfl) (by kernel_rfl) (fun _ _ _ _ _ h => h) ?_
  simp only [List.take_succ_cons, List.take_zero, List.drop_succ_cons, List.drop_zero]
  repeat first | (refine seq_take ?_ (by rfl) (fun wk k1 => ?_) ?_; rotate_left; (have y7 := k1.cell s7; go_simp; first | exact OkX.val | ((with_reducible refine OkX.eqv (OkX.same (Wz.out _)) ?_); exact rfl)); simp only [Act.put, List.setIfInBounds_toArray, List.set_cons_zero, List.set_cons_succ]) | (refine seq_skip (by rfl) ?_; simp only [Act.put, List.setIfInBounds_toArray, List.set_cons_zero, List.set_cons_succ])
  refine seq_nil (fun wk k1 => ?_)
  have HT12 := Lib.hid (ext_blk k1 HT11.out)
  have HS12 := Lib.hid (ext_blk k1 HS11.out)
  have HN12 := Lib.hid (ext_blk k1 HN11.out)
  have HU12 := Lib.hid (HU11.out.ext k1)
  have X12 := Lib.hid (X11.out.trans k1)
  have HA12 := Lib.hid (ext_blk k1 HA11.out)
  clear k1 s7 HT11 HS11 HN11 HU11 X11 HA11
  have s7 := bcel HT12.out 7 (.int .i64 y) rfl
  have sf := fun j => bfre HT12.out j
  have hb := bset HT12.out 7 (.int .i64 (y + z))
  have hg := bgrown wk T 7 (.int .i64 (y + z))
  go_upto_region 10 with fail
  refine at_world (fun W13 hW13 => ?_)
  rw [← hW13] at hb hg
  have HT13 := Lib.hid (show W13.heap[T]? = some (.cells #[.slice A10 1 c10, .slice A11 1 c11, .slice A12 1 c12, .slice A13 0 c13, .slice A14 0 c14, .slice A15 0 c15, .slice A16 0 c16, .int .i64 (y + z), .int .i64 0, .int .i64 0] 34 (0, 0)) from hb)
  have HS13 := Lib.hid ((hg.block S (Array.getElem?_eq_some_iff.1 HS12.out).1 (fun e => by injection e with e; have := HST.out; omega)).trans HS12.out)
  have HN13 := Lib.hid ((hg.block N (Array.getElem?_eq_some_iff.1 HN12.out).1 (fun e => by injection e with e; have := HNT.out; omega)).trans HN12.out)
  have HA13 := Lib.hid ((hg.block A (Array.getElem?_eq_some_iff.1 HA12.out).1 (fun e => by injection e with e; have := HAL.out; omega)).trans HA12.out)
  have HO13 := Lib.hid (show StOwn W13 W5.heap.size ⟨.slice A10 1 c10, .slice A11 1 c11, .slice A12 1 c12, .slice A13 0 c13, .slice A14 0 c14, .slice A15 0 c15, .slice A16 0 c16, (y + z), 0, 0⟩ (newD [⟨i, 0, r, m, c, y, 0, true⟩]) from (fun h => ⟨h.labs, h.queues, h.nodes, h.apps, h.conts, h.slots, h.plans, h.far⟩) (HU12.out.grown (Ext.refl _) hg))
  have X13 := Lib.hid (ext_grown X12.out hg HTW.out)
  clear hW13 hb hg s7 sf w1' w2' HT12 HS12 HN12 HU12 X12 HA12
  have s0 := bcel HT13.out 0 (.slice A10 1 c10) rfl
  have s1 := bcel HT13.out 1 (.slice A11 1 c11) rfl
  have s2 := bcel HT13.out 2 (.slice A12 1 c12) rfl
  have s3 := bcel HT13.out 3 (.slice A13 0 c13) rfl
  have s4 := bcel HT13.out 4 (.slice A14 0 c14) rfl
  have s5 := bcel HT13.out 5 (.slice A15 0 c15) rfl
  have s6 := bcel HT13.out 6 (.slice A16 0 c16) rfl
  have s7 := bcel HT13.out 7 (.int .i64 (y + z)) rfl
  have s8 := bcel HT13.out 8 (.int .i64 0) rfl
  have s9 := bcel HT13.out 9 (.int .i64 0) rfl
  have n0 := bcel HN13.out 0 (.int .i64 i) rfl
  have hb := Beat_any ⟨.slice A10 1 c10, .slice A11 1 c11, .slice A12 1 c12, .slice A13 0 c13, .slice A14 0 c14, .slice A15 0 c15, .slice A16 0 c16, (y + z), 0, 0⟩ (newD [⟨i, 0, r, m, c, y, 0, true⟩]) i 1 W13 HO13.out.rd (newD_ok (by simp)) (by omega) (by show (0 : Int) ≤ (getN [⟨i, 0, r, m, c, y, 0, true⟩] i).beat; rw [show getN [⟨i, 0, r, m, c, y, 0, true⟩] i = ⟨i, 0, r, m, c, y, 0, true⟩ from get1 ⟨i, 0, r, m, c, y, 0, true⟩]; simp)
  have hE : beatE (newD [⟨i, 0, r, m, c, y, 0, true⟩]).nodes i 1 = 0 := by
    show errBeat (hasN [⟨i, 0, r, m, c, y, 0, true⟩] i) (getN [⟨i, 0, r, m, c, y, 0, true⟩] i).up 1 (getN [⟨i, 0, r, m, c, y, 0, true⟩] i).beat = 0
    rw [show getN [⟨i, 0, r, m, c, y, 0, true⟩] i = ⟨i, 0, r, m, c, y, 0, true⟩ from get1 ⟨i, 0, r, m, c, y, 0, true⟩, show hasN [⟨i, 0, r, m, c, y, 0, true⟩] i = true from has1 ⟨i, 0, r, m, c, y, 0, true⟩]
    rfl
  have hD : beatD (newD [⟨i, 0, r, m, c, y, 0, true⟩]) i 1 (y + z) 0 = newD [⟨i, 0, r, m, c, (y + z), 1, true⟩] := by
    show ({ newD [⟨i, 0, r, m, c, y, 0, true⟩] with nodes := beatN [⟨i, 0, r, m, c, y, 0, true⟩] i (y + z) 1 } : StD) = _
    rw [show beatN [⟨i, 0, r, m, c, y, 0, true⟩] i (y + z) 1 = [⟨i, 0, r, m, c, (y + z), 1, true⟩] from beat1 ⟨i, 0, r, m, c, y, 0, true⟩ _ _]
    rfl
  rw [hE, hD] at hb
  simp only [SV.val] at hb
  have HF := Lib.hid hb
  clear hb hE hD
  go_wp2_with fail
  (with_reducible refine (HF.out).mono ?_)
  unfold RegPost
  rintro e w14 ⟨s, e1, e2, e3, rfl, ho, hx⟩
  obtain ⟨A20, c20, A21, c21, A22, c22, A23, c23, A24, c24, A25, c25, A26, c26, es⟩ := ho.shapeN
  rw [e1, e2, e3] at es
  subst es
  have HP14 := Lib.hid ho
  have HT14 := Lib.hid (ext_blk hx HT13.out)
  have HS14 := Lib.hid (ext_blk hx HS13.out)
  have HN14 := Lib.hid (ext_blk hx HN13.out)
  have HO14 := Lib.hid (HO13.out.ext hx)
  have X14 := Lib.hid (X13.out.trans hx)
  have HA14 := Lib.hid (ext_blk hx HA13.out)
  clear ho hx e1 e2 e3 HF HT13 HS13 HN13 HO13 X13 HA13 n0 s0 s1 s2 s3 s4 s5 s6 s7 s8 s9
  simp only [SV.val, List.length_cons, List.length_nil, Nat.zero_add] at HP14 ⊢
  go_upto_region 11 with fail
  refine at_world (fun W15 hW15 => ?_)
  have HV15 := Lib.hid (show W15.heap[w14.heap.size]? = some (.cells #[.slice A20 1 c20, .slice A21 1 c21, .slice A22 1 c22, .slice A23 0 c23, .slice A24 0 c24, .slice A25 0 c25, .slice A26 0 c26, .int .i64 (y + z), .int .i64 0, .int .i64 0] 34 (0, 0)) by rw [hW15]; exact heap_alloc_new w14 _)
  have hx : Ext w14 W15 := by rw [hW15]; exact ext_alloc _ _
  have HVN := Lib.hid (show N < w14.heap.size from (Array.getElem?_eq_some_iff.1 HN14.out).1)
  obtain ⟨V, hV⟩ : ∃ V, V = w14.heap.size := ⟨_, rfl⟩
  rw [← hV] at HV15 HVN ⊢
  have HP15 := Lib.hid (HP14.out.ext hx)
  have HT15 := Lib.hid (ext_blk hx HT14.out)
  have HS15 := Lib.hid (ext_blk hx HS14.out)
  have HN15 := Lib.hid (ext_blk hx HN14.out)
  have HO15 := Lib.hid (HO14.out.ext hx)
  have X15 := Lib.hid (X14.out.trans hx)
  have HA15 := Lib.hid (ext_blk hx HA14.out)
  clear hx hW15 hV HT14 HS14 HN14 HO14 X14 HA14 HP14
  have s0 := bcel HV15.out 0 (.slice A20 1 c20) rfl
  have s1 := bcel HV15.out 1 (.slice A21 1 c21) rfl
  have s2 := bcel HV15.out 2 (.slice A22 1 c22) rfl
  have s3 := bcel HV15.out 3 (.slice A23 0 c23) rfl
  have s4 := bcel HV15.out 4 (.slice A24 0 c24) rfl
  have s5 := bcel HV15.out 5 (.slice A25 0 c25) rfl
  have s6 := bcel HV15.out 6 (.slice A26 0 c26) rfl
  have s7 := bcel HV15.out 7 (.int .i64 (y + z)) rfl
  have s8 := bcel HV15.out 8 (.int .i64 0) rfl
  have s9 := bcel HV15.out 9 (.int .i64 0) rfl
  have n0 := bcel HN15.out 0 (.int .i64 i) rfl
  have hf := Find_any ⟨.slice A20 1 c20, .slice A21 1 c21, .slice A22 1 c22, .slice A23 0 c23, .slice A24 0 c24, .slice A25 0 c25, .slice A26 0 c26, (y + z), 0, 0⟩ [⟨i, 0, r, m, c, (y + z), 1, true⟩] i W15 HP15.out.rd.nodes (by simp)
  rw [show getN [⟨i, 0, r, m, c, (y + z), 1, true⟩] i = ⟨i, 0, r, m, c, (y + z), 1, true⟩ from get1 ⟨i, 0, r, m, c, (y + z), 1, true⟩, show hasN [⟨i, 0, r, m, c, (y + z), 1, true⟩] i = true from has1 ⟨i, 0, r, m, c, (y + z), 1, true⟩] at hf
  simp only [SV.val, nodeV] at hf
  have HF := Lib.hid hf
  clear hf
  go_wp2_with fail
  (with_reducible refine (HF.out).mono ?_)
  rintro e w16 ⟨rfl, hx⟩
  have HT16 := Lib.hid (ext_blk hx HT15.out)
  have HS16 := Lib.hid (ext_blk hx HS15.out)
  have HN16 := Lib.hid (ext_blk hx HN15.out)
  have HO16 := Lib.hid (HO15.out.ext hx)
  have X16 := Lib.hid (X15.out.trans hx)
  have HA16 := Lib.hid (ext_blk hx HA15.out)
  have HV16 := Lib.hid (ext_blk hx HV15.out)
  clear hx HF HT15 HS15 HN15 HO15 X15 HA15 HV15 HP15 n0 s0 s1 s2 s3 s4 s5 s6 s7 s8 s9
  go_upto_region 12 with fail
  refine at_world (fun W17 hW17 => ?_)
  have HC17 := Lib.hid (show W17.heap[w16.heap.size]? = some (.cells #[.int .i64 i, .int .i64 0, .int .i64 r, .int .i64 m, .int .i64 c, .int .i64 (y + z), .int .i64 1, .bool true] 44 (0, 0)) by rw [hW17]; exact heap_alloc_new w16 _)
  have hx : Ext w16 W17 := by rw [hW17]; exact ext_alloc _ _
  have HCN := Lib.hid (show N < w16.heap.size from (Array.getElem?_eq_some_iff.1 HN16.out).1)
  obtain ⟨C, hC⟩ : ∃ C, C = w16.heap.size := ⟨_, rfl⟩
  rw [← hC] at HC17 HCN ⊢
  have HT17 := Lib.hid (ext_blk hx HT16.out)
  have HS17 := Lib.hid (ext_blk hx HS16.out)
  have HN17 := Lib.hid (ext_blk hx HN16.out)
  have HO17 := Lib.hid (HO16.out.ext hx)
  have X17 := Lib.hid (X16.out.trans hx)
  have HA17 := Lib.hid (ext_blk hx HA16.out)
  have HV17 := Lib.hid (ext_blk hx HV16.out)
  clear hx hW17 hC HT16 HS16 HN16 HO16 X16 HA16 HV16
  have n0 := bcel HN17.out 0 (.int .i64 i) rfl
  have n1 := bcel HN17.out 1 (.int .i64 0) rfl
  have n2 := bcel HN17.out 2 (.int .i64 r) rfl
  have n3 := bcel HN17.out 3 (.int .i64 m) rfl
  have n4 := bcel HN17.out 4 (.int .i64 c) rfl
  have n5 := bcel HN17.out 5 (.int .i64 0) rfl
  have n6 := bcel HN17.out 6 (.int .i64 0) rfl
  have n7 := bcel HN17.out 7 (.bool false) rfl
  have s7 := bcel HS17.out 7 (.int .i64 y) rfl
  refine wp_region_sched (FootL fun q => q = N) (FootL_way _) [(0, true), (1, true), (2, true), (3, false), (4, true), (5, false)] (by kernel_rfl) (by kernel_rfl) (fun _ _ _ _ _ h => h) ?_
  repeat first | ((with_reducible refine sched_free ?_ ?_ ?_ ?_ (fun wk k1 => ?_) ?_); rotate_left 2; (rfl); (first | exact want_none rfl | exact want_some rfl rfl rfl rfl); (go_simp; first | exact OkX.val | (have y7 := k1.cell ((Ext.drew _).cell s7) (by have := HNT.out; have := HNG.out; have := HSG.out; omega); go_simp; exact OkX.val)); simp only [Act.put, List.setIfInBounds_toArray, List.set_cons_zero, List.set_cons_succ]) | ((with_reducible refine sched_skip ?_ ?_ ?_ ?_); rotate_left; (rfl); (exact want_not rfl rfl rfl rfl rfl); simp only [Act.put, List.setIfInBounds_toArray, List.set_cons_zero, List.set_cons_succ])
  ((with_reducible refine sched_step ?_ ?_ ?_ (fun wk k1 => ?_)); rotate_left; (rfl); (first | exact want_none rfl | exact want_some rfl rfl rfl rfl))
  have hN0 := ext_blk ((Ext.drew _).trans k1) HN17.out
  have E1 := Lib.hid ((Ext.drew _).trans k1)
  have nf := fun j => bfre hN0 j
  have y0 := bcel hN0 7 (.bool false) rfl
  clear k1
  go_simp
  refine ⟨FootL.setCell _ _ _ _ _ rfl, ?_⟩
  try simp only [Act.put, List.setIfInBounds_toArray, List.set_cons_zero, List.set_cons_succ]
  have hb1 := bset hN0 7 (.bool true)
  have hg1 := bgrown wk N 7 (.bool true)
  obtain ⟨U1, hU1⟩ : ∃ U, U = wk.setCell ⟨N, 7, none⟩ (.bool true) := ⟨_, rfl⟩
  rw [← hU1] at hb1 hg1 ⊢
  have s7' : U1.cell? ⟨S, 7, none⟩ = some (.int .i64 y) := by rw [hU1, World.cell?_setCell_other _ _ _ _ (by have := HNT.out; have := HNG.out; have := HSG.out; simp <;> omega)]; exact E1.out.cell s7
  clear hU1 nf y0 hN0
  repeat first | ((with_reducible refine sched_free ?_ ?_ ?_ ?_ (fun wk k1 => ?_) ?_); rotate_left 2; (rfl); (first | exact want_none rfl | exact want_some rfl rfl rfl rfl); (go_simp; first | exact OkX.val | (have y7 := k1.cell s7' (by have := HNT.out; have := HNG.out; have := HSG.out; omega); go_simp; exact OkX.val)); simp only [Act.put, List.setIfInBounds_toArray, List.set_cons_zero, List.set_cons_succ]) | ((with_reducible refine sched_skip ?_ ?_ ?_ ?_); rotate_left; (rfl); (exact want_not rfl rfl rfl rfl rfl); simp only [Act.put, List.setIfInBounds_toArray, List.set_cons_zero, List.set_cons_succ])
  ((with_reducible refine sched_step ?_ ?_ ?_ (fun wk k1 => ?_)); rotate_left; (rfl); (first | exact want_none rfl | exact want_some rfl rfl rfl rfl))
  have hN1 := ext_blk k1 hb1
  have E2 := Lib.hid k1
  have nf := fun j => bfre hN1 j
  have y0 := bcel hN1 5 (.int .i64 0) rfl
  clear k1
  go_simp
  refine ⟨FootL.setCell _ _ _ _ _ rfl, ?_⟩
  try simp only [Act.put, List.setIfInBounds_toArray, List.set_cons_zero, List.set_cons_succ]
  have hb2 := bset hN1 5 (.int .i64 y)
  have hg2 := bgrown wk N 5 (.int .i64 y)
  refine sched_done (fun W18 k1 => ?_)
  have HG2 := Lib.hid (((grown_of_ext E1.out _).trans (hg1.trans (grown_of_ext E2.out _))).trans (hg2.trans (grown_of_ext k1 _)))
  have HN18 := Lib.hid (show W18.heap[N]? = some (.cells #[.int .i64 i, .int .i64 0, .int .i64 r, .int .i64 m, .int .i64 c, .int .i64 y, .int .i64 0, .bool true] 44 (0, 0)) from ext_blk k1 hb2)
  have HT18 := Lib.hid ((HG2.out.block _ (Array.getElem?_eq_some_iff.1 HT17.out).1 (fun e => by injection e with e; have := HNT.out; have := HNG.out; have := HSG.out; have := HAL.out; have := HVN.out; have := HCN.out; omega)).trans HT17.out)
  have HS18 := Lib.hid ((HG2.out.block _ (Array.getElem?_eq_some_iff.1 HS17.out).1 (fun e => by injection e with e; have := HNT.out; have := HNG.out; have := HSG.out; have := HAL.out; have := HVN.out; have := HCN.out; omega)).trans HS17.out)
  have HA18 := Lib.hid ((HG2.out.block _ (Array.getElem?_eq_some_iff.1 HA17.out).1 (fun e => by injection e with e; have := HNT.out; have := HNG.out; have := HSG.out; have := HAL.out; have := HVN.out; have := HCN.out; omega)).trans HA17.out)
  have HV18 := Lib.hid ((HG2.out.block _ (Array.getElem?_eq_some_iff.1 HV17.out).1 (fun e => by injection e with e; have := HNT.out; have := HNG.out; have := HSG.out; have := HAL.out; have := HVN.out; have := HCN.out; omega)).trans HV17.out)
  have HC18 := Lib.hid ((HG2.out.block _ (Array.getElem?_eq_some_iff.1 HC17.out).1 (fun e => by injection e with e; have := HNT.out; have := HNG.out; have := HSG.out; have := HAL.out; have := HVN.out; have := HCN.out; omega)).trans HC17.out)
  have X18 := Lib.hid (ext_grown X17.out HG2.out HNW.out)
  have HR18 := Lib.hid (show StRd W18 ⟨.slice A10 1 c10, .slice A11 1 c11, .slice A12 1 c12, .slice A13 0 c13, .slice A14 0 c14, .slice A15 0 c15, .slice A16 0 c16, (y + z), 0, 0⟩ (newD [⟨i, 0, r, m, c, y, 0, true⟩]) from (HO17.out.low HG2.out HBN.out).rd)
  clear HG2 hb1 hg1 hb2 hg2 hN1 E1 E2 nf y0 s7 s7' k1 HT17 HS17 HN17 HO17 X17 HA17 HV17 HC17 n0 n1 n2 n3 n4 n5 n6 n7
  have s0 := bcel HT18.out 0 (.slice A10 1 c10) rfl
  have s1 := bcel HT18.out 1 (.slice A11 1 c11) rfl
  have s2 := bcel HT18.out 2 (.slice A12 1 c12) rfl
  have s3 := bcel HT18.out 3 (.slice A13 0 c13) rfl
  have s4 := bcel HT18.out 4 (.slice A14 0 c14) rfl
  have s5 := bcel HT18.out 5 (.slice A15 0 c15) rfl
  have s6 := bcel HT18.out 6 (.slice A16 0 c16) rfl
  have s7 := bcel HT18.out 7 (.int .i64 (y + z)) rfl
  have s8 := bcel HT18.out 8 (.int .i64 0) rfl
  have s9 := bcel HT18.out 9 (.int .i64 0) rfl
  have n0 := bcel HN18.out 0 (.int .i64 i) rfl
  have n1 := bcel HN18.out 1 (.int .i64 0) rfl
  have n2 := bcel HN18.out 2 (.int .i64 r) rfl
  have n3 := bcel HN18.out 3 (.int .i64 m) rfl
  have n4 := bcel HN18.out 4 (.int .i64 c) rfl
  have n5 := bcel HN18.out 5 (.int .i64 y) rfl
  have n6 := bcel HN18.out 6 (.int .i64 0) rfl
  have n7 := bcel HN18.out 7 (.bool true) rfl
  have a0 := bcel HA18.out 0 (.int .i64 i) rfl
  have a1 := bcel HA18.out 1 (.int .i64 0) rfl
  have a2 := bcel HA18.out 2 (.int .i64 r) rfl
  have a3 := bcel HA18.out 3 (.int .i64 m) rfl
  have a4 := bcel HA18.out 4 (.int .i64 c) rfl
  have a5 := bcel HA18.out 5 (.int .i64 y) rfl
  have a6 := bcel HA18.out 6 (.int .i64 0) rfl
  have a7 := bcel HA18.out 7 (.bool true) rfl
  have hf := fun W (x : Ext W18 W) => Free0_any ⟨.slice A10 1 c10, .slice A11 1 c11, .slice A12 1 c12, .slice A13 0 c13, .slice A14 0 c14, .slice A15 0 c15, .slice A16 0 c16, (y + z), 0, 0⟩ [⟨i, 0, r, m, c, y, 0, true⟩] i W (HR18.out.ext x).nodes (by simp) (HR18.out.ext x).conts (fun d hd => by simp at hd; subst hd; have := Bm.out; have := Bc.out; dsimp only; omega)
  rw [show free0 [⟨i, 0, r, m, c, y, 0, true⟩] i = (m, c) by
    unfold free0
    rw [show getN [⟨i, 0, r, m, c, y, 0, true⟩] i = ⟨i, 0, r, m, c, y, 0, true⟩ from get1 ⟨i, 0, r, m, c, y, 0, true⟩]
    have := Bm.out
    have := Bc.out
    simp
    omega] at hf
  simp only [SV.val, vecV] at hf
  have HF := Lib.hid hf
  clear hf
  go_upto_region 13 with fail
  go_cut [112] from 86 to 112 (fun s wx => s = .bool false ∧ Ext W18 wx)
  case first =>
    go_wp2
    refine wp_region_sched Ext ext_way [(0, true), (1, true), (2, true), (3, true), (4, true), (5, true), (6, true), (7, true), (8, true), (9, true), (10, true), (11, true), (12, true), (13, true), (14, true), (15, true), (16, true), (17, true), (18, true), (19, true), (20, true), (21, true), (22, true), (23, true), (24, true), (25, true), (26, true)] (by kernel_rfl) (by kernel_rfl) (fun _ _ _ _ _ h => h) ?_
    repeat first | ((with_reducible refine sched_free ?_ ?_ ?_ ?_ (fun wk k1 => ?_) ?_); rotate_left 2; (rfl); (first | exact want_none rfl | exact want_some rfl rfl rfl rfl); (go_simp; first | exact OkX.val | (have y0 := k1.cell ((Ext.drew _).cell s0); have y1 := k1.cell ((Ext.drew _).cell s1); have y2 := k1.cell ((Ext.drew _).cell s2); have y3 := k1.cell ((Ext.drew _).cell s3); have y4 := k1.cell ((Ext.drew _).cell s4); have y5 := k1.cell ((Ext.drew _).cell s5); have y6 := k1.cell ((Ext.drew _).cell s6); have y7 := k1.cell ((Ext.drew _).cell s7); have y8 := k1.cell ((Ext.drew _).cell s8); have y9 := k1.cell ((Ext.drew _).cell s9); have p0 := k1.cell ((Ext.drew _).cell n0); have p1 := k1.cell ((Ext.drew _).cell n1); have p2 := k1.cell ((Ext.drew _).cell n2); have p3 := k1.cell ((Ext.drew _).cell n3); have p4 := k1.cell ((Ext.drew _).cell n4); have p5 := k1.cell ((Ext.drew _).cell n5); have p6 := k1.cell ((Ext.drew _).cell n6); have p7 := k1.cell ((Ext.drew _).cell n7); have q0 := k1.cell ((Ext.drew _).cell a0); have q1 := k1.cell ((Ext.drew _).cell a1); have q2 := k1.cell ((Ext.drew _).cell a2); have q3 := k1.cell ((Ext.drew _).cell a3); have q4 := k1.cell ((Ext.drew _).cell a4); have q5 := k1.cell ((Ext.drew _).cell a5); have q6 := k1.cell ((Ext.drew _).cell a6); have q7 := k1.cell ((Ext.drew _).cell a7); go_simp; exact OkX.val) | ((with_reducible refine OkX.eqv (OkX.call (HF.out _ ((Ext.drew _).trans k1))) ?_); exact rfl)); simp only [Act.put, List.setIfInBounds_toArray, List.set_cons_zero, List.set_cons_succ]) | ((with_reducible refine sched_skip ?_ ?_ ?_ ?_); rotate_left; (rfl); (exact want_not rfl rfl rfl rfl rfl); simp only [Act.put, List.setIfInBounds_toArray, List.set_cons_zero, List.set_cons_succ])
    refine sched_done (fun wz k1 => ?_)
    have hfin := Lib.hid ((Ext.drew _).trans k1)
    clear k1
    go_wp2
    go_meet
    case rel => exact ⟨rfl, hfin.out⟩
  case rest =>
  obtain ⟨rfl, hx⟩ := hcut
  have HT19 := Lib.hid (ext_blk hx HT18.out)
  have HN19 := Lib.hid (ext_blk hx HN18.out)
  have X19 := Lib.hid (X18.out.trans hx)
  have HV19 := Lib.hid (ext_blk hx HV18.out)
  have HC19 := Lib.hid (ext_blk hx HC18.out)
  clear hx HF HR18 HT18 HN18 X18 HV18 HC18 HA18 HS18 s0 s1 s2 s3 s4 s5 s6 s7 s8 s9 n0 n1 n2 n3 n4 n5 n6 n7 a0 a1 a2 a3 a4 a5 a6 a7
  go_upto_region 15 with fail
  have n0 := bcel HN19.out 0 (.int .i64 i) rfl
  have n1 := bcel HN19.out 1 (.int .i64 0) rfl
  have n2 := bcel HN19.out 2 (.int .i64 r) rfl
  have n3 := bcel HN19.out 3 (.int .i64 m) rfl
  have n4 := bcel HN19.out 4 (.int .i64 c) rfl
  have n5 := bcel HN19.out 5 (.int .i64 y) rfl
  have n6 := bcel HN19.out 6 (.int .i64 0) rfl
  have n7 := bcel HN19.out 7 (.bool true) rfl
  have s7 := bcel HT19.out 7 (.int .i64 (y + z)) rfl
  refine wp_region_sched (FootL fun q => q = N) (FootL_way _) [(0, true), (1, true), (2, true), (3, false), (4, true), (5, false)] (by kernel_rfl) (by kernel_rfl) (fun _ _ _ _ _ h => h) ?_
  repeat first | ((with_reducible refine sched_free ?_ ?_ ?_ ?_ (fun wk k1 => ?_) ?_); rotate_left 2; (rfl); (first | exact want_none rfl | exact want_some rfl rfl rfl rfl); (go_simp; first | exact OkX.val | (have y7 := k1.cell ((Ext.drew _).cell s7) (by have := HNT.out; have := HNG.out; have := HSG.out; omega); go_simp; exact OkX.val)); simp only [Act.put, List.setIfInBounds_toArray, List.set_cons_zero, List.set_cons_succ]) | ((with_reducible refine sched_skip ?_ ?_ ?_ ?_); rotate_left; (rfl); (exact want_not rfl rfl rfl rfl rfl); simp only [Act.put, List.setIfInBounds_toArray, List.set_cons_zero, List.set_cons_succ])
  ((with_reducible refine sched_step ?_ ?_ ?_ (fun wk k1 => ?_)); rotate_left; (rfl); (first | exact want_none rfl | exact want_some rfl rfl rfl rfl))
  have hN0 := ext_blk ((Ext.drew _).trans k1) HN19.out
  have E1 := Lib.hid ((Ext.drew _).trans k1)
  have nf := fun j => bfre hN0 j
  have y0 := bcel hN0 6 (.int .i64 0) rfl
  clear k1
  go_simp
  refine ⟨FootL.setCell _ _ _ _ _ rfl, ?_⟩
  try simp only [Act.put, List.setIfInBounds_toArray, List.set_cons_zero, List.set_cons_succ]
  have hb1 := bset hN0 6 (.int .i64 1)
  have hg1 := bgrown wk N 6 (.int .i64 1)
  obtain ⟨U1, hU1⟩ : ∃ U, U = wk.setCell ⟨N, 6, none⟩ (.int .i64 1) := ⟨_, rfl⟩
  rw [← hU1] at hb1 hg1 ⊢
  have s7' : U1.cell? ⟨T, 7, none⟩ = some (.int .i64 (y + z)) := by rw [hU1, World.cell?_setCell_other _ _ _ _ (by have := HNT.out; have := HNG.out; have := HSG.out; simp <;> omega)]; exact E1.out.cell s7
  clear hU1 nf y0 hN0
  repeat first | ((with_reducible refine sched_free ?_ ?_ ?_ ?_ (fun wk k1 => ?_) ?_); rotate_left 2; (rfl); (first | exact want_none rfl | exact want_some rfl rfl rfl rfl); (go_simp; first | exact OkX.val | (have y7 := k1.cell s7' (by have := HNT.out; have := HNG.out; have := HSG.out; omega); go_simp; exact OkX.val)); simp only [Act.put, List.setIfInBounds_toArray, List.set_cons_zero, List.set_cons_succ]) | ((with_reducible refine sched_skip ?_ ?_ ?_ ?_); rotate_left; (rfl); (exact want_not rfl rfl rfl rfl rfl); simp only [Act.put, List.setIfInBounds_toArray, List.set_cons_zero, List.set_cons_succ])
  ((with_reducible refine sched_step ?_ ?_ ?_ (fun wk k1 => ?_)); rotate_left; (rfl); (first | exact want_none rfl | exact want_some rfl rfl rfl rfl))
  have hN1 := ext_blk k1 hb1
  have E2 := Lib.hid k1
  have nf := fun j => bfre hN1 j
  have y0 := bcel hN1 5 (.int .i64 y) rfl
  clear k1
  go_simp
  refine ⟨FootL.setCell _ _ _ _ _ rfl, ?_⟩
  try simp only [Act.put, List.setIfInBounds_toArray, List.set_cons_zero, List.set_cons_succ]
  have hb2 := bset hN1 5 (.int .i64 (y + z))
  have hg2 := bgrown wk N 5 (.int .i64 (y + z))
  refine sched_done (fun W20 k1 => ?_)
  have HG2 := Lib.hid (((grown_of_ext E1.out _).trans (hg1.trans (grown_of_ext E2.out _))).trans (hg2.trans (grown_of_ext k1 _)))
  have HN20 := Lib.hid (show W20.heap[N]? = some (.cells #[.int .i64 i, .int .i64 0, .int .i64 r, .int .i64 m, .int .i64 c, .int .i64 (y + z), .int .i64 1, .bool true] 44 (0, 0)) from ext_blk k1 hb2)
  have HT20 := Lib.hid ((HG2.out.block _ (Array.getElem?_eq_some_iff.1 HT19.out).1 (fun e => by injection e with e; have := HNT.out; have := HNG.out; have := HSG.out; have := HAL.out; have := HVN.out; have := HCN.out; omega)).trans HT19.out)
  have HV20 := Lib.hid ((HG2.out.block _ (Array.getElem?_eq_some_iff.1 HV19.out).1 (fun e => by injection e with e; have := HNT.out; have := HNG.out; have := HSG.out; have := HAL.out; have := HVN.out; have := HCN.out; omega)).trans HV19.out)
  have HC20 := Lib.hid ((HG2.out.block _ (Array.getElem?_eq_some_iff.1 HC19.out).1 (fun e => by injection e with e; have := HNT.out; have := HNG.out; have := HSG.out; have := HAL.out; have := HVN.out; have := HCN.out; omega)).trans HC19.out)
  have X20 := Lib.hid (ext_grown X19.out HG2.out HNW.out)
  clear HG2 hb1 hg1 hb2 hg2 hN1 E1 E2 nf y0 s7 s7' k1 HT19 HN19 X19 HV19 HC19 n0 n1 n2 n3 n4 n5 n6 n7
  have s0 := bcel HV20.out 0 (.slice A20 1 c20) rfl
  have s1 := bcel HV20.out 1 (.slice A21 1 c21) rfl
  have s2 := bcel HV20.out 2 (.slice A22 1 c22) rfl
  have s3 := bcel HV20.out 3 (.slice A23 0 c23) rfl
  have s4 := bcel HV20.out 4 (.slice A24 0 c24) rfl
  have s5 := bcel HV20.out 5 (.slice A25 0 c25) rfl
  have s6 := bcel HV20.out 6 (.slice A26 0 c26) rfl
  have s7 := bcel HV20.out 7 (.int .i64 (y + z)) rfl
  have s8 := bcel HV20.out 8 (.int .i64 0) rfl
  have s9 := bcel HV20.out 9 (.int .i64 0) rfl
  have n0 := bcel HN20.out 0 (.int .i64 i) rfl
  have n1 := bcel HN20.out 1 (.int .i64 0) rfl
  have n2 := bcel HN20.out 2 (.int .i64 r) rfl
  have n3 := bcel HN20.out 3 (.int .i64 m) rfl
  have n4 := bcel HN20.out 4 (.int .i64 c) rfl
  have n5 := bcel HN20.out 5 (.int .i64 (y + z)) rfl
  have n6 := bcel HN20.out 6 (.int .i64 1) rfl
  have n7 := bcel HN20.out 7 (.bool true) rfl
  have a0 := bcel HC20.out 0 (.int .i64 i) rfl
  have a1 := bcel HC20.out 1 (.int .i64 0) rfl
  have a2 := bcel HC20.out 2 (.int .i64 r) rfl
  have a3 := bcel HC20.out 3 (.int .i64 m) rfl
  have a4 := bcel HC20.out 4 (.int .i64 c) rfl
  have a5 := bcel HC20.out 5 (.int .i64 (y + z)) rfl
  have a6 := bcel HC20.out 6 (.int .i64 1) rfl
  have a7 := bcel HC20.out 7 (.bool true) rfl
  go_wp2
  go_ret
  exact ⟨rfl, X20.out⟩

theorem own : ownKnob Try.prog.godebug = none := by kernel_rfl
theorem laidOut : laidOutB Try.prog = true := by kernel_rfl
set_option maxRecDepth 100000 in
theorem lifted (os : Os) (started : os.Started) (H : Type) (enc : TypeId × Value → H) :
    ReturnsInHanded {} Try.checked os 6 .any (Rows.nodesBackSpec.pre6 enc Try.prog Try.f6 Rows.nodesBackRow.domain false) (Rows.nodesBackSpec.post enc Try.prog Try.f6 false true false false) := by
  refine returnsInHanded_of_change (C := Try.checked) own started (by kernel_rfl) Try.func6
    (ChangeSpec.witness6 (enc := enc) (C := Try.checked) false ⟨#[], #[.agg #[.int .i64 0, .int .i64 0, .int .i64 0, .int .i64 0, .int .i64 0, .int .i64 0, .int .i64 0, .bool false], .int .i64 0, .int .i64 0], []⟩ 8 (by kernel_rfl) (by kernel_rfl) (by kernel_rfl) (by kernel_rfl)) ?_
  intro W base args ds gs before hval0 hW hcnd _
  have hval : ∀ (j : Nat) t v, Try.f6.params[j]? = some t → args[j]? = some v → Value.okWide Try.prog W .any base t v := hval0
  have hW' := hW
  obtain ⟨p, q, hA0, hV, rfl, hfz, hnd⟩ := hW
  have hA : DataW.TrodAll enc Try.prog W 0 (fun _ => true) true Try.f6.params.toList args.toList ds p := hA0
  rw [Try.params6] at hA hval
  obtain ⟨v0, vs0, d0, ds0, p0, q0, hargs, rfl, rfl, h0, r0⟩ := trodAll_cons hA
  obtain ⟨v1, vs1, d1, ds1, p1, q1, rfl, rfl, rfl, h1, r1⟩ := trodAll_cons r0
  obtain ⟨v2, vs2, d2, ds2, p2, q2, rfl, rfl, rfl, h2, r2⟩ := trodAll_cons r1
  obtain ⟨rfl, rfl, rfl⟩ := trodAll_nil r2
  obtain rfl : args = #[v0, v1, v2] := by cases args; simp_all
  obtain ⟨rfl, rfl⟩ := trodVars_none hV
  have hlt0 : ∀ x ∈ p0, x.block < W.heap.size := fun x hx => by simpa using hW'.lt x (by simp [hx])
  obtain ⟨id0, label0, rack0, mem0, cores0, seen0, beat0, up0, rfl, wf0⟩ := open_node Try.underlying44 Try.underlying42 Try.underlying3 Try.underlying4 (by kernel_rfl) (by kernel_rfl) (by kernel_rfl) (by kernel_rfl) rfl rfl rfl rfl rfl rfl rfl rfl rfl rfl rfl rfl rfl rfl rfl rfl rfl rfl (hval 0 44 v0 rfl rfl) h0
  obtain ⟨a1, rfl, rfl, rfl, w1⟩ := open_int Try.underlying3 (hval 1 3 v1 rfl rfl) h1
  obtain ⟨a2, rfl, rfl, rfl, w2⟩ := open_int Try.underlying3 (hval 2 3 v2 rfl rfl) h2
  clear hA0 hval0
  refine (walk W id0 label0 rack0 mem0 cores0 seen0 beat0 up0 a1 w1 a2 w2).mono fun e W' ⟨he, bel⟩ => ?_
  subst he
  exact ⟨_, rfl, _, _, _, [], _, [], hW', trodAll_mk1 (shut_bool Try.underlying4 _), (trodAll_cons_mk (Below.trod laidOut (by kernel_rfl) (of_decide_eq_true (by kernel_rfl)) h0 bel hlt0) (trodAll_cons_mk (shut_int Try.underlying3 w1) (trodAll_cons_mk (shut_int Try.underlying3 w2) trodAll_mk0))), rfl, bel.frame _, fun h => by cases h⟩

theorem over : Rows.nodesBackRow.holds Try.pinned (OpenSpec.ofChange Rows.nodesBackSpec) :=
  OpenClaim.holds_of_wide 6 Try.f6 rfl rfl rfl rfl rfl rfl rfl ⟨rfl, rfl, rfl, rfl, rfl⟩ rfl rfl rfl rfl rfl (by kernel_rfl) Try.func6 (by kernel_rfl)
    (of_decide_eq_true (by kernel_rfl)) (by unfold Func.isWrapper; first | (rw [if_pos (by decide +kernel)]; kernel_rfl) | (rw [if_neg (by decide +kernel)]; exact ⟨rfl, rfl⟩))
    (fun os started H enc _ => lifted os started H enc)

theorem proved : Rows.NodesBackSaid := over
#print axioms proved
end Go.Proofs.Ytffioglbgnbieaa.NodesBack
