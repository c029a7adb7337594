/- nodes.Find. -/
import Derived.Test.YtffioglbgnbieaaNdKey
namespace Go.Proofs.Ytffioglbgnbieaa
open Go.RowKit

/-- Node d is the k-th one of block g. -/
def NAt (w : World) (g k : Nat) (d : ND) : Prop :=
  w.cell? ⟨g, k * 8, none⟩ = some (.int .i64 d.id) ∧ w.cell? ⟨g, k * 8 + 1, none⟩ = some (.int .i64 d.label) ∧ w.cell? ⟨g, k * 8 + 2, none⟩ = some (.int .i64 d.rack) ∧ w.cell? ⟨g, k * 8 + 3, none⟩ = some (.int .i64 d.mem) ∧
    w.cell? ⟨g, k * 8 + 4, none⟩ = some (.int .i64 d.cores) ∧ w.cell? ⟨g, k * 8 + 5, none⟩ = some (.int .i64 d.seen) ∧ w.cell? ⟨g, k * 8 + 6, none⟩ = some (.int .i64 d.beat) ∧ w.cell? ⟨g, k * 8 + 7, none⟩ = some (.bool d.up)
theorem NAt.ext {w w' : World} {g k : Nat} {d : ND} (h : NAt w g k d) (x : Ext w w') : NAt w' g k d :=
  ⟨x.cell h.1, x.cell h.2.1, x.cell h.2.2.1, x.cell h.2.2.2.1, x.cell h.2.2.2.2.1, x.cell h.2.2.2.2.2.1, x.cell h.2.2.2.2.2.2.1, x.cell h.2.2.2.2.2.2.2⟩

/-- A node's block is written anew. -/
theorem bset8 {w : World} {b : Nat} {t : TypeId} {x0 x1 x2 x3 x4 x5 x6 x7 : Value} (h : w.heap[b]? = some (.cells #[x0, x1, x2, x3, x4, x5, x6, x7] t (0, 0))) (v0 v1 v2 v3 v4 v5 v6 v7 : Value) : ((((((((w.setCell ⟨b, 0, none⟩ v0).setCell ⟨b, 1, none⟩ v1).setCell ⟨b, 2, none⟩ v2).setCell ⟨b, 3, none⟩ v3).setCell ⟨b, 4, none⟩ v4).setCell ⟨b, 5, none⟩ v5).setCell ⟨b, 6, none⟩ v6).setCell ⟨b, 7, none⟩ v7).heap[b]? = some (.cells #[v0, v1, v2, v3, v4, v5, v6, v7] t (0, 0)) := by
  have e := bset (bset (bset (bset (bset (bset (bset (bset h 0 v0) 1 v1) 2 v2) 3 v3) 4 v4) 5 v5) 6 v6) 7 v7
  simp only [List.setIfInBounds_toArray, List.set_cons_zero, List.set_cons_succ] at e
  exact e

/-- The node with that Id, or nothing of all. -/
def zND : ND := ⟨0, 0, 0, 0, 0, 0, 0, false⟩
def idxN (ds : List ND) (id : Int) : Nat := ds.findIdx (fun d => id == d.id)
def hasN (ds : List ND) (id : Int) : Bool := decide (idxN ds id < ds.length)
def getN (ds : List ND) (id : Int) : ND := ds.getD (idxN ds id) zND

theorem idxN_le (ds : List ND) (id : Int) : idxN ds id ≤ ds.length := List.findIdx_le_length
theorem idxN_id {ds : List ND} {id : Int} (h : idxN ds id < ds.length) : (ds[idxN ds id]).id = id := by
  have := List.findIdx_getElem (p := fun d : ND => id == d.id) (xs := ds) (w := h)
  simp at this
  exact this.symm
theorem getN_at {ds : List ND} {id : Int} (h : idxN ds id < ds.length) : getN ds id = ds[idxN ds id] := by
  unfold getN
  rw [List.getD_eq_getElem?_getD, List.getElem?_eq_getElem h]
  rfl
theorem getN_no {ds : List ND} {id : Int} (h : ¬ idxN ds id < ds.length) : getN ds id = zND := by
  unfold getN
  rw [List.getD_eq_getElem?_getD, List.getElem?_eq_none (by omega)]
  rfl

set_option maxRecDepth 100000 in
set_option maxHeartbeats 1600000 in
theorem Find_any (s : SV) (ds : List ND) (id : Int) (w : World) (hn : Hd w s.vn ds.length (ncells ds)) (hlen : ds.length ≤ 1000) :
    Calls Try.prog 12 #[s.val, .int .i64 id] w fun e w' => e = .returned (.tuple #[nodeV (getN ds id), .bool (hasN ds id)]) ∧ Ext w w' := by
  have HI := Lib.hid (fun W (x : Ext w W) => first_any 20 id _ (isOf_means id) s.vn ds W (hn.ext x) hlen)
  obtain ⟨vl, vq, vn, va, vc, vs, vp, nw, ep, sq⟩ := s
  obtain ⟨A, N, c, e, hN, hc1, hc2, hcell⟩ := hn.node
  simp only at e HI
  subst e
  have HC := Lib.hid hcell
  have HN := Lib.hid hN
  have hle := idxN_le ds id
  clear hcell hN hn hlen
  simp only [SV.val]
  go_enter Try.func12, Try.ntmps12
  go_wp2_with fail
  (with_reducible refine (HI.out _ ((ext_alloc _ _).trans (ext_alloc _ _))).mono ?_)
  rintro e w1 ⟨rfl, hx1⟩
  have X1 := Lib.hid (((ext_alloc w (.cells #[vl, vq, .slice A N c, va, vc, vs, vp, .int .i64 nw, .int .i64 ep, .int .i64 sq] 34)).trans (ext_alloc _ (.cells #[.int .i64 0, .int .i64 0, .int .i64 0, .int .i64 0, .int .i64 0, .int .i64 0, .int .i64 0, .bool false] 44))).trans hx1)
  have HS := Lib.hid (ext_blk hx1 (ext_blk (ext_alloc _ _) (heap_alloc_new w (.cells #[vl, vq, .slice A N c, va, vc, vs, vp, .int .i64 nw, .int .i64 ep, .int .i64 sq] 34))))
  have HT := Lib.hid (ext_blk hx1 (alloc_at (w := w.alloc (.cells #[vl, vq, .slice A N c, va, vc, vs, vp, .int .i64 nw, .int .i64 ep, .int .i64 sq] 34)) (n := w.heap.size + 1) (o := .cells #[.int .i64 0, .int .i64 0, .int .i64 0, .int .i64 0, .int .i64 0, .int .i64 0, .int .i64 0, .bool false] 44) (by simp)))
  rw [show ds.findIdx (fun d => id == d.id) = idxN ds id from rfl]
  obtain ⟨B, hB⟩ : ∃ B, B = w.heap.size := ⟨_, rfl⟩
  have HB := Lib.hid hB
  rw [← hB] at HS HT ⊢
  clear hx1 hB
  have s2 := bcel HS.out 2 (.slice A N c) rfl
  have t0 := bcel HT.out 0 (.int .i64 0) rfl
  have t1 := bcel HT.out 1 (.int .i64 0) rfl
  have t2 := bcel HT.out 2 (.int .i64 0) rfl
  have t3 := bcel HT.out 3 (.int .i64 0) rfl
  have t4 := bcel HT.out 4 (.int .i64 0) rfl
  have t5 := bcel HT.out 5 (.int .i64 0) rfl
  have t6 := bcel HT.out 6 (.int .i64 0) rfl
  have t7 := bcel HT.out 7 (.bool false) rfl
  have f := fun j => bfre HT.out j
  by_cases h : idxN ds id < ds.length
  · have HV := Lib.hid (getN_at h)
    have HH := Lib.hid (show hasN ds id = true by unfold hasN; simpa using h)
    obtain ⟨k, hk⟩ : ∃ k, k = idxN ds id := ⟨_, rfl⟩
    obtain ⟨g, rfl, hg⟩ := HC.out (by have := HN.out; omega)
    have hq : NAt w g (idxN ds id) ds[idxN ds id] := hg (idxN ds id) h
    rw [← HV.out] at hq
    obtain ⟨d, hd⟩ : ∃ d, d = getN ds id := ⟨_, rfl⟩
    rw [← hd, ← hk] at hq
    have HD := Lib.hid hd
    obtain ⟨q0, q1, q2, q3, q4, q5, q6, q7⟩ := hq.ext X1.out
    rw [← hk]
    have k0 : (0 : Int) ≤ (k : Int) := by omega
    have k1 : (k : Int) < (N : Int) := by have := HN.out; omega
    have k2 : ((k : Int) == (N : Int)) = false := by simp; omega
    have k3 : ¬ (k : Int) = (N : Int) := by omega
    clear hq hg hk h hle HV hd
    go_wp2
    refine at_worldB (fun W9 hW9 => ?_)
    have hb := bset8 HT.out (.int .i64 d.id) (.int .i64 d.label) (.int .i64 d.rack) (.int .i64 d.mem) (.int .i64 d.cores) (.int .i64 d.seen) (.int .i64 d.beat) (.bool d.up)
    rw [← hW9] at hb
    have g0 := bcel hb 0 (.int .i64 d.id) rfl
    have g1 := bcel hb 1 (.int .i64 d.label) rfl
    have g2 := bcel hb 2 (.int .i64 d.rack) rfl
    have g3 := bcel hb 3 (.int .i64 d.mem) rfl
    have g4 := bcel hb 4 (.int .i64 d.cores) rfl
    have g5 := bcel hb 5 (.int .i64 d.seen) rfl
    have g6 := bcel hb 6 (.int .i64 d.beat) rfl
    have g7 := bcel hb 7 (.bool d.up) rfl
    refine bodyPost_ret (by simp [results, Try.results12, go_sem, g0, g1, g2, g3, g4, g5, g6, g7]; try rfl) rfl ?_
    refine ⟨by rw [HH.out, ← HD.out]; rfl, ?_⟩
    rw [hW9]
    have hB := HB.out
    exact ext_set (o := 7) (ext_set (o := 6) (ext_set (o := 5) (ext_set (o := 4) (ext_set (o := 3) (ext_set (o := 2) (ext_set (o := 1) (ext_set (o := 0) X1.out (by omega) _) (by omega) _) (by omega) _) (by omega) _) (by omega) _) (by omega) _) (by omega) _) (by omega) _
  · have HV := Lib.hid (getN_no h)
    have HH := Lib.hid (show hasN ds id = false by unfold hasN; simpa using h)
    have HK := Lib.hid (show idxN ds id = N by have := HN.out; omega)
    rw [HK.out]
    have k2 : ((N : Int) == (N : Int)) = true := by simp
    clear h hle
    go_wp2
    refine at_worldB (fun W9 hW9 => ?_)
    have hb := bset8 HT.out (.int .i64 0) (.int .i64 0) (.int .i64 0) (.int .i64 0) (.int .i64 0) (.int .i64 0) (.int .i64 0) (.bool false)
    rw [← hW9] at hb
    have g0 := bcel hb 0 (.int .i64 0) rfl
    have g1 := bcel hb 1 (.int .i64 0) rfl
    have g2 := bcel hb 2 (.int .i64 0) rfl
    have g3 := bcel hb 3 (.int .i64 0) rfl
    have g4 := bcel hb 4 (.int .i64 0) rfl
    have g5 := bcel hb 5 (.int .i64 0) rfl
    have g6 := bcel hb 6 (.int .i64 0) rfl
    have g7 := bcel hb 7 (.bool false) rfl
    refine bodyPost_ret (by simp [results, Try.results12, go_sem, g0, g1, g2, g3, g4, g5, g6, g7]; try rfl) rfl ?_
    refine ⟨by rw [HH.out, HV.out]; rfl, ?_⟩
    rw [hW9]
    have hB := HB.out
    exact ext_set (o := 7) (ext_set (o := 6) (ext_set (o := 5) (ext_set (o := 4) (ext_set (o := 3) (ext_set (o := 2) (ext_set (o := 1) (ext_set (o := 0) X1.out (by omega) _) (by omega) _) (by omega) _) (by omega) _) (by omega) _) (by omega) _) (by omega) _) (by omega) _
end Go.Proofs.Ytffioglbgnbieaa
