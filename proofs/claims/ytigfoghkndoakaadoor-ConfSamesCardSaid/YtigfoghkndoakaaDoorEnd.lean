/- conf.reader.end. -/
import Derived.Test.YtigfoghkndoakaaDoorSort
namespace Go.Proofs.YtigfoghkndoakaaDoor
open Go.RowKit

theorem fin_none {s : CD} (h : s.labels = []) : fin s = (6, .none) := by unfold fin; rw [if_pos h]
theorem fin_is {s : CD} (h : s.labels ≠ []) (hn : ¬ (s.queues.map (·.path)).Nodup) : fin s = (7, .none) := by unfold fin; rw [if_neg h, if_neg hn]
theorem fin_ok {s : CD} (h : s.labels ≠ []) (hn : (s.queues.map (·.path)).Nodup) : fin s = (0, ⟨s.labels, sortQ s.queues⟩) := by unfold fin; rw [if_neg h, if_pos hn]

theorem none_conf (w : World) : RdConf w (.agg #[.slice none 0 0, .slice none 0 0]) .none :=
  ⟨_, _, rfl, Rd.nil w, [], ⟨none, 0, rfl, Nat.le_refl _, by simp [maxLen], rfl, fun h => absurd h (by simp [qcells])⟩, rfl, fun k h => absurd h (by simp [CD.none])⟩

theorem qrow_cells {w : World} {g n c : Nat} {qs : List QC} (h : RdK 3 w (.slice (some ⟨g, 0, none⟩) n c) n (qcells qs)) {k : Nat} {q : QC} (hq : qs[k]? = some q) :
    w.cell? ⟨g, k * 3, none⟩ = some (.string q.p) ∧ w.cell? ⟨g, k * 3 + 1, none⟩ = some (.slice q.A q.n q.c) ∧ w.cell? ⟨g, k * 3 + 2, none⟩ = some (.int .i64 q.u) := by
  obtain ⟨A, c', e, _, _, hl, h4⟩ := h
  injection e with e1 _ _
  subst e1
  have hk : k < qs.length := (List.getElem?_eq_some_iff.1 hq).1
  obtain ⟨a, e, _, hc⟩ := h4 (by rw [qcells_length]; omega)
  injection e with e
  subst e
  have hadd : ∀ j, (⟨g, 0, none⟩ : Addr).add j = ⟨g, j, none⟩ := fun j => by unfold Addr.add; split <;> simp_all
  have get : ∀ c, c < 3 → (qcells qs)[k * 3 + c]? = (qenc q)[c]? := fun c hc => by rw [qcells_get qs k c hc, hq]; rfl
  refine ⟨?_, ?_, ?_⟩
  · have := hc (k * 3 + 0) (.string q.p) (by rw [get 0 (by omega)]; rfl)
    rwa [hadd] at this
  · have := hc (k * 3 + 1) (.slice q.A q.n q.c) (by rw [get 1 (by omega)]; rfl)
    rwa [hadd] at this
  · have := hc (k * 3 + 2) (.int .i64 q.u) (by rw [get 2 (by omega)]; rfl)
    rwa [hadd] at this
theorem not_nodup {ds : List QD} {i : Nat} (h : i + 1 < ds.length) (e : ds[i + 1].path = (ds[i]'(by omega)).path) : ¬ (ds.map (·.path)).Nodup := by
  intro hn
  rw [List.Nodup, List.pairwise_iff_getElem] at hn
  have := hn i (i + 1) (by simp; omega) (by simpa using h) (by omega)
  simp only [List.getElem_map] at this
  exact this e.symm

def EndPost (R B : Nat) (s : CD) (w : World) (e : Ending) (w' : World) : Prop := ∃ A n c A' n' c', e = .returned (.tuple #[.agg #[.slice A n c, .slice A' n' c'], .int .i64 (fin s).1]) ∧ (∀ W, Above B w' W → RdConf W (.agg #[.slice A n c, .slice A' n' c']) (fin s).2) ∧ Fr R B w w'

structure EndAt (w1 wr : World) (ds : List QD) (k n : Nat) : Prop where
  le : k ≤ n
  ext : Ext w1 wr
  ne : ∀ i (h : i + 1 < ds.length), i + 1 < k → ds[i + 1].path ≠ (ds[i]'(by omega)).path

set_option maxRecDepth 100000 in
set_option maxHeartbeats 3200000 in
theorem end_any (R B : Nat) (w : World) (s : CD) (hR : RdrAt R B w s) (hl3 : s.labels.length ≤ 3) (hq16 : s.queues.length ≤ 16) :
    Calls Tryd.prog 37 #[.pointer (some ⟨R, 0, none⟩)] w (EndPost R B s w) := by
  have hRlt := hR.rlt
  have hRB := hR.lt
  have hBw := hR.le
  obtain ⟨vl, vq, hR0, hl0, hq0⟩ := hR.ex
  obtain ⟨Al, cl, rfl, hcl1, hcl2⟩ := own_shape hl0
  obtain ⟨L, hL⟩ : ∃ L, L = s.labels.length := ⟨_, rfl⟩
  rw [← hL] at hR0 hl3 hcl1 hl0
  have r0 := cell_of_row w R 0 _ _ _ hR0
  have r1 := cell_of_row w R 1 _ _ _ hR0
  have rf := fun o => frozen_of_row w R o _ _ hR0
  simp at r0 r1
  by_cases hls : s.labels = []
  · have HF := Lib.hid (fin_none hls)
    have hL0 : L = 0 := by rw [hL, hls]; rfl
    clear hL hls hl0 hq0 hR0 hR r1
    subst hL0
    go_enter Tryd.func37, Tryd.ntmps37
    go_wp2
    refine bodyPost_ret (by simp [results, Tryd.results37, go_sem]; try rfl) rfl ?_
    unfold EndPost
    rw [HF.out]
    exact ⟨_, _, _, _, _, _, rfl, fun W _ => none_conf W, Fr.ext (ext_alloc _ _) (Nat.le_of_lt hRlt)⟩
  · have hL1 : ¬ (L : Int) = 0 := by
      have : 0 < s.labels.length := List.length_pos_iff.2 hls
      omega
    obtain ⟨qs, hq1, hq2, hq3⟩ := id hq0
    obtain ⟨Aq, cq, rfl, hcq1, hcq2⟩ := own_shape hq1
    obtain ⟨n, hn⟩ : ∃ n, n = s.queues.length := ⟨_, rfl⟩
    rw [← hn] at hR0 hq0 hq16 hcq1 r1 hq1
    have HN := Lib.hid hn
    have HLS := Lib.hid hls
    have HL := Lib.hid hL
    have HL0 := Lib.hid hl0
    have HQ0 := Lib.hid hq0
    have HQ1 := Lib.hid hq1
    have HRR := Lib.hid hR0
    have hn16 : (n : Int) ≤ 16 := by omega
    have HQ2 := Lib.hid hq2
    have HQ3 := Lib.hid hq3
    clear hn hls hL hl0 hq0 hq1 hq2 hq3 hR0 hR
    have HW := Lib.hid (ext_alloc w (.cells #[.slice none 0 0, .slice none 0 0] 30))
    go_enter Tryd.func37, Tryd.ntmps37
    go_wp2_with fail
    (with_reducible refine (sort_any B _ s.queues _ qs (by rw [← HN.out]; exact own_ExtK HQ1.out HW.out) HQ2.out (fun k hk => by obtain ⟨q, h4, h5, h6⟩ := HQ3.out k hk; exact ⟨q, h4, h5.ext HW.out, fun g hg => by rw [HN.out]; exact (h6 g hg).1⟩) (by rw [← HN.out]; exact hq16)).mono ?_)
    rintro e w1 ⟨rfl, hg, ds, hp, hs, qs', hpq, hrd, hqs', hds, his⟩
    have hneR : (Value.slice Aq n cq).ownBlock ≠ some R := fun e => by
      have := (HQ1.out.lt R (e)).1; omega
    have hneW : (Value.slice Aq n cq).ownBlock ≠ some w.heap.size := fun e => by
      have := (HQ1.out.lt w.heap.size (e)).2; omega
    have hR1 : w1.heap[R]? = _ := ((hg.block R (by simp; omega) (fun e => hneR e.symm)).trans (HW.out.block R hRlt)).trans HRR.out
    have r0' := cell_of_row w1 R 0 _ _ _ hR1
    have r1' := cell_of_row w1 R 1 _ _ _ hR1
    simp at r0' r1'
    have hB1 : w1.heap[w.heap.size]? = some (.cells #[.slice none 0 0, .slice none 0 0] 30 (0, 0)) := (hg.block w.heap.size (by simp) (fun e => hneW e.symm)).trans (heap_alloc_new w _)
    have b0 := cell_of_row w1 w.heap.size 0 _ _ _ hB1
    have b1 := cell_of_row w1 w.heap.size 1 _ _ _ hB1
    have bf := fun o => frozen_of_row w1 w.heap.size o _ _ hB1
    have bz := (Array.getElem?_eq_some_iff.1 hB1).1
    simp at b0 b1
    have HLB := Lib.hid (show Rd w1 (.slice Al L cl) (s.labels.map sv) from (Rd.of_own ((own_ExtK HL0.out HW.out).kept hg (by
      have h := own_ne (own_ExtK HL0.out HW.out) (own_ExtK HQ1.out HW.out) (by decide)
      rcases h with h | h
      · exact .inl h
      · exact .inr h))))
    have HB := Lib.hid (show Fr R B w w1 from (Fr.ext HW.out (Nat.le_of_lt hRlt)).grown hg (by simp; omega) (fun g e => by
      have h5 := own_ExtK HQ1.out HW.out
      refine ⟨by have := (h5.lt g e).1; omega, (h5.lt g e).1, ?_⟩
      rcases h5.2 with ⟨e0, _⟩ | ⟨g', cap, cur, e0, _, hg', _⟩
      · rw [e0] at e; cases e
      · rw [e0] at e; simp [Value.ownBlock] at e
        subst e
        exact ⟨_, hg', rfl⟩))
    have HP := Lib.hid hp
    have HS := Lib.hid hs
    have HRD := Lib.hid hrd
    have HQS := Lib.hid hqs'
    have HDS := Lib.hid hds
    have HIS := Lib.hid his
    have HG := Lib.hid (show ∀ q ∈ qs', ∀ g, (Value.slice q.A q.n q.c).ownBlock = some g → B ≤ g ∧ g < w.heap.size from fun q hq g hg => by
      obtain ⟨k, hk, e⟩ := List.mem_iff_getElem.1 (hpq.mem_iff.1 hq)
      obtain ⟨q', h4, _, h6⟩ := HQ3.out k (by rw [← HQ2.out]; exact hk)
      rw [List.getElem?_eq_getElem hk] at h4
      injection h4 with h4
      exact (h6 g (by rw [← h4, e]; exact hg)).2)
    clear hg hR1 hB1 hp hs hrd hqs' hds his r0 r1 rf hpq
    go_wp2
    go_loopw [26] (fun i wr => ∃ k : Nat, i = .int .i64 k ∧ EndAt w1 wr ds k n) (fun i _ => n - (intOf i).toNat)
    case atStart => exact ⟨0, rfl, Nat.zero_le _, Ext.refl _, fun i h h0 => by omega⟩
    case round =>
      obtain ⟨k, rfl, hE⟩ := hrel
      have hk := hE.le
      have HE := Lib.hid hE
      have HX := Lib.hid hE.ext
      clear hE
      have i0 : (0 : Int) ≤ (k : Int) := by omega
      by_cases hlt : k < n
      · have i1 : (k : Int) < (n : Int) := by omega
        obtain ⟨g, rfl⟩ : ∃ g, Aq = some ⟨g, 0, none⟩ := by
          rcases HQ1.out.2 with ⟨_, h0⟩ | ⟨g, cap, cur, e, _⟩
          · omega
          · injection e with e1; exact ⟨g, e1⟩
        have hdl : ds.length = n := by rw [HDS.out, ← HN.out]
        obtain ⟨qk, hqk, hisk⟩ := HIS.out k (by omega)
        have hgl := (HQ1.out.lt g rfl).2
        obtain ⟨x0, x1, x2⟩ := qrow_cells (by have := HRD.out; rwa [← HN.out] at this) hqk
        have y0 := HX.out.cell x0
        have y1 := HX.out.cell x1
        have y2 := HX.out.cell x2
        have q1 := HX.out.cell r1'
        clear x0 x1 x2
        have XA := Lib.hid (HX.out.trans (ext_alloc wr (.cells #[.string qk.p, .slice qk.A qk.n qk.c, .int .i64 qk.u] 36)))
        cases k with
        | zero =>
          have HE1 := Lib.hid (fun (W : World) (h : Ext w1 W) => show EndAt w1 W ds 1 n from ⟨by omega, h, fun i hi h0 => by omega⟩)
          clear hisk hqk
          simp only [Nat.zero_mul, Nat.zero_add] at y0 y1 y2
          go_wp2
          go_quiet (fail)
          go_wp2
          go_roundw
          case rel => exact ⟨1, by go_num, HE1.out _ (XA.out.trans (ext_drewN _ _))⟩
          case measure => simp [intOf]; omega
        | succ j =>
          obtain ⟨qj, hqj, hisj⟩ := HIS.out j (by omega)
          obtain ⟨x0, _, _⟩ := qrow_cells (by have := HRD.out; rwa [← HN.out] at this) hqj
          have z0 := HX.out.cell x0
          have zz := Nat.lt_of_lt_of_le hgl HW.out.size
          have hgz : g < wr.heap.size := World.block_lt_of_cell? wr _ y0
          have hRz : R < wr.heap.size := World.block_lt_of_cell? wr _ q1
          have pk := hisk.1
          have pj := hisj.1
          have HDL := Lib.hid hdl
          by_cases hpe : qk.p = qj.p
          · have hnd : ¬ (s.queues.map (·.path)).Nodup := fun hnd => not_nodup (ds := ds) (i := j) (by omega) (by rw [← pk, ← pj, hpe]) (((HP.out.map (·.path)).nodup_iff).2 hnd)
            have HF := Lib.hid (fin_is HLS.out hnd)
            have hbe : qk.p.toList = qj.p.toList := by rw [hpe]
            have d0 := HX.out.cell b0
            have d1 := HX.out.cell b1
            have df := fun o => HX.out.free bz (bf o)
            have dz := Nat.lt_of_lt_of_le bz HX.out.size
            have kp : (0 : Int) < (j : Int) + 1 := by omega
            have kq : (0 : Int) ≤ (j : Int) + 1 := by omega
            have kr : (j : Int) + 1 < (n : Int) := by omega
            have ks : (j : Int) < (n : Int) := by omega
            have kt : (0 : Int) ≤ (j : Int) := by omega
            clear hisk hisj hqk hqj pk pj x0 hnd hpe
            go_wp2
            go_quiet (fail)
            obtain ⟨W5, hW5⟩ : ∃ W5, W5 = (wr.alloc (.cells #[.string qk.p, .slice qk.A qk.n qk.c, .int .i64 qk.u] 36)).drewN nq := ⟨_, rfl⟩
            rw [← hW5]
            have X5 : Ext wr W5 := hW5 ▸ (ext_alloc _ _).trans (ext_drewN _ _)
            have XB := Lib.hid ((HB.out.then HX.out (by omega)).then X5 (by omega))
            have d0 := X5.cell d0
            have d1 := X5.cell d1
            have df := fun o => X5.free dz (df o)
            clear X5 hW5 y0 y1 y2 q1 z0
            go_wp2
            refine bodyPost_ret (by simp [results, Tryd.results37, go_sem, d0, d1]; try rfl) rfl ?_
            unfold EndPost
            rw [HF.out]
            exact ⟨_, _, _, _, _, _, rfl, fun W _ => none_conf W, (XB.out.new _ (Nat.le_of_lt hRlt) (Nat.le_refl _)).new _ (Nat.le_of_lt hRlt) (Nat.le_refl _)⟩
          · have HE1 := Lib.hid (fun (W : World) (h : Ext w1 W) => show EndAt w1 W ds (j + 1 + 1) n from ⟨by omega, h, fun i hi h0 => by
              by_cases hij : i = j
              · subst hij; rw [← pk, ← pj]; intro e; exact hpe (by rw [tx_of qk.p, tx_of qj.p, e])
              · exact HE.out.ne i hi (by omega)⟩)
            have hbe := ba_ne hpe
            have kp : (0 : Int) < (j : Int) + 1 := by omega
            have kq : (0 : Int) ≤ (j : Int) + 1 := by omega
            have kr : (j : Int) + 1 < (n : Int) := by omega
            have ks : (j : Int) < (n : Int) := by omega
            have kt : (0 : Int) ≤ (j : Int) := by omega
            clear hisk hisj hqk hqj pk pj x0 hpe
            go_wp2
            go_quiet (fail)
            go_wp2
            go_roundw
            case rel => exact ⟨j + 1 + 1, by go_num, HE1.out _ (XA.out.trans (ext_drewN _ _))⟩
            case measure => simp [intOf]; omega
      · obtain rfl : k = n := by omega
        have hnd : (s.queues.map (·.path)).Nodup := by
          refine ((HP.out.map (·.path)).nodup_iff).1 (srt_nodup HS.out fun i hi => HE.out.ne i hi ?_)
          rw [HDS.out, ← HN.out] at hi; exact hi
        have HF := Lib.hid (fin_ok HLS.out hnd)
        have HSO := Lib.hid (srt_one HS.out HP.out hnd)
        clear hnd
        have q0 := HX.out.cell r0'
        have q1 := HX.out.cell r1'
        have d0 := HX.out.cell b0
        have d1 := HX.out.cell b1
        have df := fun o => HX.out.free bz (bf o)
        go_wp2
        refine bodyPost_ret (by simp [results, Tryd.results37, go_sem, d0, d1]; try rfl) rfl ?_
        have hgr : ∀ (W : World) (x y : Value), W.grownBy ((W.setCell ⟨w.heap.size, 0, none⟩ x).setCell ⟨w.heap.size, 1, none⟩ y) (some w.heap.size) := fun W x y => World.grownBy.trans (grown_set W _ 0 x) (grown_set _ _ 1 y)
        unfold EndPost
        rw [HF.out]
        refine ⟨_, _, _, _, _, _, rfl, fun W hW => ⟨_, _, rfl, ((HLB.out.ext HX.out).grown (hgr wr _ _) ?_).above hW ?_, ?_⟩, ?_⟩
        · intro g e e'; injection e with e; subst e; have := (HL0.out.lt _ e').2; omega
        · intro g e; exact (HL0.out.lt _ e).1
        · show RdQs _ _ (sortQ s.queues)
          rw [← HSO.out]
          have hlen : ds.length = k := by rw [HDS.out, ← HN.out]
          refine ⟨qs', ?_, by rw [HQS.out, ← HN.out, hlen], fun i hi => ?_⟩
          · have h := HRD.out
            rw [← HN.out] at h
            rw [hlen]
            exact ((h.ext HX.out).grown (hgr wr _ _) (fun g e e' => by injection e with e; subst e; have := (HQ1.out.lt _ e').2; omega)).above hW (fun g e => (HQ1.out.lt _ e).1)
          · obtain ⟨q, h4, h5⟩ := HIS.out i hi
            exact ⟨q, h4, h5.1, h5.2.1, ((h5.2.2.ext HX.out).grown (hgr wr _ _) (fun g e e' => by injection e with e; subst e; have := (HG.out q (List.mem_of_getElem? h4) _ e').2; omega)).above hW (fun g e => (HG.out q (List.mem_of_getElem? h4) _ e).1)⟩
        · exact ((HB.out.then HX.out (by omega)).new _ (Nat.le_of_lt hRlt) (Nat.le_refl _)).new _ (Nat.le_of_lt hRlt) (Nat.le_refl _)
end Go.Proofs.YtigfoghkndoakaaDoor
