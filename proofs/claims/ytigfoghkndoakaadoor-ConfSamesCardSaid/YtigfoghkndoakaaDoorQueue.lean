/- conf.reader.queue. -/
import Derived.Test.YtigfoghkndoakaaDoorLabels
namespace Go.Proofs.YtigfoghkndoakaaDoor
open Go.RowKit

section
variable {s : CD} {ws : List Tx}
theorem stepq_word (hl : s.labels ≠ []) (h : ws.head? ≠ some wQueue) : step s ws = (6, s) := by unfold step; rw [if_neg hl, if_pos h]
theorem stepq_many (hl : s.labels ≠ []) (h : ws.head? = some wQueue) (h16 : s.queues.length = 16) : step s ws = (4, s) := by unfold step; rw [if_neg hl, if_neg (by simp [h]), if_pos h16]
theorem stepq_none (hl : s.labels ≠ []) (h : ws.head? = some wQueue) (h16 : ¬ s.queues.length = 16) (hq : queue? s.labels.length ws = none) : step s ws = (6, s) := by unfold step; rw [if_neg hl, if_neg (by simp [h]), if_neg h16, hq]
theorem stepq_ok (hl : s.labels ≠ []) (h : ws.head? = some wQueue) (h16 : ¬ s.queues.length = 16) {q : QD} (hq : queue? s.labels.length ws = some q) : step s ws = (0, ⟨s.labels, s.queues ++ [q]⟩) := by unfold step; rw [if_neg hl, if_neg (by simp [h]), if_neg h16, hq]
end
theorem queue_len {n : Nat} {ws : List Tx} (h : ws.length ≠ 3 + n) : queue? n ws = none := by unfold queue?; rw [if_pos h]
theorem queue_num {n : Nat} {ws : List Tx} (h : ws.length = 3 + n) (h2 : num? (ws.getD 2 []) = none) : queue? n ws = none := by unfold queue?; rw [if_neg (by simp [h]), h2]
theorem queue_caps {n : Nat} {ws : List Tx} (h : ws.length = 3 + n) (h2 : caps? (ws.drop 3) = none) : queue? n ws = none := by
  unfold queue?; rw [if_neg (by simp [h]), h2]; split <;> simp_all
theorem queue_ok {n : Nat} {ws : List Tx} {u : Nat} {cs : List (Nat × Nat)} (h : ws.length = 3 + n) (h1 : num? (ws.getD 2 []) = some u) (h2 : caps? (ws.drop 3) = some cs) : queue? n ws = some ⟨ws.getD 1 [], inj cs, u⟩ := by
  unfold queue?; rw [if_neg (by simp [h]), h1, h2]

theorem after_app {W0 V w4 : World} {R : Nat} {row : Option Nat} {obj : Obj} (o : Obj) (hV : V.heap = (W0.alloc o).heap) (hg : V.grownBy w4 row) (hR : W0.heap[R]? = some obj) (hne : (some R : Option Nat) ≠ row) : w4.heap[R]? = some obj := by
  have hlt := (Array.getElem?_eq_some_iff.1 hR).1
  rw [hg.block R (by rw [hV]; simp; omega) hne, hV, (ext_alloc W0 o).block R hlt]
  exact hR
theorem RdrAt.rlt {R B : Nat} {w : World} {s : CD} (h : RdrAt R B w s) : R < w.heap.size := by
  obtain ⟨_, _, h, _⟩ := h.ex
  exact (Array.getElem?_eq_some_iff.1 h).1

theorem queue_done {R B : Nat} {w V w4 : World} {s : CD} {vl vq v' : Value} {qs : List QC} {q : QC} {d : QD} (hls : s.labels ≠ []) (hRB : R < B) (hBw : B ≤ w.heap.size) (XV : Ext w V)
    (hR : w.heap[R]? = some (.cells #[vl, vq, .func (.func (takeFn s)) #[.pointer (some ⟨R, 0, none⟩)] #[]] 64 (0, 0)))
    (hl : w.ownsRow B 9 1 vl s.labels.length (s.labels.map sv))
    (h1 : w.ownsRow B 36 3 vq s.queues.length (qcells qs)) (h2 : qs.length = s.queues.length)
    (h3 : ∀ k (h : k < s.queues.length), ∃ q, qs[k]? = some q ∧ IsQ w q s.queues[k] ∧ ∀ g, (Value.slice q.A q.n q.c).ownBlock = some g → vq.ownBlock ≠ some g ∧ B ≤ g ∧ g < w.heap.size)
    (hu : IsQ V q d) (hb : ∀ g, (Value.slice q.A q.n q.c).ownBlock = some g → vq.ownBlock ≠ some g ∧ B ≤ g ∧ g < V.heap.size)
    (hown : w4.ownsRow B 36 3 v' (s.queues.length + 1) (qcells qs ++ qenc q)) (hg : V.grownBy w4 vq.ownBlock) (hat : v'.ownBlock = vq.ownBlock ∨ v'.ownBlock = some V.heap.size) :
    RdrAt R B (w4.setCell ⟨R, 1, none⟩ v') ⟨s.labels, s.queues ++ [d]⟩ ∧ Fr R B w (w4.setCell ⟨R, 1, none⟩ v') := by
  have hRlt := (Array.getElem?_eq_some_iff.1 hR).1
  have hneR : (some R : Option Nat) ≠ vq.ownBlock := fun e => by have := (h1.lt R e.symm).1; omega
  have hR4 : w4.heap[R]? = _ := ((hg.block R (Nat.lt_of_lt_of_le hRlt XV.size) hneR).trans (XV.block R hRlt)).trans hR
  have hq := QsAt.snoc (own_ExtK h1 XV) h2 (fun k hk => by obtain ⟨q, h4, h5, h6⟩ := h3 k hk; exact ⟨q, h4, h5.ext XV, fun g hg => ⟨(h6 g hg).1, (h6 g hg).2.1, Nat.lt_of_lt_of_le (h6 g hg).2.2 XV.size⟩⟩) hu hb hown hg
    (hat.imp id fun e k e' => by rw [e] at e'; injection e' with e'; omega)
  have hl4 := (own_ExtK hl XV).kept hg (own_ne (own_ExtK hl XV) (own_ExtK h1 XV) (by decide))
  refine ⟨⟨⟨vl, v', ?_, ?_, hq.low (grown_set w4 R 1 _) (by omega)⟩, hRB, by have h6 := XV.size; have h7 := hg.size; simp; omega⟩, ?_⟩
  · rw [heap_setCell_same w4 R 1 _ _ _ hR4]
    simp [takeFn, hls]
  · exact hl4.kept (grown_set w4 R 1 _) (.inr fun e => by have := (hl4.lt R e).1; omega)
  · refine Fr.set ((Fr.ext XV (Nat.le_of_lt hRlt)).grown hg (Nat.le_trans (Nat.le_of_lt hRlt) XV.size) fun g e => ?_) _ (Nat.le_trans (Nat.le_of_lt hRlt) (Nat.le_trans XV.size hg.size))
    have h5 := own_ExtK h1 XV
    refine ⟨by have := (h5.lt g e).1; omega, (h5.lt g e).1, ?_⟩
    rcases h5.2 with ⟨rfl, _⟩ | ⟨g', cap, cur, rfl, _, hg', _⟩
    · cases e
    · simp [Value.ownBlock] at e
      subst e
      exact ⟨_, hg', rfl⟩

set_option maxRecDepth 100000 in
set_option maxHeartbeats 3200000 in
theorem queue_any (R B : Nat) (v : Value) (ws : List Tx) (w : World) (s : CD) (hr : Rd w v (ws.map sv)) (hne : ws ≠ []) (hR : RdrAt R B w s) (hvR : v.ownBlock ≠ some R)
    (hls : s.labels ≠ []) (hl3 : s.labels.length ≤ 3) (hq16 : s.queues.length ≤ 16) (hws : ws.length ≤ 1000000) (hz : ∀ l ∈ ws, l.length ≤ 4294967296) :
    Calls Tryd.prog 52 #[.pointer (some ⟨R, 0, none⟩), v] w (StepPost R B s ws w) := by
  obtain ⟨i0, hi, hz0, hz1, hz2⟩ := info_parts Tryd.infoQ
  obtain ⟨j0, hj, hy0, hy1, hy2⟩ := info_parts Tryd.infoStr
  have HR0 := Lib.hid hr
  have RA := Lib.hid hR
  have hRlt := hR.rlt
  have hRB := hR.lt
  have hBw := hR.le
  obtain ⟨vl, vq, hR0, hl0, hq0⟩ := hR.ex
  obtain ⟨A, N, c, rfl, hN, hc1, hc2, hcell⟩ := strs_open hr
  obtain ⟨Al, cl, rfl, hcl1, hcl2⟩ := own_shape hl0
  obtain ⟨qs, hq1, hq2, hq3⟩ := hq0
  obtain ⟨Aq, cq, rfl, hcq1, hcq2⟩ := own_shape hq1
  obtain ⟨L, hL⟩ : ∃ L, L = s.labels.length := ⟨_, rfl⟩
  obtain ⟨Q, hQ⟩ : ∃ Q, Q = s.queues.length := ⟨_, rfl⟩
  rw [← hL] at hR0 hl3 hcl1
  rw [← hQ] at hR0 hq16 hq1 hcq1
  have hN0 : 0 < N := by rw [hN]; exact List.length_pos_iff.2 hne
  obtain ⟨a, rfl, hb, hcs⟩ := hcell hN0
  have c0 := hcs 0 (by omega)
  have HCS := Lib.hid hcs
  rw [show a.add 0 = a from by unfold Addr.add; simp] at c0
  obtain ⟨x, hx⟩ : ∃ x, x = ws[0]'(by omega) := ⟨_, rfl⟩
  have hhd : ws.head? = some x := by rw [List.head?_eq_getElem?, List.getElem?_eq_getElem (show 0 < ws.length by omega), hx]
  rw [← hx] at c0
  obtain ⟨S, hS⟩ : ∃ S : ByteArray, S = ⟨x.toArray⟩ := ⟨_, rfl⟩
  rw [← hS] at c0
  have hSL : S.toList = x := by rw [hS, ByteArray.toList_eq]
  have HN := Lib.hid hN
  have HL := Lib.hid hL
  have HQ := Lib.hid hQ
  have HZ := Lib.hid hz
  have HLS := Lib.hid hls
  have hN1 : (1 : Int) ≤ (N : Int) := by omega
  have hN1' : (0 : Int) < (N : Int) := by omega
  have hN6 : (N : Int) ≤ 1000000 := by omega
  have r0 := cell_of_row w R 0 _ _ _ hR0
  have r1 := cell_of_row w R 1 _ _ _ hR0
  have rf := fun o => frozen_of_row w R o _ _ hR0
  simp at r0 r1
  have HRR := Lib.hid hR0
  have HQ1 := Lib.hid hq1
  have HQ2 := Lib.hid hq2
  have HQ3 := Lib.hid hq3
  have FR0 := Lib.hid (show Fr R B w w from Fr.ext (Ext.refl _) (Nat.le_of_lt hRlt))
  have HL0 := Lib.hid hl0
  clear hr hR hcell hcs hx hS hne hN hL hQ hz hls hws hR0 hl0 hq1 hq2 hq3
  by_cases hw : x = wQueue
  · have hcmp : S.toList = [113, 117, 101, 117, 101] := by rw [hSL, hw]; rfl
    have HH := Lib.hid (show ws.head? = some wQueue by rw [hhd, hw])
    clear hSL hw hhd
    by_cases h16 : Q = 16
    · have HS := Lib.hid (stepq_many HLS.out HH.out (by rw [← HQ.out]; exact h16))
      subst h16
      go_enter Tryd.func52, Tryd.ntmps52
      go_wp2
      go_ret
      unfold StepPost
      rw [HS.out]
      exact ⟨rfl, RA.out, FR0.out⟩
    · have h16' : ((Q : Int) == 16) = false := by simp; omega
      have h16'' : ¬ (Q : Int) = 16 := by omega
      have H16 := Lib.hid (show ¬ s.queues.length = 16 by rw [← HQ.out]; exact h16)
      by_cases hlen : N = 3 + L
      · have hlen1 : ((N : Int) != 3 + (L : Int)) = false := by simp; omega
        have hlen2 : (N : Int) = 3 + (L : Int) := by omega
        have HLEN := Lib.hid (show ws.length = 3 + s.labels.length by rw [← HN.out, ← HL.out]; exact hlen)
        have hN3 : 3 ≤ N := by omega
        have hN3' : (3 : Int) ≤ (N : Int) := by omega
        have hN2' : (2 : Int) < (N : Int) := by omega
        have hN1'' : (1 : Int) < 3 + (L : Int) := by omega
        have hN2'' : (2 : Int) < 3 + (L : Int) := by omega
        have k2 : 2 < ws.length := by rw [← HN.out]; omega
        have k1 : 1 < ws.length := by rw [← HN.out]; omega
        have c2 := HCS.out 2 k2
        have c1 := HCS.out 1 k1
        rw [show a.add 2 = (⟨a.block, a.off + 2, none⟩ : Addr) from by simp [Addr.add]] at c2
        rw [show a.add 1 = (⟨a.block, a.off + 1, none⟩ : Addr) from by simp [Addr.add]] at c1
        obtain ⟨x2, hx2⟩ : ∃ x, x = ws[2] := ⟨_, rfl⟩
        obtain ⟨x1, hx1⟩ : ∃ x, x = ws[1] := ⟨_, rfl⟩
        rw [← hx2] at c2
        rw [← hx1] at c1
        have G2 := Lib.hid (show ws.getD 2 [] = x2 by rw [hx2]; simp [List.getD, List.getElem?_eq_getElem k2])
        have G1 := Lib.hid (show ws.getD 1 [] = x1 by rw [hx1]; simp [List.getD, List.getElem?_eq_getElem k1])
        obtain ⟨S2, hS2⟩ : ∃ S : ByteArray, S = ⟨x2.toArray⟩ := ⟨_, rfl⟩
        obtain ⟨S1, hS1⟩ : ∃ S : ByteArray, S = ⟨x1.toArray⟩ := ⟨_, rfl⟩
        have HS2 := Lib.hid (show S2.data.toList = x2 by rw [hS2])
        have HS1 := Lib.hid (show S1.data.toList = x1 by rw [hS1])
        rw [← hS2] at c2
        rw [← hS1] at c1
        clear hx2 hx1 hS2 hS1 k2 k1
        have sl3 : ∀ (W : World) (kl : IntKind), (Instr.slice 27 (.slice (some a) N c) (some (.int kl 3)) none none).run Tryd.prog W = .ok (.slice (subA (some a) 3 c) (N - 3) (c - 3)) W := fun W kl => sl_l (l := 3) Tryd.underlying27 hj hy1 (by omega) W kl
        have HC1 := Lib.hid c1
        go_enter Tryd.func52, Tryd.ntmps52
        go_wp2_with fail
        (with_reducible refine (number_any S2 _).mono ?_)
        rw [HS2.out]
        rintro e w1 ⟨rfl, hx1⟩
        have X1 := Lib.hid (show Ext w w1 from hx1)
        have HRD := Lib.hid (show Rd w1 (.slice (subA (some a) 3 c) (N - 3) (c - 3)) ((ws.drop 3).map sv) by
          have := (HR0.out.ext hx1).subl (l := 3) (by omega)
          rwa [← List.map_drop] at this)
        clear hx1
        cases hn : num? x2 with
        | none =>
          have HS := Lib.hid (stepq_none HLS.out HH.out H16.out (queue_num HLEN.out (by rw [G2.out]; exact hn)))
          simp only [numV, Option.getD_none, Option.isSome_none]
          clear hn h16 hlen
          go_wp2_with fail
          (with_reducible refine (shares_any _ _ _ HRD.out ?z1 ?z2).mono ?_)
          case z1 => rw [List.length_drop, ← HN.out]; omega
          case z2 => exact fun l hl => HZ.out l (List.mem_of_mem_drop hl)
          intro e w2 hp
          obtain ⟨vc, bc, rfl, hx2⟩ : ∃ vc bc, e = .returned (.tuple #[vc, .bool bc]) ∧ Ext w1 w2 := by
            unfold SharesPost at hp
            split at hp
            · obtain ⟨A', c', rfl, _, h⟩ := hp; exact ⟨_, _, rfl, h⟩
            · obtain ⟨rfl, h⟩ := hp; exact ⟨_, _, rfl, h⟩
          have X2 := Lib.hid (X1.out.trans hx2)
          clear hp hx2
          go_wp2
          go_ret
          unfold StepPost
          rw [HS.out]
          exact ⟨rfl, RA.out.ext X2.out, Fr.ext X2.out (Nat.le_of_lt hRlt)⟩
        | some u =>
          simp only [numV, Option.getD_some, Option.isSome_some]
          have hu7 := num_lt hn
          have hu7' : (u : Int) < 10000000 := by omega
          have HU := Lib.hid (show num? (ws.getD 2 []) = some u by rw [G2.out]; exact hn)
          clear hn h16 hlen hu7
          go_wp2_with fail
          (with_reducible refine (shares_any _ _ _ HRD.out ?z1 ?z2).mono ?_)
          case z1 => rw [List.length_drop, ← HN.out]; omega
          case z2 => exact fun l hl => HZ.out l (List.mem_of_mem_drop hl)
          intro e w2 hp
          cases hc : caps? (ws.drop 3) with
          | none =>
            have HS := Lib.hid (stepq_none HLS.out HH.out H16.out (queue_caps HLEN.out hc))
            unfold SharesPost at hp
            rw [hc] at hp
            obtain ⟨rfl, hx2⟩ := hp
            have X2 := Lib.hid (X1.out.trans hx2)
            clear hc hx2
            go_wp2
            go_ret
            unfold StepPost
            rw [HS.out]
            exact ⟨rfl, RA.out.ext X2.out, Fr.ext X2.out (Nat.le_of_lt hRlt)⟩
          | some cs =>
            have HS := Lib.hid (stepq_ok HLS.out HH.out H16.out (queue_ok HLEN.out HU.out hc))
            unfold SharesPost at hp
            rw [hc] at hp
            obtain ⟨Ac, cc, rfl, hoc, hx2⟩ := hp
            obtain ⟨nc, hnc⟩ : ∃ nc, nc = cs.length := ⟨_, rfl⟩
            rw [← hnc] at hoc ⊢
            have HNC := Lib.hid hnc
            have OC := Lib.hid hoc
            have X2 := Lib.hid (X1.out.trans hx2)
            have c1' := X2.out.cell' HC1.out
            have r0' := X2.out.cell r0
            have r1' := X2.out.cell r1
            have rf' := fun o => X2.out.free (o := o) hRlt (rf o)
            have rz' := Nat.lt_of_lt_of_le hRlt X2.out.size
            have hBz := Nat.le_trans hBw X2.out.size
            have HO := Lib.hid (fun (W : World) (h : W.heap = w2.heap) => show (W.alloc (.cells #[.string S1, .slice Ac nc cc, .int .i64 (u : Int)] 36)).ownsRow B 36 3 (.slice Aq Q cq) Q (qcells qs) from (own_heap (own_ExtK HQ1.out X2.out) h).alloc _)
            have HBC := Lib.hid (show ∀ g, (Value.slice Ac nc cc).ownBlock = some g → ∀ (V : World), V.heap = (w2.alloc (.cells #[.string S1, .slice Ac nc cc, .int .i64 (u : Int)] 36)).heap → (Value.slice Aq Q cq).ownBlock ≠ some g ∧ B ≤ g ∧ g < V.heap.size from fun g hg V hV => by
              have h5 := OC.out.lt g hg
              have h6 := X1.out.size
              refine ⟨fun e => by have := (HQ1.out.lt g e).2; omega, by omega, by rw [hV]; simp; omega⟩)
            have HRW := Lib.hid ((X2.out.block R hRlt).trans HRR.out)
            have HNE := Lib.hid (show (some R : Option Nat) ≠ (Value.slice Aq Q cq).ownBlock from fun e => by have := (HQ1.out.lt R e.symm).1; omega)
            clear hc hx2 hnc hoc r0 r1 rf c0 c1 c2
            go_wp2
            refine at_world (fun W0 hW0 => ?_)
            subst hW0
            go_region_law (refine step_app_own rfl (.tmp 54) (.tmp 61) 28 rfl B 36 i0 (.agg #[.string ⟨#[]⟩, .slice none 0 0, .int .i64 0]) 3 48 Tryd.underlying28 hi hz0 hz1 hz2 rfl (by omega) (.slice Aq Q cq) Q (qcells qs) rfl (HO.out _ rfl) _ 1 1 [.string S1, .slice Ac nc cc, .int .i64 (u : Int)] rfl rfl (cell_three_new _ _ _ _ _) one3 (by unfold maxLen; omega) (by omega) (by simp; omega) ?_; intro v' w4 hown4 hgr4 hat4; obtain ⟨A4, c4, e4, hA1, hA2⟩ := own_shape hown4; subst e4; have hR4 := after_app (.cells #[.string S1, .slice Ac nc cc, .int .i64 (u : Int)] 36) (by rfl) hgr4 HRW.out HNE.out; (have r1 : w4.cell? ⟨R, 1, none⟩ = some (.slice Aq Q cq) := cell_of_row w4 R 1 _ _ _ hR4); (have rf4 := fun o => frozen_of_row w4 R o _ _ hR4))
            all_goals
              have hlL := HL.out
              have hqQ := HQ.out
              have hnC := HNC.out
              clear HL HQ HNC
              subst hlL
              subst hqQ
              subst hnC
              obtain ⟨V, hgV, hXV, hVh, hatV⟩ : ∃ V : World, V.grownBy w4 (Value.slice Aq s.queues.length cq).ownBlock ∧ Ext W0 V ∧ V.heap = (W0.alloc (.cells #[.string S1, .slice Ac cs.length cc, .int .i64 (u : Int)] 36)).heap ∧
                  ((Value.slice A4 (s.queues.length + 1) c4).ownBlock = (Value.slice Aq s.queues.length cq).ownBlock ∨ (Value.slice A4 (s.queues.length + 1) c4).ownBlock = some V.heap.size) :=
                ⟨_, hgr4, by first | exact (ext_alloc _ _).trans (Ext.drew _) | exact (Ext.drew _).trans (ext_alloc _ _), by rfl, hat4⟩
              have hisq : IsQ V ⟨S1, Ac, cs.length, cc, (u : Int)⟩ ⟨ws.getD 1 [], inj cs, (u : Int)⟩ :=
                ⟨by rw [G1.out]; exact HS1.out, rfl, by have := (RdK.of_own OC.out).ext hXV; show RdK 2 _ _ (inj cs).length _; rw [inj_length]; exact this⟩
              have hfin := queue_done HLS.out hRB hBw (X2.out.trans hXV) HRR.out HL0.out HQ1.out HQ2.out HQ3.out hisq (fun g hg => HBC.out g hg _ hVh) hown4 hgV hatV
              clear hgV hXV hVh hatV hisq
              have HFIN := Lib.hid hfin
              clear hfin hown4 hgr4 hat4 hR4 r1 rf4
              go_wp2
              go_ret
              unfold StepPost
              rw [HS.out]
              exact ⟨rfl, HFIN.out⟩
      · have hlen1 : ((N : Int) != 3 + (L : Int)) = true := by simp; omega
        have hlen2 : ¬ (N : Int) = 3 + (L : Int) := by omega
        have HS := Lib.hid (stepq_none HLS.out HH.out H16.out (queue_len (by rw [← HN.out, ← HL.out]; exact hlen)))
        clear h16 hlen
        go_enter Tryd.func52, Tryd.ntmps52
        go_wp2
        go_ret
        unfold StepPost
        rw [HS.out]
        exact ⟨rfl, RA.out, FR0.out⟩
  · have hcmp : (S.toList == [113, 117, 101, 117, 101]) = false := by rw [hSL, beq_eq_false_iff_ne]; exact hw
    have HS := Lib.hid (stepq_word HLS.out (ws := ws) (by rw [hhd]; intro e; injection e with e; exact hw e))
    clear hSL hw hhd
    go_enter Tryd.func52, Tryd.ntmps52
    go_wp2
    go_ret
    unfold StepPost
    rw [HS.out]
    exact ⟨rfl, RA.out, FR0.out⟩
end Go.Proofs.YtigfoghkndoakaaDoor
