/- slices.EqualFunc at conf.sameQueue; conf.Same (both want EqCapOk, XSameQ). -/
import Derived.Test.YtigfoghkndoakaaDoorSameQ
namespace Go.Proofs.YtigfoghkndoakaaDoor
open Go.RowKit

theorem OwnQs.at {w : World} {B : Nat} {v : Value} {ds : List QD} {qs : List QC} (h : OwnQs w B v ds qs) {k : Nat} (hk : k < ds.length) : ∃ (q : QC) (g c : Nat), v = .slice (some ⟨g, 0, none⟩) ds.length c ∧ w.cell? ⟨g, k * 3, none⟩ = some (.string q.p) ∧ w.cell? ⟨g, k * 3 + 1, none⟩ = some (.slice q.A q.n q.c) ∧ w.cell? ⟨g, k * 3 + 2, none⟩ = some (.int .i64 q.u) ∧ OwnQ1 w B q ds[k] := by
  have hl := h.len
  rcases h.row.2 with ⟨rfl, h0⟩ | ⟨g, cap, cur, rfl, hb, hg, hc, hm, _⟩
  · omega
  · obtain ⟨q, hq⟩ : ∃ q, qs[k]? = some q := ⟨qs[k]'(by omega), by rw [List.getElem?_eq_getElem]⟩
    obtain ⟨c1, c2, c3⟩ := qcells_get' qs k q hq
    have hat := fun j (hj : j < ds.length * 3) => h.row.cellAt j hj
    exact ⟨q, g, cap, rfl, by rw [hat _ (by omega)]; exact c1, by rw [hat _ (by omega)]; exact c2, by rw [hat _ (by omega)]; exact c3, h.each k q hk hq⟩

set_option maxRecDepth 100000 in
set_option maxHeartbeats 3200000 in
theorem EqualFunc_any (HE : EqCapOk) (B1 B2 : Nat) (v1 v2 : Value) (ds1 ds2 : List QD) (qs1 qs2 : List QC) (w : World) (h1 : OwnQs w B1 v1 ds1 qs1) (h2 : OwnQs w B2 v2 ds2 qs2) :
    ∃ b : Bool, (b = true ↔ ds1 = ds2) ∧ Calls Tryd.prog 18 #[v1, v2, .func (.func 19) #[] #[]] w (SamePost b w) := by
  have hdec : ∃ b : Bool, (b = true ↔ ds1 = ds2) := by
    classical
    exact ⟨decide (ds1 = ds2), by simp⟩
  obtain ⟨b, hb⟩ := hdec
  refine ⟨b, hb, ?_⟩
  obtain ⟨A1, c1, rfl, hc1, hm1⟩ := own_shape h1.row
  obtain ⟨A2, c2, rfl, hc2, hm2⟩ := own_shape h2.row
  obtain ⟨N, hN⟩ : ∃ N, N = ds1.length := ⟨_, rfl⟩
  obtain ⟨M, hM⟩ : ∃ M, M = ds2.length := ⟨_, rfl⟩
  rw [← hN] at hc1 h1 ⊢
  rw [← hM] at hc2 h2 ⊢
  have HN := Lib.hid hN
  have HM := Lib.hid hM
  have H1 := Lib.hid h1
  have H2 := Lib.hid h2
  have HBB := Lib.hid hb
  clear hN hM h1 h2 hb
  go_enter Tryd.func18, Tryd.ntmps18
  by_cases hNM : N = M
  · subst hNM
    have hz : ((N : Int) != (N : Int)) = false := by simp
    go_wp2_with fail
    go_loopw [17] (fun i wr => ∃ k : Nat, i = .int .i64 k ∧ k ≤ N ∧ ds1.take k = ds2.take k ∧ Ext w wr) (fun i _ => N - (intOf i).toNat)
    case atStart => exact ⟨0, rfl, by omega, rfl, Ext.refl _⟩
    case round =>
      obtain ⟨k, rfl, hk, ht, hx⟩ := hrel
      have HT := Lib.hid ht
      have HX := Lib.hid hx
      have k0 : (0 : Int) ≤ (k : Int) := by omega
      clear ht hx
      by_cases hlt : k < N
      · have i1 : (k : Int) < (N : Int) := by omega
        have hk1 : k < ds1.length := by have := HN.out; omega
        have hk2 : k < ds2.length := by have := HM.out; omega
        obtain ⟨q1, g1, cc1, e1, x0, x1, x2, hq1⟩ := OwnQs.at (by have h := H1.out; rw [HN.out] at h; exact h) hk1
        obtain ⟨q2, g2, cc2, e2, y0, y1, y2, hq2⟩ := OwnQs.at (by have h := H2.out; rw [HM.out] at h; exact h) hk2
        simp only [Value.slice.injEq] at e1 e2
        obtain ⟨rfl, _, rfl⟩ := e1
        obtain ⟨rfl, _, rfl⟩ := e2
        obtain ⟨d1, hd1⟩ : ∃ d, d = ds1[k] := ⟨_, rfl⟩
        obtain ⟨d2, hd2⟩ : ∃ d, d = ds2[k] := ⟨_, rfl⟩
        rw [← hd1] at hq1
        rw [← hd2] at hq2
        have HD := Lib.hid (show (ds1.take (k + 1) = ds2.take (k + 1)) ↔ eqQ d1 d2 = true by
          rw [List.take_succ_eq_append_getElem hk1, List.take_succ_eq_append_getElem hk2, HT.out, ← hd1, ← hd2, eqQ_iff]
          simp)
        clear hd1 hd2
        obtain ⟨P1, a1, n1, l1, u1⟩ := q1
        obtain ⟨P2, a2, n2, l2, u2⟩ := q2
        dsimp only at x0 x1 x2 y0 y1 y2
        have x0 := HX.out.cell x0
        have x1 := HX.out.cell x1
        have x2 := HX.out.cell x2
        have y0 := HX.out.cell y0
        have y1 := HX.out.cell y1
        have y2 := HX.out.cell y2
        have HQ1 := Lib.hid hq1
        have HQ2 := Lib.hid hq2
        clear hq1 hq2
        obtain ⟨S, hS⟩ : ∃ S, S = wr.heap.size := ⟨_, rfl⟩
        obtain ⟨WA, hWA⟩ : ∃ WA, WA = wr.alloc (.cells #[.string P1, .slice a1 n1 l1, .int .i64 u1] 36) := ⟨_, rfl⟩
        have HXA := Lib.hid (show Ext wr WA by rw [hWA]; exact ext_alloc _ _)
        have HSA := Lib.hid (show WA.heap[S]? = some (.cells #[.string P1, .slice a1 n1 l1, .int .i64 u1] 36 (0, 0)) by rw [hWA, hS]; exact heap_alloc_new wr _)
        go_upto_region 6 with fail
        rw [← hWA, ← hS]
        have y0 := HXA.out.cell y0
        have y1 := HXA.out.cell y1
        have y2 := HXA.out.cell y2
        clear hWA hS x0 x1 x2
        obtain ⟨T, hT⟩ : ∃ T, T = WA.heap.size := ⟨_, rfl⟩
        obtain ⟨WB, hWB⟩ : ∃ WB, WB = WA.alloc (.cells #[.string P2, .slice a2 n2 l2, .int .i64 u2] 36) := ⟨_, rfl⟩
        have HXB := Lib.hid (show Ext WA WB by rw [hWB]; exact ext_alloc _ _)
        have HTB := Lib.hid (show WB.heap[T]? = some (.cells #[.string P2, .slice a2 n2 l2, .int .i64 u2] 36 (0, 0)) by rw [hWB, hT]; exact heap_alloc_new WA _)
        go_upto_region 7 with fail
        rw [← hWB, ← hT]
        clear hWB hT y0 y1 y2
        have HSB := Lib.hid ((HXB.out.block S (Array.getElem?_eq_some_iff.1 HSA.out).1).trans HSA.out)
        have x0 : WB.cell? ⟨S, 0, none⟩ = some (.string P1) := by rw [cell_of_row WB S 0 _ _ (0, 0) HSB.out]; rfl
        have x1 : WB.cell? ⟨S, 1, none⟩ = some (.slice a1 n1 l1) := by rw [cell_of_row WB S 1 _ _ (0, 0) HSB.out]; rfl
        have x2 : WB.cell? ⟨S, 2, none⟩ = some (.int .i64 u1) := by rw [cell_of_row WB S 2 _ _ (0, 0) HSB.out]; rfl
        have y0 : WB.cell? ⟨T, 0, none⟩ = some (.string P2) := by rw [cell_of_row WB T 0 _ _ (0, 0) HTB.out]; rfl
        have y1 : WB.cell? ⟨T, 1, none⟩ = some (.slice a2 n2 l2) := by rw [cell_of_row WB T 1 _ _ (0, 0) HTB.out]; rfl
        have y2 : WB.cell? ⟨T, 2, none⟩ = some (.int .i64 u2) := by rw [cell_of_row WB T 2 _ _ (0, 0) HTB.out]; rfl
        have HXW := Lib.hid (HX.out.trans (HXA.out.trans HXB.out))
        have HI := Lib.hid (sameQueue_any HE B1 B2 ⟨P1, a1, n1, l1, u1⟩ ⟨P2, a2, n2, l2, u2⟩ d1 d2 WB (HQ1.out.ext HXW.out) (HQ2.out.ext HXW.out))
        cases hn : eqQ d1 d2 with
        | true =>
          rw [hn] at HI
          have HT2 := Lib.hid (HD.out.2 hn)
          clear hn HD
          go_wp2_with fail
          (with_reducible refine (HI.out).mono ?_)
          rintro e w2 ⟨rfl, hx2⟩
          have X2 := Lib.hid (HXW.out.trans hx2)
          clear hx2
          go_wp2
          go_roundw
          case rel => exact ⟨k + 1, by simp, by omega, HT2.out, X2.out⟩
          case measure => simp [intOf]; omega
        | false =>
          rw [hn] at HI
          have HBF := Lib.hid (show b = false by
            cases hb : b with
            | false => rfl
            | true =>
              exfalso
              have h := HD.out.1 (by rw [HBB.out.1 hb])
              rw [hn] at h
              cases h)
          clear hn HD
          go_wp2_with fail
          (with_reducible refine (HI.out).mono ?_)
          rintro e w2 ⟨rfl, hx2⟩
          have X2 := Lib.hid (HXW.out.trans hx2)
          clear hx2
          go_wp2
          go_ret
          exact ⟨by rw [HBF.out]; rfl, X2.out⟩
      · obtain rfl : k = N := by omega
        have i1 : ¬ (k : Int) < (k : Int) := by omega
        have hbt : b = true := HBB.out.2 (by have h := HT.out; rwa [List.take_of_length_le (by have := HN.out; omega), List.take_of_length_le (by have := HM.out; omega)] at h)
        have HBT := Lib.hid hbt
        clear hbt
        go_wp2
        go_ret
        exact ⟨by rw [HBT.out]; rfl, HX.out⟩
  · have hz : ((N : Int) != (M : Int)) = true := by simp; omega
    have hz2 : ¬ (N : Int) = (M : Int) := by omega
    have hbf : b = false := by
      cases b with
      | false => rfl
      | true => exact absurd (congrArg List.length (HBB.out.1 rfl)) (by have := HN.out; have := HM.out; omega)
    have HBF := Lib.hid hbf
    clear hbf
    go_wp2
    go_ret
    exact ⟨by rw [HBF.out]; rfl, Ext.refl _⟩
end Go.Proofs.YtigfoghkndoakaaDoor
