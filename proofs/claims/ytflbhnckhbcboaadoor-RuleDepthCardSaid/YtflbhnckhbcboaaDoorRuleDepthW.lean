/- dispatchlaw6.RuleDepth: the walk. -/
import Derived.Test.YtflbhnckhbcboaaDoorDepthP
import Derived.Test.YtflbhnckhbcboaaDoorOwnCaps
import Derived.Test.YtflbhnckhbcboaaDoorBlk
import Derived.Test.YtflbhnckhbcboaaDoorSched
import Derived.Deep.CutRange
import Derived.Laws.Concat
import Derived.Laws.Cover1
import Derived.ChangeSlices
import Derived.OpenShut
import Derived.ChangeOld
import Derived.ChangeSame
import Derived.ChangeMaps
import Derived.JoinedOf
import Derived.JoinedAt
import Derived.RowKit3
import Derived.Lib.SmallJoins
namespace Go.Proofs.YtflbhnckhbcboaaDoor.RuleDepth
open Go.ChangeShapes Go.WideShapes Go.ChangeAt Go.RowKit Go.Joins

theorem ba_app (a b : ByteArray) : (a ++ b).data.toList = a.data.toList ++ b.data.toList := by
  cases a; cases b; simp
theorem one_cap {w : World} {B Q : Nat} (h : w.heap[Q]? = some (.cells #[.int .i64 10000, .int .i64 10000] 29 (0, 0))) (hB : B ≤ Q) : w.ownsRow B 29 2 (.slice (some ⟨Q, 0, none⟩) 1 1) 1 (capCells [(10000, 10000)]) :=
  ⟨rfl, .inr ⟨Q, 1, _, rfl, hB, h, Nat.le_refl _, by simp [maxLen], rfl, rfl⟩⟩
theorem one_lab {w : World} {L : Nat} (h : w.heap[L]? = some (.cells #[.string ⟨#[]⟩] 9 (0, 0))) : Rd w (.slice (some ⟨L, 0, none⟩) 1 1) (([[]] : List Tx).map sv) := by
  refine ⟨_, 1, rfl, Nat.le_refl _, by simp [maxLen], fun _ => ⟨⟨L, 0, none⟩, rfl, (Array.getElem?_eq_some_iff.1 h).1, fun j u hu => ?_⟩⟩
  have hj := (List.getElem?_eq_some_iff.1 hu).1
  simp at hj
  subst hj
  rw [show (⟨L, 0, none⟩ : Addr).add 0 = ⟨L, 0, none⟩ from rfl]
  rw [cell_of_row w L 0 _ _ _ h]
  exact hu

set_option maxRecDepth 100000 in
set_option maxHeartbeats 6400000 in
theorem walk (n : Int) (_ : (Lit.int .i64 n).wf = true) (gap : Int) (_ : (Lit.int .i64 gap).wf = true) (w : World)
    (hm : ∃ m, w.cell? ⟨0, 0, none⟩ = some (.int .i64 m)) :
    Calls Tryd.prog 3 #[.int .i64 n, .int .i64 gap] w fun e w' => e = .returned (.bool true) ∧ Below w.heap.size w w' := by
  obtain ⟨q0, hq, hqz0, hqz1, hqz2⟩ := info_parts Tryd.infoQ
  have HM := Lib.hid hm
  clear hm
  go_enter Tryd.func3, Tryd.ntmps3
  go_wp2_with fail
  refine (known6_any _).mono ?_
  rintro e w1 ⟨rfl, hx1⟩
  have X1 := Lib.hid hx1
  clear hx1
  go_wp2_with fail
  (with_reducible refine (within6_some n 5 5 _ rfl (by omega)).mono ?_)
  rintro e w2 ⟨n', rfl, hnx, hn5, rfl⟩
  clear hnx
  go_wp2_with fail
  (with_reducible refine (within6_some gap 6 6 _ rfl (by omega)).mono ?_)
  rintro e w2 ⟨gp, rfl, hgx, hg6, rfl⟩
  clear hgx
  obtain ⟨n0, hn0⟩ : ∃ n0, n0 = n' + 1 := ⟨_, rfl⟩
  have hn6 : n0 < 6 := by omega
  have hn7 : 1 ≤ n0 := by omega
  obtain ⟨L, hL⟩ : ∃ L, L = w1.heap.size := ⟨_, rfl⟩
  obtain ⟨W2, hW2⟩ : ∃ W2, W2 = w1.alloc (.cells #[.string ⟨#[]⟩] 9) := ⟨_, rfl⟩
  have HX2 := Lib.hid (show Ext w1 W2 by rw [hW2]; exact ext_alloc _ _)
  have HL2 := Lib.hid (show W2.heap[L]? = some (.cells #[.string ⟨#[]⟩] 9 (0, 0)) by rw [hW2, hL]; exact heap_alloc_new w1 _)
  obtain ⟨R, hR⟩ : ∃ R, R = W2.heap.size := ⟨_, rfl⟩
  have hRL : w1.heap.size + 1 = R := by rw [hR, hW2]; simp
  have HR3 := Lib.hid (show (W2.alloc (.cells #[.slice (some ⟨L, 0, none⟩) 1 1, .slice none 0 0] 27)).heap[R]? = some (.cells #[.slice (some ⟨L, 0, none⟩) 1 1, .slice none 0 0] 27 (0, 0)) by rw [hR]; exact heap_alloc_new W2 _)
  have HRR := Lib.hid hR
  have HLR := Lib.hid (show L < R by omega)
  have hd : 1 + (n' : Int) = (n0 : Int) := by omega
  have HN := Lib.hid hd
  have HRL := Lib.hid hRL
  clear hd hRL hn0 hR
  go_wp2
  rw [HN.out, HRL.out, ← hW2, ← hL]
  clear hW2 HRL HN hn5 hL
  go_loopw [6, 7] (fun p i wr => ∃ (k : Nat) (P : ByteArray) (vq : Value) (qs : List QC), i = .int .i64 k ∧ p = .string P ∧ P.data.toList = rq k ∧ k ≤ n0 ∧ wr.heap[R]? = some (.cells #[.slice (some ⟨L, 0, none⟩) 1 1, vq] 27 (0, 0)) ∧ OwnQs wr R vq (chainQ gp k) qs ∧ Ext W2 wr) (fun _ i _ => n0 - (intOf i).toNat)
  case atStart => exact ⟨0, _, _, [], rfl, rfl, rfl, by omega, HR3.out, OwnQs.nil _ _, ext_alloc _ _⟩
  case round =>
    obtain ⟨k, P, vq, qs, rfl, rfl, hP, hk, hRb, hOQ, hx⟩ := hrel
    have HP := Lib.hid hP
    have hPs : P.size ≤ 20 := by
      have := congrArg List.length hP
      rw [rq_len] at this
      rw [ba_size]
      omega
    have HRB := Lib.hid hRb
    have HOQ := Lib.hid hOQ
    have HX := Lib.hid hx
    have r0 := blk_cell hRb 0 _ rfl
    have r1 := blk_cell hRb 1 _ rfl
    have f1 := blk_free hRb 1
    clear hRb hOQ hx hP
    have k0 : (0 : Int) ≤ (k : Int) := by omega
    by_cases hlt : k < n0
    · have k1 : (k : Int) < (n0 : Int) := by omega
      have hPP : (P ++ (⟨#[46, 113]⟩ : ByteArray)).data.toList = rq (k + 1) := by rw [ba_app, HP.out]; rfl
      have HPP := Lib.hid hPP
      clear hPP
      by_cases hc : k ≠ gp ∨ k = 0
      · have HCH := Lib.hid (show chainQ gp (k + 1) = chainQ gp k ++ [⟨rq k, [(10000, 10000)], 1⟩] by rw [chainQ, if_pos hc])
        have hcl := chain_len gp k
        obtain ⟨Aq, cq, rfl, hcq1, hcq2⟩ := own_shape HOQ.out.row
        obtain ⟨DL, hDL⟩ : ∃ DL, DL = (chainQ gp k).length := ⟨_, rfl⟩
        have hDL7 : DL ≤ 7 := by omega
        have HROW2 := Lib.hid (show wr.ownsRow R 32 3 (.slice Aq DL cq) DL (qcells qs) by have h := HOQ.out.row; rw [← hDL] at h; exact h)
        rw [← hDL] at r1
        obtain ⟨Q, hQ⟩ : ∃ Q, Q = wr.heap.size := ⟨_, rfl⟩
        obtain ⟨WC, hWC⟩ : ∃ WC, WC = wr.alloc (.cells #[.int .i64 10000, .int .i64 10000] 29) := ⟨_, rfl⟩
        have HQC := Lib.hid (show WC.heap[Q]? = some (.cells #[.int .i64 10000, .int .i64 10000] 29 (0, 0)) by rw [hWC, hQ]; exact heap_alloc_new wr _)
        have HXC := Lib.hid (show Ext wr WC by rw [hWC]; exact ext_alloc _ _)
        have HDL := Lib.hid hDL
        have HQ := Lib.hid hQ
        clear hDL hcl hcq1
        have hq1 : ((k : Int) != (gp : Int)) = true ∨ (((k : Int) != (gp : Int)) = false ∧ ((k : Int) == 0) = true) := by
          by_cases he : k = gp
          · right; exact ⟨by simp [he], by simp; omega⟩
          · left; simp; omega
        clear hc
        have HN3 := Lib.hid (show ∀ j u, [Value.string P, .slice (some ⟨wr.heap.size, 0, none⟩) 1 1, .int .i64 1][j]? = some u → ((wr.alloc (.cells #[.int .i64 10000, .int .i64 10000] 29)).alloc (.cells #[.string P, .slice (some ⟨wr.heap.size, 0, none⟩) 1 1, .int .i64 1] 32)).cell? ((⟨wr.heap.size + 1, 0, none⟩ : Addr).add j) = some u by
          have h := cell_three_new (wr.alloc (.cells #[.int .i64 10000, .int .i64 10000] 29)) (.string P) (.slice (some ⟨wr.heap.size, 0, none⟩) 1 1) (.int .i64 1) 32
          rw [show (wr.alloc (.cells #[.int .i64 10000, .int .i64 10000] 29)).heap.size = wr.heap.size + 1 by simp] at h
          exact h)
        rcases hq1 with q1 | ⟨q1, q2⟩
        all_goals (
          go_wp2_with (at_builtin; go_loud (refine wpList_append_own_at _ rfl (.tmp 31) (.tmp 36) 25 rfl R 32 q0 _ 3 48 Tryd.underlying25 hq hqz0 hqz1 hqz2 rfl (by decide) _ DL (qcells qs) rfl ((HROW2.out.alloc _).alloc _) ⟨wr.heap.size + 1, 0, none⟩ 1 1 [.string P, .slice (some ⟨wr.heap.size, 0, none⟩) 1 1, .int .i64 1] rfl rfl HN3.out one3 ?e3 ?e4 ?e5 ?_))
          case e3 => simp [maxLen]; omega
          case e4 => omega
          case e5 =>
            have := (Array.getElem?_eq_some_iff.1 HRB.out).1
            simp; omega
          intro v' w5 ho5 hg5 _ hat5
          rw [← hWC] at hg5
          have hneR : (Value.slice Aq DL cq).ownBlock ≠ some R := own_other HROW2.out HRB.out (by decide)
          have HR5 := Lib.hid (bapp (HXC.out.trans (ext_alloc _ _)) hg5 HRB.out hneR)
          have HX5 := Lib.hid (((HX.out.trans HXC.out).trans (ext_alloc _ _)).trans' (grown_below hg5 (by have := (HX.out.trans HXC.out).size; simp; omega) (own_ge HROW2.out (by rw [HRR.out]; exact Nat.le_refl _))))
          rw [HDL.out] at ho5 hg5
          have hRQ : R ≤ Q := by have := (Array.getElem?_eq_some_iff.1 HRB.out).1; omega
          have HOQ5 := Lib.hid (OwnQs.snoc (q := ⟨P, some ⟨wr.heap.size, 0, none⟩, 1, 1, 1⟩) (d := ⟨rq k, [(10000, 10000)], 1⟩) HOQ.out (HXC.out.trans (ext_alloc _ _)) ⟨HP.out, rfl, rfl, by rw [← HQ.out]; exact own_ExtK (one_cap HQC.out hRQ) (ext_alloc _ _)⟩
            (fun g hg i qi hqi e => by
              have h1 : wr.heap.size = g := by injection hg
              have hil : i < (chainQ gp k).length := by rw [← HOQ.out.len]; exact (List.getElem?_eq_some_iff.1 hqi).1
              have h2 := ((HOQ.out.each i qi hil hqi).2.2.2.lt g e).2
              omega) ho5 hg5)
          have q5 := blk_cell HR5.out 1 _ rfl
          have f5 := blk_free HR5.out 1
          obtain ⟨A5, c5, rfl, _, _⟩ := own_shape ho5
          clear ho5 hg5 hat5 r1 r0 f1
          rw [← HCH.out] at HOQ5
          go_wp2
          go_roundw
          case rel =>
            refine ⟨k + 1, _, _, qs ++ [⟨P, some ⟨wr.heap.size, 0, none⟩, 1, 1, 1⟩], by simp, rfl, HPP.out, by omega, by rw [bset HR5.out]; rfl, ?_, ?_⟩
            · exact HOQ5.out.kept (bgrown _ R 1 _) HR5.out (by decide) (by decide)
            · exact ext_set HX5.out (by rw [HRR.out]; exact Nat.le_refl _) _
          case measure => simp [intOf]; omega)
      · have he : k = gp := by omega
        have q1 : ((k : Int) != (gp : Int)) = false := by simp [he]
        have q2 : ((k : Int) == 0) = false := by simp; omega
        have HCH := Lib.hid (show chainQ gp (k + 1) = chainQ gp k by rw [chainQ, if_neg hc])
        clear he hc r0 r1 f1
        go_wp2
        go_roundw
        case rel => exact ⟨k + 1, _, vq, qs, by simp, rfl, HPP.out, by omega, HRB.out, by rw [HCH.out]; exact HOQ.out, HX.out⟩
        case measure => simp [intOf]; omega
    · obtain rfl : k = n0 := by omega
      have k1 : ¬ (k : Int) < (k : Int) := by omega
      obtain ⟨Aq, cq, rfl, hcq1, hcq2⟩ := own_shape HOQ.out.row
      have HC := Lib.hid (show ∀ (W : World), Ext wr W → ConfAt W (.slice (some ⟨L, 0, none⟩) 1 1) (.slice Aq (chainQ gp k).length cq) [[]] (chainQ gp k) from fun _ hx =>
        ⟨(one_lab (ext_blk (HX.out.trans hx) HL2.out)), (HOQ.out.ext hx).rd, (HOQ.out.ext hx).capsQ, by simp, by have := chain_len gp k; omega, fun q hq => by have := (chain_mem gp k q hq).1; omega, fun q hq => by rw [(chain_mem gp k q hq).2]; omega, by
          obtain ⟨m, hm⟩ := HM.out
          exact ⟨m, (X1.out.trans (HX2.out.trans (HX.out.trans hx))).cell hm⟩⟩)
      obtain ⟨DL, hDL⟩ : ∃ DL, DL = (chainQ gp k).length := ⟨_, rfl⟩
      rw [← hDL] at r1 HC
      have HW := Lib.hid (depth_all k hn6 gp hg6 hn7)
      clear hcq1 hcq2 hDL
      obtain ⟨b, hb⟩ : ∃ b, b = decide ((0 < gp ∧ gp < k - 1) ∨ (4 < k ∧ gp ≠ 4)) := ⟨_, rfl⟩
      have HBB := Lib.hid hb
      clear hb
      go_upto_region 14 with fail
      go_cut [56] from 41 to 56 (fun s56 wx => s56 = .bool b ∧ wx = wr)
      case first =>
        go_wp2
        all_goals (
          go_meet
          case rel =>
            refine ⟨?_, rfl⟩
            rw [HBB.out]
            congr 1
            first | (symm; rw [decide_eq_true_eq]; omega) | (symm; rw [decide_eq_false_iff_not]; omega) | (rw [decide_eq_decide]; omega) | (rw [Bool.eq_iff_iff]; simp only [Bool.or_eq_true, decide_eq_true_eq, bne_iff_ne, ne_eq]; omega))
      case rest =>
        obtain ⟨rfl, rfl⟩ := hcut
        cases b with
        | true =>
          have HW2 := Lib.hid (show checkC [[]] (chainQ gp k) = 12 by rw [HW.out, wantD, if_pos (of_decide_eq_true HBB.out.symm)])
          go_wp2_with fail
          (with_reducible refine (Check_all (HC.out _ (Ext.refl _))).mono ?_)
          rw [HW2.out]
          rintro e w9 ⟨rfl, hx9⟩
          have HX9 := Lib.hid hx9
          clear hx9
          go_wp2
          go_ret
          exact ⟨rfl, X1.out.trans (HX2.out.trans (HX.out.trans HX9.out))⟩
        | false =>
          have HW2 := Lib.hid (show checkC [[]] (chainQ gp k) = 0 by rw [HW.out, wantD, if_neg (of_decide_eq_false HBB.out.symm)])
          go_wp2_with fail
          (with_reducible refine (Check_all (HC.out _ (Ext.refl _))).mono ?_)
          rw [HW2.out]
          rintro e w9 ⟨rfl, hx9⟩
          have HX9 := Lib.hid hx9
          clear hx9
          go_wp2
          go_ret
          exact ⟨rfl, X1.out.trans (HX2.out.trans (HX.out.trans HX9.out))⟩
end Go.Proofs.YtflbhnckhbcboaaDoor.RuleDepth
