/- dispatchref9.Take. -/
import Derived.Test.YtbocpkdnlpobkaaAkR
namespace Go.Proofs.Ytbocpkdnlpobkaa
open Go.RowKit

set_option maxRecDepth 100000 in
set_option maxHeartbeats 6400000 in
theorem rTake_any (ds : List AD) (v : Value) (p : Int) (w : World) (hn : HdA w v ds) (hlen : ds.length ≤ 1000) (hs : SrtA ds) (hk : OkA ds) :
    Calls Try.prog 17 #[v, .int .i64 p] w (TwoPost (takeA ds p) (.bool (hasA p ds)) w) := by
  obtain ⟨c0, hc, hcz0, hcz1, hcz2⟩ := info_parts Try.infoAk
  have HES := Lib.hid (outT_is p ds hs hk)
  obtain ⟨A, N, c, rfl, hN, hc1, hc2, hcell⟩ := hn.ask
  have HC := Lib.hid hcell
  have HN := Lib.hid hN
  have HK := Lib.hid hk
  have hN1 : N ≤ 1000 := by omega
  clear hcell hn hN hlen hs hk
  have HOL := Lib.hid (fun l => outT_len p l)
  have HSN := Lib.hid (fun l d => outT_snoc p l d)
  have HS0 := Lib.hid (show outT p [] = ([], false) from rfl)
  have HT1 := Lib.hid (show ∀ (o : List AD) (b : Bool) (d : AD), d.prio = p → d.count - 1 ≤ 0 → stepT p (o, b) d = (o, true) from fun o b d h h2 => by unfold stepT; rw [if_pos h, if_pos h2])
  have HT2 := Lib.hid (show ∀ (o : List AD) (b : Bool) (d : AD), d.prio = p → ¬ d.count - 1 ≤ 0 → stepT p (o, b) d = (o ++ [⟨d.prio, d.label, d.mem, d.cores, d.count - 1, d.node, d.rack, 0⟩], true) from fun o b d h h2 => by unfold stepT; rw [if_pos h, if_neg h2])
  have HT3 := Lib.hid (show ∀ (o : List AD) (b : Bool) (d : AD), d.prio ≠ p → stepT p (o, b) d = (o ++ [d], b) from fun o b d h => by unfold stepT; rw [if_neg h])
  obtain ⟨OS, hOS⟩ : ∃ OS, OS = outT p := ⟨_, rfl⟩
  obtain ⟨ST, hST⟩ : ∃ ST, ST = stepT p := ⟨_, rfl⟩
  rw [← hST] at HT1 HT2 HT3
  rw [← hOS] at HOL HS0 HES
  rw [← hOS, ← hST] at HSN
  clear hOS hST
  go_enter Try.func17, Try.ntmps17
  go_wp2
  go_loopw [6, 7, 8] (fun vo vd i wr => ∃ (k : Nat) (o : List AD) (dn : Bool), k ≤ N ∧ i = .int .i64 k ∧ vd = .bool dn ∧ OS (ds.take k) = (o, dn) ∧ wr.ownsRow w.heap.size 25 8 vo o.length (acells o) ∧ Ext w wr) (fun _ _ i _ => N - (intOf i).toNat)
  case atStart => exact ⟨0, [], false, by omega, rfl, rfl, by rw [List.take_zero]; exact HS0.out, World.ownsRow_nil _ _ _ 8, Ext.refl _⟩
  case round =>
    obtain ⟨k, o, dn, hkN, rfl, rfl, hos, hown, hx⟩ := hrel
    have HX := Lib.hid hx
    have HOS := Lib.hid hos
    have hol : o.length ≤ k := by have := (HOL.out (ds.take k)); rw [hos, List.length_take] at this; simp only at this; omega
    obtain ⟨n, hn⟩ : ∃ n, n = o.length := ⟨_, rfl⟩
    rw [← hn] at hown hol
    obtain ⟨Av, cv, rfl, hv1, hv2⟩ := own_shape hown
    have HO := Lib.hid hown
    have HNN := Lib.hid hn
    clear hx hos hown hn
    have k0 : (0 : Int) ≤ (k : Int) := by omega
    by_cases hlt : k < N
    · have k1 : (k : Int) < (N : Int) := by omega
      obtain ⟨g, rfl, _, hg⟩ := HC.out (by omega)
      have hkd : k < ds.length := by have := HN.out; omega
      obtain ⟨hk1, hk2, _, _⟩ := HK.out _ (List.getElem_mem hkd)
      obtain ⟨q0, q1, q2, q3, q4, q5, q6, q7⟩ := (hg k hkd).ext HX.out
      obtain ⟨d, hd⟩ : ∃ d, d = ds[k] := ⟨_, rfl⟩
      have HTK := Lib.hid (show OS (ds.take (k + 1)) = ST (o, dn) d by rw [hd, ← HOS.out, ← HSN.out, List.take_append_getElem hkd])
      rw [← hd] at q0 q1 q2 q3 q4 q5 q6 q7 hk1 hk2
      clear hd hg HOS
      obtain ⟨dp, dl, dm, dc, dnn, dno, dr, dmi⟩ := d
      simp only at q0 q1 q2 q3 q4 q5 q6 q7 HT1 HT2 HT3 hk1 hk2
      have hn1 : n ≤ 1000 := by omega
      clear hol
      by_cases hE : dp = p
      · have t1 : (dp == p) = true := by simpa using hE
        by_cases hz : dnn - 1 ≤ 0
        · have t2 : decide (dnn - 1 ≤ 0) = true := by simpa using hz
          have HF := Lib.hid (HTK.out.trans (HT1.out o dn ⟨dp, dl, dm, dc, dnn, dno, dr, dmi⟩ hE hz))
          clear hE hz
          go_wp2
          go_roundw
          case rel => exact ⟨k + 1, _, _, by omega, by simp, rfl, HF.out, by rw [← HNN.out]; exact HO.out.alloc _, HX.out.trans (ext_alloc _ _)⟩
          case measure => simp [intOf]; omega
        · have t2 : decide (dnn - 1 ≤ 0) = false := by simpa using hz
          have HF := Lib.hid (HTK.out.trans (HT2.out o dn ⟨dp, dl, dm, dc, dnn, dno, dr, dmi⟩ hE (show (0 : Int) < dnn - 1 by omega)))
          clear hE hz
          go_upto_region 10 with fail
          refine at_world (fun W1 hW1 => ?_)
          have HB := Lib.hid (show W1.heap[wr.heap.size]? = some (.cells #[.int .i64 dp, .int .i64 dl, .int .i64 dm, .int .i64 dc, .int .i64 (dnn - 1), .int .i64 dno, .int .i64 dr, .int .i64 0] 25 (0, 0)) by
            rw [hW1]
            first | exact heap_alloc_new wr _ | (rw [bset (bset (heap_alloc_new wr _))]; rfl))
          have X1 := Lib.hid (HX.out.trans (show Ext wr W1 by rw [hW1]; first | exact ext_set (ext_set (ext_alloc _ _) (Nat.le_refl _) _) (Nat.le_refl _) _ | exact ext_alloc _ _))
          have HO1 := Lib.hid (own_ExtK HO.out (show Ext wr W1 by rw [hW1]; first | exact ext_set (ext_set (ext_alloc _ _) (Nat.le_refl _) _) (Nat.le_refl _) _ | exact ext_alloc _ _))
          obtain ⟨B, hB⟩ : ∃ B, B = wr.heap.size := ⟨_, rfl⟩
          rw [← hB] at HB ⊢
          clear hW1 hB q0 q1 q2 q3 q4 q5 q6 q7
          have b0 := bcel HB.out 0 (.int .i64 dp) rfl
          have b1 := bcel HB.out 1 (.int .i64 dl) rfl
          have b2 := bcel HB.out 2 (.int .i64 dm) rfl
          have b3 := bcel HB.out 3 (.int .i64 dc) rfl
          have b4 := bcel HB.out 4 (.int .i64 (dnn - 1)) rfl
          have b5 := bcel HB.out 5 (.int .i64 dno) rfl
          have b6 := bcel HB.out 6 (.int .i64 dr) rfl
          have b7 := bcel HB.out 7 (.int .i64 0) rfl
          go_wp2_with (at_builtin; go_loud (refine wpList_append_own_at _ rfl (.tmp 32) (.tmp 34) 33 rfl w.heap.size 25 c0 _ 8 64 Try.underlying33 hc hcz0 hcz1 hcz2 rfl (by decide) _ n _ rfl (HO1.out.alloc _) ⟨_, 0, none⟩ 1 1 (aenc ⟨dp, dl, dm, dc, dnn - 1, dno, dr, 0⟩) rfl rfl (cell_eight_new W1 ⟨dp, dl, dm, dc, dnn - 1, dno, dr, 0⟩) (aenc_one _) (by simp [maxLen]; omega) (by omega) (by have := X1.out.size; simp; omega) ?_))
          intro v' w5 ho5 hg5 _ hat5
          have X5 := Lib.hid (ext_app_own X1.out HO1.out (Nat.le_refl _) hg5)
          obtain ⟨A5, c5, rfl, hv5, hv6⟩ := own_shape ho5
          have HO5 := Lib.hid ho5
          clear ho5 hg5 hat5
          go_wp2
          go_roundw
          case rel =>
            refine ⟨k + 1, _, _, by omega, by simp, rfl, HF.out, ?_, X5.out⟩
            have := HO5.out
            rw [List.length_append, List.length_singleton, ← HNN.out, acells_snoc]
            exact this
          case measure => simp [intOf]; omega
      · have t1 : (dp == p) = false := by simpa using hE
        have HF := Lib.hid (HTK.out.trans (HT3.out o dn ⟨dp, dl, dm, dc, dnn, dno, dr, dmi⟩ hE))
        clear hE
        go_upto_region 11 with fail
        refine at_world (fun W1 hW1 => ?_)
        have HB := Lib.hid (show W1.heap[wr.heap.size]? = some (.cells #[.int .i64 dp, .int .i64 dl, .int .i64 dm, .int .i64 dc, .int .i64 dnn, .int .i64 dno, .int .i64 dr, .int .i64 dmi] 25 (0, 0)) by
          rw [hW1]
          exact heap_alloc_new wr _)
        have X1 := Lib.hid (HX.out.trans (show Ext wr W1 by rw [hW1]; exact ext_alloc _ _))
        have HO1 := Lib.hid (own_ExtK HO.out (show Ext wr W1 by rw [hW1]; exact ext_alloc _ _))
        obtain ⟨B, hB⟩ : ∃ B, B = wr.heap.size := ⟨_, rfl⟩
        rw [← hB] at HB ⊢
        clear hW1 hB q0 q1 q2 q3 q4 q5 q6 q7
        have b0 := bcel HB.out 0 (.int .i64 dp) rfl
        have b1 := bcel HB.out 1 (.int .i64 dl) rfl
        have b2 := bcel HB.out 2 (.int .i64 dm) rfl
        have b3 := bcel HB.out 3 (.int .i64 dc) rfl
        have b4 := bcel HB.out 4 (.int .i64 dnn) rfl
        have b5 := bcel HB.out 5 (.int .i64 dno) rfl
        have b6 := bcel HB.out 6 (.int .i64 dr) rfl
        have b7 := bcel HB.out 7 (.int .i64 dmi) rfl
        go_wp2_with (at_builtin; go_loud (refine wpList_append_own_at _ rfl (.tmp 32) (.tmp 34) 33 rfl w.heap.size 25 c0 _ 8 64 Try.underlying33 hc hcz0 hcz1 hcz2 rfl (by decide) _ n _ rfl (HO1.out.alloc _) ⟨_, 0, none⟩ 1 1 (aenc ⟨dp, dl, dm, dc, dnn, dno, dr, dmi⟩) rfl rfl (cell_eight_new W1 ⟨dp, dl, dm, dc, dnn, dno, dr, dmi⟩) (aenc_one _) (by simp [maxLen]; omega) (by omega) (by have := X1.out.size; simp; omega) ?_))
        intro v' w5 ho5 hg5 _ hat5
        have X5 := Lib.hid (ext_app_own X1.out HO1.out (Nat.le_refl _) hg5)
        obtain ⟨A5, c5, rfl, hv5, hv6⟩ := own_shape ho5
        have HO5 := Lib.hid ho5
        clear ho5 hg5 hat5
        go_wp2
        go_roundw
        case rel =>
          refine ⟨k + 1, _, _, by omega, by simp, rfl, HF.out, ?_, X5.out⟩
          have := HO5.out
          rw [List.length_append, List.length_singleton, ← HNN.out, acells_snoc]
          exact this
        case measure => simp [intOf]; omega
    · obtain rfl : k = N := by omega
      have k1 : ¬ (k : Int) < (k : Int) := by omega
      have HF := Lib.hid (show takeA ds p = o ∧ hasA p ds = dn by
        have h := HOS.out
        rw [HN.out, List.take_length, HES.out] at h
        injection h with h1 h2
        exact ⟨h1, h2⟩)
      clear hol
      go_wp2
      refine bodyPost_ret (by simp [results, Try.results17, go_sem]; try rfl) rfl ?_
      exact ⟨_, by rw [HF.out.2], by rw [HF.out.1, ← HNN.out]; exact HO.out, HX.out⟩
end Go.Proofs.Ytbocpkdnlpobkaa
