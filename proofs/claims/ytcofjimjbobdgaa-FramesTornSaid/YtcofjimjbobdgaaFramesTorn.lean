/- The law FramesTorn holds at every input: of frames, with any front of one more behind them, just these are told. No condition. -/
import Derived.Test.YtcofjimjbobdgaaFrmT
import Derived.JoinedOf
import Derived.JoinedAt
import Derived.RowKit3
import Derived.Lib.SmallJoins
namespace Go.Proofs.Ytcofjimjbobdgaa.FramesTorn
open Go.ChangeShapes Go.WideShapes Go.ChangeAt Go.RowKit Go.Joins

theorem scan_torn (ls : List (List UInt8)) (M : List UInt8) (h : ∀ r ∈ ls, r.length ≤ 300) (hM : M.length ≤ 300) {k : Nat} (hk : k < M.length + 8) : scan (logB ls ++ (frameB M).take k) = ls := by
  rw [scan_log _ _ (fun r hr => by have := h r hr; omega), scan_none (fst?_torn M (by omega) hk), List.append_nil]
theorem scan_more (ls : List (List UInt8)) (M : List UInt8) (h : ∀ r ∈ ls, r.length ≤ 300) (hM : M.length ≤ 300) : scan (logB ls ++ frameB M) = ls ++ [M] := by
  rw [scan_log _ _ (fun r hr => by have := h r hr; omega)]
  have := scan_frame (r := M) [] (by omega)
  rw [List.append_nil, scan_nil] at this
  rw [this]

set_option maxRecDepth 100000 in
set_option maxHeartbeats 3200000 in
theorem walk (w : World) (v0 : Value) (rows : List Value) (r0 : Rd w v0 rows) (wf0 : ∀ u ∈ rows, ∃ l : List UInt8, Rd w u (bvs l)) (v1 : Value) (M : List UInt8) (r1 : Rd w v1 (bvs M)) (n : Int) (_ : (Lit.int .i64 n).wf = true) :
    Calls Try.prog 7 #[v0, v1, .int .i64 n] w fun e w' => e = .returned (.bool true) ∧ Below w.heap.size w w' := by
  obtain ⟨i0, hi, hz0, hz1, hz2⟩ := info_parts Try.infoU8
  obtain ⟨ls, rl⟩ := rdR_of r0 wf0
  have RL := Lib.hid rl
  have RM := Lib.hid r1
  obtain ⟨A, N, c, rfl, hN, hc1, hc2, hcell⟩ := rl.open
  obtain ⟨A', N', c', rfl, hN', hc1', hc2', hcell'⟩ := r1.open
  have HC := Lib.hid hcell
  have HN := Lib.hid hN
  have HN' := Lib.hid hN'
  clear hcell hcell' rl r0 wf0 r1 hN hN'
  by_cases hM : (300 : Int) < (N' : Int)
  · go_enter Try.func7, Try.ntmps7
    go_wp2_with fail
    refine (known_any _).mono ?_
    rintro e w1 ⟨rfl, hx1⟩
    go_wp2
    go_ret
    exact ⟨rfl, hx1⟩
  · by_cases hL : (10 : Int) < (N : Int)
    · go_enter Try.func7, Try.ntmps7
      go_wp2_with fail
      refine (known_any _).mono ?_
      rintro e w1 ⟨rfl, hx1⟩
      go_wp2
      go_ret
      exact ⟨rfl, hx1⟩
    · have hM' : N' ≤ 300 := by omega
      have hL' : N ≤ 10 := by omega
      have HML := Lib.hid (show M.length ≤ 300 by have := HN'.out; omega)
      go_enter Try.func7, Try.ntmps7
      go_wp2_with fail
      refine (known_any _).mono ?_
      rintro e w1 ⟨rfl, hx1⟩
      have X1 := Lib.hid (show Ext w w1 from hx1)
      clear hx1
      go_wp2
      go_loop [7] (fun i => ∃ k : Nat, k ≤ N ∧ i = .int .i64 k ∧ ∀ j (h : j < ls.length), j < k → ls[j].length ≤ 300) (fun i => N - (intOf i).toNat)
      case atStart => exact ⟨0, Nat.zero_le _, rfl, fun j h hj => absurd hj (by omega)⟩
      case round =>
        obtain ⟨k, hk, rfl, hall⟩ := hrel
        have HALL := Lib.hid hall
        clear hall
        by_cases hlt : k < N
        · obtain ⟨a, rfl, hb, hcs⟩ := HC.out (by omega)
          have hkl : k < ls.length := by have := HN.out; omega
          obtain ⟨u, h1, h2⟩ := hcs k hkl
          have h3 := X1.out.cell' h1
          obtain ⟨Au, nu, cu, rfl, hnu, _⟩ := h2.open
          have i0' : (0 : Int) ≤ (k : Int) := by omega
          have i1 : (k : Int) < (N : Int) := by omega
          clear hcs h1 h2
          by_cases hbig : (300 : Int) < (nu : Int)
          · clear hnu
            go_wp2
            go_ret
            exact ⟨rfl, X1.out⟩
          · have HNU := Lib.hid hnu
            have hnb : nu ≤ 300 := by omega
            clear hnu
            go_wp2
            go_round
            case rel => exact ⟨k + 1, by omega, by go_num, fun j h hj => by
              by_cases e : j < k
              · exact HALL.out j h e
              · obtain rfl : j = k := by omega
                have := HNU.out; omega⟩
            case measure => simp [intOf]; omega
        · obtain rfl : k = N := by omega
          have HSM := Lib.hid (show ∀ r ∈ ls, r.length ≤ 300 from fun r hr => by
            obtain ⟨j, hj, rfl⟩ := List.getElem_of_mem hr
            exact HALL.out j hj (by have := HN.out; omega))
          have HT := Lib.hid (show ls.take 10 = ls from List.take_of_length_le (by have := HN.out; omega))
          clear HALL
          go_wp2_with fail
          (with_reducible refine (log_any _ ls _ (RL.out.ext X1.out) (fun r hr => by have := HSM.out r hr; omega)).mono ?_)
          rw [HT.out]
          rintro e w2 ⟨v2, rfl, ho2, hx2⟩
          have X2 := Lib.hid (X1.out.trans hx2)
          have R2 := Lib.hid (Rd.of_own ho2)
          obtain ⟨A2, n2, c2, rfl, hn2, _⟩ := (Rd.of_own ho2).open
          rw [logB_length] at hn2
          have HN2 := Lib.hid hn2
          have hn2b : n2 ≤ 3080 := by
            have h1 := bulk_small ls 300 HSM.out
            rw [← HN.out] at h1
            have : k * 308 ≤ 10 * 308 := Nat.mul_le_mul_right _ hL'
            omega
          clear ho2 hx2 hn2
          go_wp2_with fail
          (with_reducible refine (Frame_all _ M _ (RM.out.ext X2.out)).mono ?_)
          rw [show fE M = 0 by unfold fE; rw [if_neg (by have := HML.out; omega)], show fB M = frameB M by unfold fB; rw [if_neg (by have := HML.out; omega)]]
          rintro e w3 ⟨v3, rfl, ho3, hx3⟩
          have X3 := Lib.hid (X2.out.trans hx3)
          have R2' := Lib.hid (R2.out.ext hx3)
          have R3 := Lib.hid (Rd.of_own ho3)
          obtain ⟨A3, n3, c3, rfl, hn3, hc3, _⟩ := (Rd.of_own ho3).open
          rw [frameB_length, ← HN'.out] at hn3
          subst hn3
          clear ho3 hx3 R2
          go_wp2_with fail
          (with_reducible refine (within_some n (N' + 8) ((N' : Int) + 8) _ (by omega) (by omega)).mono ?_)
          rintro e w' ⟨y, rfl, hy, rfl⟩
          have hsl : ∀ (W : World) (kh : IntKind), (Instr.slice 22 (.slice A3 (N' + 8) c3) none (some (.int kh (y : Int))) none).run Try.prog W = .ok (.slice (subA A3 0 c3) y c3) W := fun W kh => sl_h (A := A3) (n := N' + 8) (c := c3) (h := y) Try.underlying22 hi hz1 (by omega) W kh
          go_wp2
          refine wp_region_sched (LB w3.heap.size) (LB_way w3.heap.size) [(1, true), (3, true), (4, true), (5, true), (0, false), (2, false), (6, false), (7, false), (8, true), (9, true), (11, true), (10, true), (12, true)] (by kernel_rfl) (by kernel_rfl) (fun _ _ _ _ _ h => h) ?_
          repeat first | ((with_reducible refine sched_free ?_ ?_ ?_ ?_ (fun wk k1 => ?_) ?_); rotate_left 2; (rfl); (first | exact want_none rfl | exact want_some rfl rfl rfl rfl); (go_simp; first | exact OkX.val | (rw [hsl]; exact OkX.val)); simp only [Act.put, List.setIfInBounds_toArray, List.set_cons_zero, List.set_cons_succ]) | ((with_reducible refine sched_skip ?_ ?_ ?_ ?_); rotate_left; (rfl); (exact want_not rfl rfl rfl rfl rfl); simp only [Act.put, List.setIfInBounds_toArray, List.set_cons_zero, List.set_cons_succ])
          ((with_reducible refine sched_step ?_ ?_ ?_ (fun wk k1 => ?_)); rotate_left; (rfl); (first | exact want_none rfl | exact want_some rfl rfl rfl rfl))
          have E0 := Lib.hid ((Ext.drew _).trans k1)
          have HO0 := Lib.hid (own_empty wk w3.heap.size E0.out.size)
          have E1 := Lib.hid (E0.out.trans (ext_alloc wk (.cells #[] 5)))
          clear k1
          go_simp
          refine ⟨LB.ext (ext_alloc _ _), ?_⟩
          try simp only [Act.put, List.setIfInBounds_toArray, List.set_cons_zero, List.set_cons_succ]
          ((with_reducible refine sched_step ?_ ?_ ?_ (fun wk k1 => ?_)); rotate_left; (rfl); (first | exact want_none rfl | exact want_some rfl rfl rfl rfl))
          have E2 := Lib.hid (E1.out.trans k1)
          have HO1 := Lib.hid (own_Ext HO0.out k1)
          have HS := (R2'.out.ext E2.out).src bvs_one Try.underlying22
          rw [bvs_length, logB_length, ← HN2.out] at HS
          clear k1 HO0 E1 E0
          refine wp_app_src _ (.tmp 50) (.tmp 51) 22 22 rfl w3.heap.size 5 i0 (.int .u8 0) 1 Try.underlying22 hi hz0 hz1 hz2 rfl _ 0 [] rfl HO1.out _ n2 (bvs (logB ls)) rfl HS ?c3 ?c4 ?c5 ?_
          case c3 => simp [maxLen]; omega
          case c4 => omega
          case c5 => exact E2.out.size
          intro v5 w5 ho5 hg5 _ _
          refine ⟨LB.grown hg5 (own_ge HO1.out (Nat.le_refl _)), ?_⟩
          have E3 := Lib.hid (E2.out.trans' (grown_below hg5 E2.out.size (own_ge HO1.out (Nat.le_refl _))))
          have HO2 := Lib.hid ho5
          clear ho5 hg5 E2 HO1 HS
          try simp only [Act.put, List.setIfInBounds_toArray, List.set_cons_zero, List.set_cons_succ]
          ((with_reducible refine sched_step ?_ ?_ ?_ (fun wk k1 => ?_)); rotate_left; (rfl); (first | exact want_none rfl | exact want_some rfl rfl rfl rfl))
          have E4 := Lib.hid (E3.out.trans k1)
          have HO3 := Lib.hid (own_Ext HO2.out k1)
          have HS := ((R3.out.ext E4.out).sub0 (k := y) (by omega)).src (by rw [bvs_take]; exact bvs_one) Try.underlying22
          rw [bvs_take, bvs_length, show ((frameB M).take y).length = y by rw [List.length_take, frameB_length, ← HN'.out]; omega] at HS
          clear k1 HO2 E3
          refine wp_app_src _ (.tmp 52) (.tmp 55) 22 22 rfl w3.heap.size 5 i0 (.int .u8 0) 1 Try.underlying22 hi hz0 hz1 hz2 rfl _ (0 + n2) _ rfl HO3.out _ y (bvs ((frameB M).take y)) rfl HS ?d3 ?d4 ?d5 ?_
          case d3 => simp [maxLen]; omega
          case d4 => omega
          case d5 => exact E4.out.size
          intro v6 w6 ho6 hg6 _ _
          refine ⟨LB.grown hg6 (own_ge HO3.out (Nat.le_refl _)), ?_⟩
          have E5 := Lib.hid (E4.out.trans' (grown_below hg6 E4.out.size (own_ge HO3.out (Nat.le_refl _))))
          have R6 := Lib.hid (show Rd w6 v6 (bvs (logB ls ++ (frameB M).take y)) by rw [bvs_append]; simpa using Rd.of_own ho6)
          clear ho6 hg6 E4 HO3 HS
          try simp only [Act.put, List.setIfInBounds_toArray, List.set_cons_zero, List.set_cons_succ]
          ((with_reducible refine sched_step ?_ ?_ ?_ (fun wk k1 => ?_)); rotate_left; (rfl); (first | exact want_none rfl | exact want_some rfl rfl rfl rfl))
          have E6 := Lib.hid (E5.out.trans k1)
          have HSC := Lib.hid (scan_torn ls M HSM.out HML.out (show y < M.length + 8 by rw [← HN'.out]; exact hy))
          have hb8 : (logB ls ++ (frameB M).take y).length ≤ 100000000 := by rw [List.length_append, List.length_take, logB_length, ← HN2.out]; omega
          go_simp
          (with_reducible refine (Scan_any _ _ _ (R6.out.ext k1) hb8).mono ?_)
          rw [HSC.out]
          rintro e w7 ⟨A7, n7, c7, rfl, hr7, hx7⟩
          refine ⟨LB.ext hx7, ?_⟩
          have E7 := Lib.hid (E6.out.trans hx7)
          have R7 := Lib.hid hr7
          clear k1 hr7 hx7 R6 E5 HSC hb8
          try simp only [Act.put, List.setIfInBounds_toArray, List.set_cons_zero, List.set_cons_succ]
          repeat first | ((with_reducible refine sched_free ?_ ?_ ?_ ?_ (fun wk k1 => ?_) ?_); rotate_left 2; (rfl); (first | exact want_none rfl | exact want_some rfl rfl rfl rfl); (go_simp; first | exact OkX.val); simp only [Act.put, List.setIfInBounds_toArray, List.set_cons_zero, List.set_cons_succ]) | ((with_reducible refine sched_skip ?_ ?_ ?_ ?_); rotate_left; (rfl); (exact want_not rfl rfl rfl rfl rfl); simp only [Act.put, List.setIfInBounds_toArray, List.set_cons_zero, List.set_cons_succ])
          refine sched_done (fun wk k1 => ?_)
          have E8 := Lib.hid (E7.out.trans k1)
          have R8 := Lib.hid (R7.out.ext k1)
          clear k1 R7 E7 E6
          have HSC2 := Lib.hid (scan_more ls M HSM.out HML.out)
          have HBK := Lib.hid (show ((bulk (ls ++ [M]) : Nat) : Int) = (n2 : Int) + ((N' : Int) + 8) by rw [bulk_snoc, ← HN2.out, ← HN'.out]; omega)
          have HBL := Lib.hid (show ((bulk ls : Nat) : Int) = (n2 : Int) by rw [← HN2.out])
          rw [HBL.out]
          have HO0 := Lib.hid (own_empty wk wk.heap.size (Nat.le_refl _))
          have E9 := Lib.hid (ext_alloc wk (.cells #[] 5))
          have HS := Lib.hid ((R2'.out.ext (E8.out.trans E9.out)).src bvs_one Try.underlying22)
          rw [bvs_length, logB_length, ← HN2.out] at HS
          go_wp2_with (at_builtin; refine wpList_app_src _ rfl (.tmp 61) (.tmp 62) 22 22 rfl wk.heap.size 5 i0 (.int .u8 0) 1 Try.underlying22 hi hz0 hz1 hz2 rfl _ 0 [] rfl HO0.out _ n2 (bvs (logB ls)) rfl HS.out ?e3 ?e4 ?e5 ?_)
          case e3 => simp [maxLen]; omega
          case e4 => omega
          case e5 => exact E9.out.size
          intro v10 w10 ho10 hg10 _ _
          have E10 := Lib.hid (E9.out.trans' (grown_below hg10 E9.out.size (own_ge HO0.out (Nat.le_refl _))))
          have HO10 := Lib.hid ho10
          have HS2 := Lib.hid ((R3.out.ext (E8.out.trans E10.out)).src bvs_one Try.underlying22)
          rw [bvs_length, frameB_length, ← HN'.out] at HS2
          clear ho10 hg10 HO0 HS E9
          go_wp2_with (at_builtin; refine wpList_app_src _ rfl (.tmp 63) (.tmp 64) 22 22 rfl wk.heap.size 5 i0 (.int .u8 0) 1 Try.underlying22 hi hz0 hz1 hz2 rfl _ n2 _ rfl HO10.out _ (N' + 8) (bvs (frameB M)) rfl HS2.out ?f3 ?f4 ?f5 ?_)
          case f3 => simp [maxLen]; omega
          case f4 => omega
          case f5 => exact E10.out.size
          intro v11 w11 ho11 hg11 hat11 _
          have E11 := Lib.hid (E10.out.trans' (grown_below hg11 E10.out.size (own_ge HO10.out (Nat.le_refl _))))
          have R11 := Lib.hid (show Rd w11 v11 (bvs (logB ls ++ frameB M)) by rw [bvs_append]; exact Rd.of_own ho11)
          have hb8 := Lib.hid (show (logB ls ++ frameB M).length ≤ 100000000 by rw [List.length_append, frameB_length, logB_length, ← HN2.out, ← HN'.out]; omega)
          obtain ⟨A11, n11, c11, rfl⟩ := Rd.shape (Rd.of_own ho11)
          clear ho11 hg11 hat11 HS2 HO10 E10
          go_wp2_with fail
          (with_reducible refine (Scan_any _ _ _ R11.out hb8.out).mono ?_)
          rw [HSC2.out]
          rintro e w12 ⟨A12, n12, c12, rfl, hr12, hx12⟩
          rw [HBK.out]
          have E12 := Lib.hid (E11.out.trans hx12)
          obtain ⟨A13, N13, c13, hv13, hn13, _, _, hcell13⟩ := hr12.open
          injection hv13 with e1 e2 e3
          subst e1 e2 e3
          rw [List.length_append, List.length_singleton, ← HN.out] at hn13
          subst hn13
          obtain ⟨a12, rfl, _, hcs⟩ := hcell13 (by omega)
          obtain ⟨u12, g1, g2⟩ := hcs k (by rw [List.length_append, ← HN.out]; simp)
          rw [List.getElem_append_right (by rw [← HN.out]; exact Nat.le_refl _)] at g2
          simp only [← HN.out, Nat.sub_self, List.getElem_cons_zero] at g2
          have HK := Lib.hid g1
          have HG := Lib.hid g2
          obtain ⟨A14, n14, c14, rfl⟩ := Rd.shape g2
          clear hr12 hx12 hcell13 hcs g1 g2 E11 R11 hb8 HSC2
          go_wp2
          refine wp_region_sched Ext ext_way [(0, true), (1, true), (2, true), (3, true), (4, true), (5, false), (6, true), (7, true), (8, true), (9, true), (10, true), (11, true), (12, true), (13, true), (14, true), (15, true), (16, true), (17, true), (18, true), (19, true), (20, true), (21, true), (22, true), (23, true), (24, true), (25, true), (26, true), (27, true), (28, true), (29, true), (30, true), (31, true), (32, true), (33, true), (34, true), (35, true), (36, true), (37, true), (38, true), (39, true), (40, true), (41, true)] (by kernel_rfl) (by kernel_rfl) (fun _ _ _ _ _ h => h) ?_
          repeat first | ((with_reducible refine sched_free ?_ ?_ ?_ ?_ (fun wk k1 => ?_) ?_); rotate_left 2; (rfl); (first | exact want_none rfl | exact want_some rfl rfl rfl rfl); (go_simp; first | exact OkX.val); simp only [Act.put, List.setIfInBounds_toArray, List.set_cons_zero, List.set_cons_succ]) | ((with_reducible refine sched_skip ?_ ?_ ?_ ?_); rotate_left; (rfl); (exact want_not rfl rfl rfl rfl rfl); simp only [Act.put, List.setIfInBounds_toArray, List.set_cons_zero, List.set_cons_succ])
          ((with_reducible refine sched_step ?_ ?_ ?_ (fun wk k1 => ?_)); rotate_left; (rfl); (first | exact want_none rfl | exact want_some rfl rfl rfl rfl))
          have F0 := Lib.hid ((Ext.drew _).trans k1)
          go_simp
          (with_reducible refine (rows_any _ _ ls ls _ (R8.out.ext (E12.out.trans F0.out)) (RL.out.ext (X3.out.trans (E8.out.trans (E12.out.trans F0.out))))).mono ?_)
          rw [decide_eq_true rfl]
          rintro e w13 ⟨rfl, hx13⟩
          refine ⟨hx13, ?_⟩
          have F1 := Lib.hid (F0.out.trans hx13)
          clear k1 hx13 F0
          try simp only [Act.put, List.setIfInBounds_toArray, List.set_cons_zero, List.set_cons_succ]
          obtain ⟨S, hS⟩ : ∃ S : ByteArray, S = ⟨M.toArray⟩ := ⟨_, rfl⟩
          have sc1 : ∀ w', Ext w13 w' → (convert 22 9 (.slice A14 n14 c14)).run Try.prog w' = .ok (.string S) w' := fun w' h => by rw [hS]; exact (HG.out.ext (F1.out.trans h)).str
          have sc2 : ∀ w', Ext w13 w' → (convert 22 9 (.slice A' N' c')).run Try.prog w' = .ok (.string S) w' := fun w' h => by rw [hS]; exact (RM.out.ext (X3.out.trans (E8.out.trans (E12.out.trans (F1.out.trans h))))).str
          have sc3 : ∀ w', Ext w13 w' → w'.cell? (a12.add k) = some (.slice A14 n14 c14) := fun w' h => (F1.out.trans h).cell' HK.out
          clear hS
          have wa := IntWalk.i64_in ((n2 : Int) + ((N' : Int) + 8)) (by omega)
          have wb := IntWalk.i64_in ((k : Int) + 1) (by omega)
          have t1 : (((k + 1 : Nat) : Int) == (k : Int) + 1) = true := by simp
          have j0 : (0 : Int) ≤ (k : Int) := by omega
          have j1 : (k : Int) < ((k + 1 : Nat) : Int) := by omega
          have j2 : (k : Int) < (k : Int) + 1 := by omega
          repeat first | ((with_reducible refine sched_free ?_ ?_ ?_ ?_ (fun wk k1 => ?_) ?_); rotate_left 2; (rfl); (first | exact want_none rfl | exact want_some rfl rfl rfl rfl); (go_simp; first | exact OkX.val | (rw [sc1 _ k1]; exact OkX.val) | (rw [sc2 _ k1]; exact OkX.val) | (rw [sc3 _ k1]; exact OkX.val)); simp only [Act.put, List.setIfInBounds_toArray, List.set_cons_zero, List.set_cons_succ]) | ((with_reducible refine sched_skip ?_ ?_ ?_ ?_); rotate_left; (rfl); (exact want_not rfl rfl rfl rfl rfl); simp only [Act.put, List.setIfInBounds_toArray, List.set_cons_zero, List.set_cons_succ])
          refine sched_done (fun wk k1 => ?_)
          go_wp2
          go_ret
          exact ⟨rfl, X3.out.trans (E8.out.trans (E12.out.trans (F1.out.trans k1)))⟩

theorem own : ownKnob Try.prog.godebug = none := by kernel_rfl
theorem laidOut : laidOutB Try.prog = true := by kernel_rfl
set_option maxRecDepth 100000 in
theorem lifted (os : Os) (started : os.Started) (H : Type) (enc : TypeId × Value → H) :
    ReturnsInHanded {} Try.checked os 7 .any (Rows.framesTornSpec.pre6 enc Try.prog Try.f7 Rows.framesTornRow.domain false) (Rows.framesTornSpec.post enc Try.prog Try.f7 false true false false) := by
  refine returnsInHanded_of_change (C := Try.checked) own started (by kernel_rfl) Try.func7
    (ChangeSpec.witness6 (enc := enc) (C := Try.checked) false ⟨#[], #[.slice none 0 0, .slice none 0 0, .int .i64 0], []⟩ 8 (by kernel_rfl) (by kernel_rfl) (by kernel_rfl) (by kernel_rfl)) ?_
  intro W base args ds gs before hval0 hW hcnd _
  have hval : ∀ (j : Nat) t v, Try.f7.params[j]? = some t → args[j]? = some v → Value.okWide Try.prog W .any base t v := hval0
  have hW' := hW
  obtain ⟨p, q, hA0, hV, rfl, hfz, hnd⟩ := hW
  have hA : DataW.TrodAll enc Try.prog W 0 (fun _ => true) true Try.f7.params.toList args.toList ds p := hA0
  rw [Try.params7] at hA hval
  obtain ⟨v0, vs0, d0, ds0, p0, q0, hargs, rfl, rfl, h0, r0⟩ := trodAll_cons hA
  obtain ⟨v1, vs1, d1, ds1, p1, q1, rfl, rfl, rfl, h1, r1⟩ := trodAll_cons r0
  obtain ⟨v2, vs2, d2, ds2, p2, q2, rfl, rfl, rfl, h2, r2⟩ := trodAll_cons r1
  obtain ⟨rfl, rfl, rfl⟩ := trodAll_nil r2
  obtain rfl : args = #[v0, v1, v2] := by cases args; simp_all
  obtain ⟨rfl, rfl⟩ := trodVars_none hV
  have hlt0 : ∀ x ∈ p0, x.block < W.heap.size := fun x hx => by simpa using hW'.lt x (by simp [hx])
  obtain ⟨l0, rd0, wf0⟩ := open_brows Try.underlying28 Try.underlying22 Try.underlying5 (by kernel_rfl) (by kernel_rfl) (hval 0 28 v0 rfl rfl) h0
  have hlt1 : ∀ x ∈ p1, x.block < W.heap.size := fun x hx => by simpa using hW'.lt x (by simp [hx])
  obtain ⟨l1, rd1⟩ := open_bytes Try.underlying22 Try.underlying5 (by kernel_rfl) (hval 1 22 v1 rfl rfl) h1
  obtain ⟨a2, rfl, rfl, rfl, w2⟩ := open_int Try.underlying3 (hval 2 3 v2 rfl rfl) h2
  clear hA0 hval0
  refine (walk W v0 l0 rd0 wf0 v1 l1 rd1 a2 w2).mono fun e W' ⟨he, bel⟩ => ?_
  subst he
  exact ⟨_, rfl, _, _, _, [], _, [], hW', trodAll_mk1 (shut_bool Try.underlying4 _), (trodAll_cons_mk (Below.trod laidOut (by kernel_rfl) (of_decide_eq_true (by kernel_rfl)) h0 bel hlt0) (trodAll_cons_mk (Below.trod laidOut (by kernel_rfl) (of_decide_eq_true (by kernel_rfl)) h1 bel hlt1) (trodAll_cons_mk (shut_int Try.underlying3 w2) trodAll_mk0))), rfl, bel.frame _, fun h => by cases h⟩

theorem over : Rows.framesTornRow.holds Try.pinned (OpenSpec.ofChange Rows.framesTornSpec) :=
  OpenClaim.holds_of_wide 7 Try.f7 rfl rfl rfl rfl rfl rfl rfl ⟨rfl, rfl, rfl, rfl, rfl⟩ rfl rfl rfl rfl rfl (by kernel_rfl) Try.func7 (by kernel_rfl)
    (of_decide_eq_true (by kernel_rfl)) (by unfold Func.isWrapper; first | (rw [if_pos (by decide +kernel)]; kernel_rfl) | (rw [if_neg (by decide +kernel)]; exact ⟨rfl, rfl⟩))
    (fun os started H enc _ => lifted os started H enc)

theorem proved : Rows.FramesTornSaid := over
#print axioms proved
end Go.Proofs.Ytcofjimjbobdgaa.FramesTorn
