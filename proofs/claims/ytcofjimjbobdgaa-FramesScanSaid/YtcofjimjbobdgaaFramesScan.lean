/- The law FramesScan holds at every input: any bytes, and any log with some of its bytes turned, or cut off, are taken to records as the document says. No condition. -/
import Derived.Test.YtcofjimjbobdgaaFrmU
import Derived.JoinedOf
import Derived.Deep.DeepCutAuto
import Derived.Deep.CutBlock
import Derived.JoinedAt
import Derived.RowKit3
import Derived.Lib.SmallJoins
namespace Go.Proofs.Ytcofjimjbobdgaa.FramesScan
open Go.ChangeShapes Go.WideShapes Go.ChangeAt Go.RowKit Go.Joins

/-- The three of them, in a block of their own. -/
theorem three {w : World} (w11 : World) (_ : Ext w w11) {u0 u1 u2 : Value} {l0 l1 l2 : List UInt8} (h0 : Rd w11 u0 (bvs l0)) (h1 : Rd w11 u1 (bvs l1)) (h2 : Rd w11 u2 (bvs l2)) (b0 : l0.length ≤ 100000) (b1 : l1.length ≤ 100000) (b2 : l2.length ≤ 100000) (q : Nat) (hq : q < 3) :
    ∃ (A : Option Addr) (n c : Nat) (l : List UInt8), (w11.alloc (.cells #[u0, u1, u2] 22)).cell? ⟨w11.heap.size, q, none⟩ = some (.slice A n c) ∧ Rd (w11.alloc (.cells #[u0, u1, u2] 22)) (.slice A n c) (bvs l) ∧ l.length ≤ 100000 := by
  have hc : ∀ u, #[u0, u1, u2][q]? = some u → (w11.alloc (.cells #[u0, u1, u2] 22)).cell? ⟨w11.heap.size, q, none⟩ = some u := fun u hu => by
    rw [cell_of_row _ w11.heap.size q _ 22 (0, 0) (heap_alloc_new w11 _)]; exact hu
  have hx := ext_alloc w11 (.cells #[u0, u1, u2] 22)
  have : q = 0 ∨ q = 1 ∨ q = 2 := by omega
  rcases this with rfl | rfl | rfl
  · obtain ⟨A, n, c, rfl⟩ := Rd.shape h0
    exact ⟨A, n, c, l0, hc _ rfl, h0.ext hx, b0⟩
  · obtain ⟨A, n, c, rfl⟩ := Rd.shape h1
    exact ⟨A, n, c, l1, hc _ rfl, h1.ext hx, b1⟩
  · obtain ⟨A, n, c, rfl⟩ := Rd.shape h2
    exact ⟨A, n, c, l2, hc _ rfl, h2.ext hx, b2⟩

set_option maxRecDepth 100000 in
set_option maxHeartbeats 3200000 in
theorem walk (w : World) (v0 : Value) (rows : List Value) (r0 : Rd w v0 rows) (wf0 : ∀ u ∈ rows, ∃ l : List UInt8, Rd w u (bvs l)) (v1 : Value) (RAW : List UInt8) (r1 : Rd w v1 (bvs RAW))
    (v2 : Value) (ats : List Int) (r2 : Rd w v2 (ats.map (Value.int .i64))) (_ : ∀ z ∈ ats, (Lit.int .i64 z).wf = true) (v3 : Value) (BY : List UInt8) (r3 : Rd w v3 (bvs BY)) (n : Int) (_ : (Lit.int .i64 n).wf = true) :
    Calls Try.prog 8 #[v0, v1, v2, v3, .int .i64 n] w fun e w' => e = .returned (.bool true) ∧ Below w.heap.size w w' := by
  obtain ⟨i0, hi, hz0, hz1, hz2⟩ := info_parts Try.infoU8
  obtain ⟨ls, rl⟩ := rdR_of r0 wf0
  have RL := Lib.hid rl
  have RW := Lib.hid r1
  have RA := Lib.hid r2
  have RB := Lib.hid r3
  obtain ⟨A, N, c, rfl, hN, hc1, hc2, hcell⟩ := rl.open
  obtain ⟨A', N', c', rfl, hN', hc1', hc2', hcell'⟩ := r1.open
  obtain ⟨A3, N3, c3, rfl, hN3, hc13, hc23, hcell3⟩ := r3.open
  obtain ⟨A2, N2, c2, rfl, hN2, hc12, hc22, hcell2⟩ := ints_open r2
  have HC := Lib.hid hcell
  have HN := Lib.hid hN
  have HN' := Lib.hid hN'
  have HC3 := Lib.hid hcell3
  have HN3 := Lib.hid hN3
  have HC2 := Lib.hid hcell2
  have HN2 := Lib.hid hN2
  clear hcell hcell' rl r0 wf0 r1 hN hN' r2 r3 hcell2 hcell3 hN2 hN3
  go_enter Try.func8, Try.ntmps8
  go_wp2_with fail
  refine (known_any _).mono ?_
  rintro e w1 ⟨rfl, hx1⟩
  have X1 := Lib.hid (show Ext w w1 from hx1)
  clear hx1
  go_wp2
  go_loop [11] (fun i => ∃ k : Nat, k ≤ N ∧ i = .int .i64 k ∧ ∀ j (h : j < ls.length), j < k → ls[j].length ≤ 300) (fun i => N - (intOf i).toNat)
  case atStart => exact ⟨0, Nat.zero_le _, rfl, fun j h hj => absurd hj (by omega)⟩
  case round =>
    obtain ⟨k, hk, rfl, hall⟩ := hrel
    have HALL := Lib.hid hall
    clear hall
    by_cases hlt : k < N
    · obtain ⟨a, rfl, hb, hcs⟩ := HC.out (by omega)
      have hkl : k < ls.length := by have := HN.out; omega
      obtain ⟨u, h1, h2⟩ := hcs k hkl
      have h3 := X1.out.cell' h1
      obtain ⟨Au, nu, cu, rfl, hnu, _⟩ := h2.open
      have i0' : (0 : Int) ≤ (k : Int) := by omega
      have i1 : (k : Int) < (N : Int) := by omega
      clear hcs h1 h2
      by_cases hbig : (300 : Int) < (nu : Int)
      · clear hnu
        go_wp2
        go_ret
        exact ⟨rfl, X1.out⟩
      · have HNU := Lib.hid hnu
        have hnb : nu ≤ 300 := by omega
        clear hnu
        go_wp2
        go_round
        case rel => exact ⟨k + 1, by omega, by go_num, fun j h hj => by
          by_cases e : j < k
          · exact HALL.out j h e
          · obtain rfl : j = k := by omega
            have := HNU.out; omega⟩
        case measure => simp [intOf]; omega
    · obtain rfl : k = N := by omega
      have HSM := Lib.hid (show ∀ r ∈ ls, r.length ≤ 300 from fun r hr => by
        obtain ⟨j, hj, rfl⟩ := List.getElem_of_mem hr
        exact HALL.out j hj (by have := HN.out; omega))
      clear HALL
      by_cases hbr : (500 : Int) < (N' : Int)
      · go_wp2
        go_ret
        exact ⟨rfl, X1.out⟩
      · have hN'5 : N' ≤ 500 := by omega
        go_wp2_with fail
        (with_reducible refine (log_any _ ls _ (RL.out.ext X1.out) (fun r hr => by have := HSM.out r hr; omega)).mono ?_)
        rintro e w2 ⟨v2, rfl, ho2, hx2⟩
        have X2 := Lib.hid (X1.out.trans hx2)
        obtain ⟨Ab, nb, cb, rfl, hnb, _⟩ := (Rd.of_own ho2).open
        rw [logB_length] at hnb
        have hnbb : nb ≤ 3080 := by
          have h1 := bulk_small (ls.take 10) 300 (fun r hr => HSM.out r (List.mem_of_mem_take hr))
          rw [List.length_take] at h1
          have : min 10 ls.length * 308 ≤ 10 * 308 := Nat.mul_le_mul_right _ (Nat.min_le_left _ _)
          omega
        have HO2 := Lib.hid (show ∃ L : List UInt8, L.length = nb ∧ w2.ownsRow w.heap.size 5 1 (.slice Ab nb cb) nb (bvs L) from ⟨_, by rw [logB_length, hnb], by
          have h := ho2
          rw [logB_length, ← hnb] at h
          obtain ⟨h1, h2⟩ := h
          refine ⟨h1, ?_⟩
          rcases h2 with h0 | ⟨g, cap, cur, e1, hbg, hr⟩
          · exact .inl h0
          · exact .inr ⟨g, cap, cur, e1, Nat.le_trans X1.out.size hbg, hr⟩⟩)
        clear ho2 hx2 hnb
        go_upto_block 2 with fail
        go_cut [13] from 39 to 75 (fun s13 wx => (∃ L : List UInt8, L.length = nb ∧ wx.ownsRow w.heap.size 5 1 (.slice Ab nb cb) nb (bvs L)) ∧ Ext w wx)
        case first =>
         go_wp2_with fail
         go_loopw [13] (fun i wr => ∃ k : Nat, i = .int .i64 k ∧ k ≤ 3 ∧ (∃ L : List UInt8, L.length = nb ∧ wr.ownsRow w.heap.size 5 1 (.slice Ab nb cb) nb (bvs L)) ∧ Ext w wr) (fun i _ => 3 - (intOf i).toNat)
         case atStart => exact ⟨0, rfl, by omega, HO2.out, X2.out⟩
         case round =>
           obtain ⟨j, rfl, hj3, ⟨L, hL, ho⟩, hx⟩ := hrel
           have HX := Lib.hid hx
           have HO := Lib.hid ho
           have HL := Lib.hid hL
           clear hx ho hL HO2
           by_cases hall : j < N2 ∧ j < N3 ∧ j < 3 ∧ 0 < nb
           · obtain ⟨l1, l2, l3, l4⟩ := hall
             obtain ⟨aa, rfl, hab, hacs⟩ := HC2.out (by omega)
             obtain ⟨ab, rfl, hbb, hbcs⟩ := HC3.out (by omega)
             have ga := fun wk (h : Ext w wk) => h.cell' (hacs j (by have := HN2.out; omega))
             have gb := fun wk (h : Ext w wk) => h.cell' (hbcs j (by have := HN3.out; omega))
             generalize ats[j]'(by have := HN2.out; omega) = za at *
             generalize BY[j]'(by have := HN3.out; omega) = zb at *
             obtain ⟨g, cap, hv, hgb, hgl⟩ := HO.out.form (by omega)
             injection hv with e1 _ e3
             subst e1 e3
             have GA := Lib.hid ga
             have GB := Lib.hid gb
             have m1 : (j : Int) < (N2 : Int) := by omega
             have m2 : (j : Int) < (N3 : Int) := by omega
             have m3 : (j : Int) < 3 := by omega
             have m4 : (0 : Int) < (nb : Int) := by omega
             have m5 : (0 : Int) ≤ (j : Int) := by omega
             clear hacs hbcs ga gb hab hbb
             go_wp2
             refine wp_region_sched (LB w.heap.size) (LB_way w.heap.size) [(0, true), (1, true), (2, true), (3, true), (4, true), (5, true), (6, true), (10, true), (11, true), (12, true), (13, true), (7, false), (8, true), (9, false), (14, true), (15, true), (16, false)] (by kernel_rfl) (by kernel_rfl) (fun _ _ _ _ _ h => h) ?_
             repeat first | ((with_reducible refine sched_free ?_ ?_ ?_ ?_ (fun wk k1 => ?_) ?_); rotate_left 2; (rfl); (first | exact want_none rfl | exact want_some rfl rfl rfl rfl); (go_simp; first | exact OkX.val | (rw [GA.out _ ((HX.out.trans (Ext.drew _)).trans' (k1 (by simpa using HX.out.size)))]; exact OkX.val) | (rw [GB.out _ ((HX.out.trans (Ext.drew _)).trans' (k1 (by simpa using HX.out.size)))]; exact OkX.val)); simp only [Act.put, List.setIfInBounds_toArray, List.set_cons_zero, List.set_cons_succ]) | ((with_reducible refine sched_skip ?_ ?_ ?_ ?_); rotate_left; (rfl); (exact want_not rfl rfl rfl rfl rfl); simp only [Act.put, List.setIfInBounds_toArray, List.set_cons_zero, List.set_cons_succ])
             ((with_reducible refine sched_step ?_ ?_ ?_ (fun wk k1 => ?_)); rotate_left; (rfl); (first | exact want_none rfl | exact want_some rfl rfl rfl rfl))
             have E0 := Lib.hid (HX.out.trans ((Ext.drew _).trans k1))
             have O0 := Lib.hid (own_Ext HO.out ((Ext.drew _).trans k1))
             clear k1
             go_simp
             (with_reducible refine (within_some za nb (nb : Int) _ rfl (by omega)).mono ?_)
             rintro e w' ⟨y, rfl, hy, rfl⟩
             refine ⟨LB.ext (Ext.refl _), ?_⟩
             try simp only [Act.put, List.setIfInBounds_toArray, List.set_cons_zero, List.set_cons_succ]
             have q0 : (0 : Int) ≤ (y : Int) := by omega
             have q1 : (y : Int) < (nb : Int) := by omega
             repeat first | ((with_reducible refine sched_free ?_ ?_ ?_ ?_ (fun wk k1 => ?_) ?_); rotate_left 2; (rfl); (first | exact want_none rfl | exact want_some rfl rfl rfl rfl); (go_simp; first | exact OkX.val); simp only [Act.put, List.setIfInBounds_toArray, List.set_cons_zero, List.set_cons_succ]) | ((with_reducible refine sched_skip ?_ ?_ ?_ ?_); rotate_left; (rfl); (exact want_not rfl rfl rfl rfl rfl); simp only [Act.put, List.setIfInBounds_toArray, List.set_cons_zero, List.set_cons_succ])
             ((with_reducible refine sched_step ?_ ?_ ?_ (fun wk k1 => ?_)); rotate_left; (rfl); (first | exact want_none rfl | exact want_some rfl rfl rfl rfl))
             have E1 := Lib.hid (E0.out.trans k1)
             have O1 := Lib.hid (own_Ext O0.out k1)
             have hyl : y < L.length := by rw [HL.out]; exact hy
             have c9 := own_cell O1.out y hyl
             generalize hly : L[y]'hyl = ly at *
             clear k1 E0 O0 hly
             go_simp
             refine ⟨LB.ext (Ext.refl _), ?_⟩
             try simp only [Act.put, List.setIfInBounds_toArray, List.set_cons_zero, List.set_cons_succ]
             clear c9
             repeat first | ((with_reducible refine sched_free ?_ ?_ ?_ ?_ (fun wk k1 => ?_) ?_); rotate_left 2; (rfl); (first | exact want_none rfl | exact want_some rfl rfl rfl rfl); (go_simp; first | exact OkX.val); simp only [Act.put, List.setIfInBounds_toArray, List.set_cons_zero, List.set_cons_succ]) | ((with_reducible refine sched_skip ?_ ?_ ?_ ?_); rotate_left; (rfl); (exact want_not rfl rfl rfl rfl rfl); simp only [Act.put, List.setIfInBounds_toArray, List.set_cons_zero, List.set_cons_succ])
             ((with_reducible refine sched_step ?_ ?_ ?_ (fun wk k1 => ?_)); rotate_left; (rfl); (first | exact want_none rfl | exact want_some rfl rfl rfl rfl))
             have E2 := Lib.hid (E1.out.trans k1)
             have O2 := Lib.hid (own_Ext O1.out k1)
             have c16 := own_cell O2.out y hyl
             have f16 := own_free O2.out y
             clear k1 E1 O1
             go_simp
             rw [IntKind.wrap_u8', byte_sum]
             refine ⟨LB.set hgb, ?_⟩
             have O3 := own_set O2.out y (bv (ly + zb))
             rw [bvs_set] at O3
             have O4 := Lib.hid O3
             have E3 := Lib.hid (show Ext w (wk.setCell ⟨g, y, none⟩ (.int .u8 ((ly + zb).toNat : Int))) from LB.from E2.out (LB.set hgb))
             clear O3 c16 f16 O2 E2
             try simp only [Act.put, List.setIfInBounds_toArray, List.set_cons_zero, List.set_cons_succ]
             refine sched_done (fun wk k1 => ?_)
             have E5 := Lib.hid (E3.out.trans k1)
             have O5 := Lib.hid (own_Ext O4.out k1)
             clear k1 E3 O4
             go_wp2
             go_roundw
             case rel => exact ⟨j + 1, by go_num, by omega, ⟨_, by rw [List.length_set]; exact HL.out, O5.out⟩, E5.out⟩
             case measure => simp [intOf]; omega
           · have hneg : (decide ((j : Int) < (N2 : Int)) && decide ((j : Int) < (N3 : Int)) && decide ((j : Int) < 3) && decide ((0 : Int) < (nb : Int))) = false := by
               rw [Bool.eq_false_iff]; intro e; simp at e; omega
             have HE2 := Lib.hid (show (∃ L : List UInt8, L.length = nb ∧ wr.ownsRow w.heap.size 5 1 (.slice Ab nb cb) nb (bvs L)) ∧ Ext w wr from ⟨⟨_, HL.out, HO.out⟩, HX.out⟩)
             go_wp2_with fail
             all_goals go_meet
             all_goals first | (case rel => exact HE2.out) | skip
        case rest =>
          obtain ⟨⟨L, hL, ho⟩, hx⟩ := hcut
          have HX := Lib.hid hx
          have HO := Lib.hid ho
          have HL := Lib.hid hL
          have RLB := Lib.hid (Rd.of_own ho)
          obtain ⟨Az, nz, cz, hvz, hzz, hncz, _⟩ := (Rd.of_own ho).open
          injection hvz with e1 e2 e3
          subst e1 e2 e3
          clear hx ho hL HO2 hzz
          go_upto_if 78 with fail
          go_cut [12] from 76 to 86 (fun s12 wx => ∃ (B : List UInt8) (A9 : Option Addr) (n9 c9 : Nat), s12 = .slice A9 n9 c9 ∧ Rd wx (.slice A9 n9 c9) (bvs B) ∧ B.length ≤ 3080 ∧ Ext w wx)
          case first =>
            by_cases h2 : (n.tmod 2 == 1) = true
            · go_wp2_with fail
              (with_reducible refine (within_some _ (nb + 1) ((nb : Int) + 1) _ (by omega) (by omega)).mono ?_)
              rintro e w' ⟨y, rfl, hy, rfl⟩
              have hsl : ∀ (W : World) (kh : IntKind), (Instr.slice 22 (.slice Ab nb cb) none (some (.int kh (y : Int))) none).run Try.prog W = .ok (.slice (subA Ab 0 cb) y cb) W := fun W kh => sl_h (A := Ab) (n := nb) (c := cb) (h := y) Try.underlying22 hi hz1 (by omega) W kh
              have HF := Lib.hid (show ∃ (B : List UInt8) (A9 : Option Addr) (n9 c9 : Nat), Value.slice (subA Ab 0 cb) y cb = .slice A9 n9 c9 ∧ Rd wc (.slice A9 n9 c9) (bvs B) ∧ B.length ≤ 3080 ∧ Ext w wc from
                ⟨L.take y, _, _, _, rfl, by have := RLB.out.sub0 (k := y) (by omega); rwa [bvs_take] at this, by rw [List.length_take, HL.out]; omega, HX.out⟩)
              go_wp2_with fail
              go_meet
              case rel => exact HF.out
            · have h2 : (n.tmod 2 == 1) = false := by simpa using h2
              have HF := Lib.hid (show ∃ (B : List UInt8) (A9 : Option Addr) (n9 c9 : Nat), Value.slice Ab nb cb = .slice A9 n9 c9 ∧ Rd wc (.slice A9 n9 c9) (bvs B) ∧ B.length ≤ 3080 ∧ Ext w wc from
                ⟨L, _, _, _, rfl, RLB.out, by rw [HL.out]; omega, HX.out⟩)
              go_wp2_with fail
              go_meet
              case rel => exact HF.out
          case rest =>
            obtain ⟨B, A9, n9, c9, rfl, hrb, hbl, hx⟩ := hcut
            have RB9 := Lib.hid hrb
            have X9 := Lib.hid hx
            have HB9 := Lib.hid hbl
            obtain ⟨A8, n8, c8, hv8, hn8, _⟩ := hrb.open
            injection hv8 with e1 e2 e3
            subst e1 e2 e3
            have HN9 := Lib.hid hn8
            have hn9b : n9 ≤ 3080 := by have := HN9.out; omega
            clear hrb hx hbl HX HO HL RLB hn8
            have HO0 := Lib.hid (own_empty wc wc.heap.size (Nat.le_refl _))
            have HS := Lib.hid ((RB9.out.ext (ext_alloc wc (.cells #[] 5))).src bvs_one Try.underlying22)
            rw [bvs_length, ← HN9.out] at HS
            go_wp2_with (at_builtin; refine wpList_app_src _ rfl (.tmp 88) (.tmp 89) 22 22 rfl wc.heap.size 5 i0 (.int .u8 0) 1 Try.underlying22 hi hz0 hz1 hz2 rfl _ 0 [] rfl HO0.out _ n9 (bvs B) rfl HS.out ?e3 ?e4 ?e5 ?_)
            case e3 => simp [maxLen]; omega
            case e4 => omega
            case e5 => simp
            intro v10 w10 ho10 hg10 _ _
            have E10 := Lib.hid ((ext_alloc wc (.cells #[] 5)).trans' (grown_below hg10 (by simp) (own_ge HO0.out (Nat.le_refl _))))
            have HO10 := Lib.hid ho10
            have HS2 := Lib.hid ((RW.out.ext (X9.out.trans E10.out)).src bvs_one Try.underlying22)
            rw [bvs_length, ← HN'.out] at HS2
            clear ho10 hg10 HO0 HS
            go_wp2_with (at_builtin; refine wpList_app_src _ rfl (.tmp 90) (.tmp 91) 22 22 rfl wc.heap.size 5 i0 (.int .u8 0) 1 Try.underlying22 hi hz0 hz1 hz2 rfl _ n9 _ rfl HO10.out _ N' (bvs RAW) rfl HS2.out ?f3 ?f4 ?f5 ?_)
            case f3 => simp [maxLen]; omega
            case f4 => omega
            case f5 => exact E10.out.size
            intro v11 w11 ho11 hg11 _ _
            have E11 := Lib.hid (E10.out.trans' (grown_below hg11 E10.out.size (own_ge HO10.out (Nat.le_refl _))))
            have R11 := Lib.hid (show Rd w11 v11 (bvs (B ++ RAW)) by rw [bvs_append]; exact Rd.of_own ho11)
            obtain ⟨A11, n11, c11, rfl⟩ := Rd.shape (Rd.of_own ho11)
            clear ho11 hg11 HS2 HO10 E10
            have HC14 := Lib.hid (fun (q : Nat) (hq : q < 3) => three w11 (X9.out.trans E11.out) (RB9.out.ext E11.out) R11.out (RW.out.ext (X9.out.trans E11.out)) (by have := HB9.out; omega) (by rw [List.length_append]; have := HB9.out; have := HN'.out; omega) (by have := HN'.out; omega) q hq)
            clear R11
            go_wp2
            obtain ⟨w14, hw14⟩ : ∃ W, W = w11.alloc (.cells #[.slice A9 n9 c9, .slice A11 n11 c11, .slice A' N' c'] 22) := ⟨_, rfl⟩
            have X14 := Lib.hid (hw14 ▸ X9.out.trans (E11.out.trans (ext_alloc w11 _)) : Ext w w14)
            have HD := HC14.out
            rw [← hw14] at HD ⊢
            have HD' := Lib.hid HD
            clear HD HC14 hw14
            go_loopw [15] (fun i wr => ∃ q : Nat, i = .int .i64 q ∧ q ≤ 3 ∧ Ext w14 wr) (fun i _ => 3 - (intOf i).toNat)
            case atStart => exact ⟨0, rfl, by omega, Ext.refl _⟩
            case round =>
              obtain ⟨q, rfl, hq3, hx⟩ := hrel
              have HX := Lib.hid hx
              clear hx
              by_cases hq : q < 3
              · obtain ⟨Aq, nq', cq, l, g1, g2, g3⟩ := HD'.out q hq
                have g4 := HX.out.cell' g1
                have RQ := Lib.hid (g2.ext HX.out)
                have HLQ := Lib.hid (show l.length ≤ 100000000 by omega)
                have CQ := Lib.hid g1
                clear g1 g2 g3
                have m0 : (0 : Int) ≤ (q : Int) := by omega
                have m1 : (q : Int) < 3 := by omega
                go_wp2_with fail
                (with_reducible refine (Scan_any _ l _ RQ.out HLQ.out).mono ?_)
                rintro e w15 ⟨A15, n15, c15, rfl, hr15, hx15⟩
                have g5 := (HX.out.trans hx15).cell' CQ.out
                have RQ2 := Lib.hid (RQ.out.ext hx15)
                have X15 := Lib.hid (HX.out.trans hx15)
                have R15 := Lib.hid hr15
                clear g4 hr15 hx15 RQ
                go_wp2_with fail
                (with_reducible refine (rScan_any _ l _ RQ2.out HLQ.out).mono ?_)
                rintro e w16 ⟨A16, n16, c16, rfl, hr16, hx16⟩
                have R15' := Lib.hid (R15.out.ext hx16)
                have X16 := Lib.hid (X15.out.trans hx16)
                have R16 := Lib.hid hr16
                clear g5 hr16 hx16 RQ2 R15 X15
                go_wp2_with fail
                (with_reducible refine (rows_any _ _ (scan l) (scan l) _ R15'.out R16.out).mono ?_)
                rw [decide_eq_true rfl]
                rintro e w17 ⟨rfl, hx17⟩
                have X17 := Lib.hid (X16.out.trans hx17)
                clear hx17 R15' R16 X16
                go_wp2
                go_roundw
                case rel => exact ⟨q + 1, by go_num, by omega, X17.out⟩
                case measure => simp [intOf]; omega
              · obtain rfl : q = 3 := by omega
                go_wp2
                go_ret
                exact ⟨rfl, X14.out.trans HX.out⟩

theorem own : ownKnob Try.prog.godebug = none := by kernel_rfl
theorem laidOut : laidOutB Try.prog = true := by kernel_rfl
set_option maxRecDepth 100000 in
theorem lifted (os : Os) (started : os.Started) (H : Type) (enc : TypeId × Value → H) :
    ReturnsInHanded {} Try.checked os 8 .any (Rows.framesScanSpec.pre6 enc Try.prog Try.f8 Rows.framesScanRow.domain false) (Rows.framesScanSpec.post enc Try.prog Try.f8 false true false false) := by
  refine returnsInHanded_of_change (C := Try.checked) own started (by kernel_rfl) Try.func8
    (ChangeSpec.witness6 (enc := enc) (C := Try.checked) false ⟨#[], #[.slice none 0 0, .slice none 0 0, .slice none 0 0, .slice none 0 0, .int .i64 0], []⟩ 8 (by kernel_rfl) (by kernel_rfl) (by kernel_rfl) (by kernel_rfl)) ?_
  intro W base args ds gs before hval0 hW hcnd _
  have hval : ∀ (j : Nat) t v, Try.f8.params[j]? = some t → args[j]? = some v → Value.okWide Try.prog W .any base t v := hval0
  have hW' := hW
  obtain ⟨p, q, hA0, hV, rfl, hfz, hnd⟩ := hW
  have hA : DataW.TrodAll enc Try.prog W 0 (fun _ => true) true Try.f8.params.toList args.toList ds p := hA0
  rw [Try.params8] at hA hval
  obtain ⟨v0, vs0, d0, ds0, p0, q0, hargs, rfl, rfl, h0, r0⟩ := trodAll_cons hA
  obtain ⟨v1, vs1, d1, ds1, p1, q1, rfl, rfl, rfl, h1, r1⟩ := trodAll_cons r0
  obtain ⟨v2, vs2, d2, ds2, p2, q2, rfl, rfl, rfl, h2, r2⟩ := trodAll_cons r1
  obtain ⟨v3, vs3, d3, ds3, p3, q3, rfl, rfl, rfl, h3, r3⟩ := trodAll_cons r2
  obtain ⟨v4, vs4, d4, ds4, p4, q4, rfl, rfl, rfl, h4, r4⟩ := trodAll_cons r3
  obtain ⟨rfl, rfl, rfl⟩ := trodAll_nil r4
  obtain rfl : args = #[v0, v1, v2, v3, v4] := by cases args; simp_all
  obtain ⟨rfl, rfl⟩ := trodVars_none hV
  have hlt0 : ∀ x ∈ p0, x.block < W.heap.size := fun x hx => by simpa using hW'.lt x (by simp [hx])
  obtain ⟨l0, rd0, wf0⟩ := open_brows Try.underlying28 Try.underlying22 Try.underlying5 (by kernel_rfl) (by kernel_rfl) (hval 0 28 v0 rfl rfl) h0
  have hlt1 : ∀ x ∈ p1, x.block < W.heap.size := fun x hx => by simpa using hW'.lt x (by simp [hx])
  obtain ⟨l1, rd1⟩ := open_bytes Try.underlying22 Try.underlying5 (by kernel_rfl) (hval 1 22 v1 rfl rfl) h1
  have hlt2 : ∀ x ∈ p2, x.block < W.heap.size := fun x hx => by simpa using hW'.lt x (by simp [hx])
  obtain ⟨l2, rd2, wf2⟩ := open_rd Try.underlying38 Try.underlying3 (by kernel_rfl) (hval 2 38 v2 rfl rfl) h2
  have hlt3 : ∀ x ∈ p3, x.block < W.heap.size := fun x hx => by simpa using hW'.lt x (by simp [hx])
  obtain ⟨l3, rd3⟩ := open_bytes Try.underlying22 Try.underlying5 (by kernel_rfl) (hval 3 22 v3 rfl rfl) h3
  obtain ⟨a4, rfl, rfl, rfl, w4⟩ := open_int Try.underlying3 (hval 4 3 v4 rfl rfl) h4
  clear hA0 hval0
  refine (walk W v0 l0 rd0 wf0 v1 l1 rd1 v2 l2 rd2 wf2 v3 l3 rd3 a4 w4).mono fun e W' ⟨he, bel⟩ => ?_
  subst he
  exact ⟨_, rfl, _, _, _, [], _, [], hW', trodAll_mk1 (shut_bool Try.underlying4 _), (trodAll_cons_mk (Below.trod laidOut (by kernel_rfl) (of_decide_eq_true (by kernel_rfl)) h0 bel hlt0) (trodAll_cons_mk (Below.trod laidOut (by kernel_rfl) (of_decide_eq_true (by kernel_rfl)) h1 bel hlt1) (trodAll_cons_mk (Below.trod laidOut (by kernel_rfl) (of_decide_eq_true (by kernel_rfl)) h2 bel hlt2) (trodAll_cons_mk (Below.trod laidOut (by kernel_rfl) (of_decide_eq_true (by kernel_rfl)) h3 bel hlt3) (trodAll_cons_mk (shut_int Try.underlying3 w4) trodAll_mk0))))), rfl, bel.frame _, fun h => by cases h⟩

theorem over : Rows.framesScanRow.holds Try.pinned (OpenSpec.ofChange Rows.framesScanSpec) :=
  OpenClaim.holds_of_wide 8 Try.f8 rfl rfl rfl rfl rfl rfl rfl ⟨rfl, rfl, rfl, rfl, rfl⟩ rfl rfl rfl rfl rfl (by kernel_rfl) Try.func8 (by kernel_rfl)
    (of_decide_eq_true (by kernel_rfl)) (by unfold Func.isWrapper; first | (rw [if_pos (by decide +kernel)]; kernel_rfl) | (rw [if_neg (by decide +kernel)]; exact ⟨rfl, rfl⟩))
    (fun os started H enc _ => lifted os started H enc)

theorem proved : Rows.FramesScanSaid := over
#print axioms proved
end Go.Proofs.Ytcofjimjbobdgaa.FramesScan
