/- dispatchref9.Set, Take. -/
import Derived.Test.YtbocpkdnlpobkaaAkRP
import Derived.Test.YtbocpkdnlpobkaaAkT
namespace Go.Proofs.Ytbocpkdnlpobkaa
open Go.RowKit

theorem ext_app_own {w W w3 : World} {B e k n : Nat} {v : Value} {xs : List Value} {o : Obj} (hx : Ext w W) (hown : W.ownsRow B e k v n xs) (hB : w.heap.size ≤ B) (hg : (W.alloc o).grownBy w3 v.ownBlock) : Ext w w3 :=
  (FootL.of_grown (S := fun i => w.heap.size ≤ i) hg (fun k hk => by have := (hown.lt k hk).1; omega)).ext (hx.trans (ext_alloc _ _)) (fun i h => h)
theorem cell_eight_new (w : World) (d : AD) : ∀ j u, (aenc d)[j]? = some u → (w.alloc (.cells #[.int .i64 d.prio, .int .i64 d.label, .int .i64 d.mem, .int .i64 d.cores, .int .i64 d.count, .int .i64 d.node, .int .i64 d.rack, .int .i64 d.missed] 25)).cell? ((⟨w.heap.size, 0, none⟩ : Addr).add j) = some u := by
  intro j u hu
  rw [head_add, Nat.zero_add]
  exact bcel (heap_alloc_new w _) j u (by rw [← Array.getElem?_toList]; exact hu)

set_option maxRecDepth 100000 in
set_option maxHeartbeats 6400000 in
theorem rSet_any (ds : List AD) (v : Value) (a : AD) (w : World) (hn : HdA w v ds) (hlen : ds.length ≤ 1000) (hs : SrtA ds) :
    Calls Try.prog 15 #[v, askV a] w (TwoPost (setL ds a) (.int .i64 (setE ds a)) w) := by
  obtain ⟨c0, hc, hcz0, hcz1, hcz2⟩ := info_parts Try.infoAk
  have HES := Lib.hid (endS_is a ds hs)
  have HL1 := Lib.hid (show ¬ (setA ds a).length > 8 → setL ds a = setA ds a ∧ setE ds a = 0 from fun h => by unfold setL setE; rw [if_neg h, if_neg h]; exact ⟨rfl, rfl⟩)
  have HL2 := Lib.hid (show (setA ds a).length > 8 → setL ds a = [] ∧ setE ds a = 4 from fun h => by unfold setL setE; rw [if_pos h, if_pos h]; exact ⟨rfl, rfl⟩)
  obtain ⟨A, N, c, rfl, hN, hc1, hc2, hcell⟩ := hn.ask
  have HC := Lib.hid hcell
  have HN := Lib.hid hN
  have hN1 : N ≤ 1000 := by omega
  clear hcell hn hN hlen hs
  obtain ⟨SL, hSL⟩ : ∃ SL, SL = setL ds a := ⟨_, rfl⟩
  obtain ⟨SE, hSE⟩ : ∃ SE, SE = setE ds a := ⟨_, rfl⟩
  obtain ⟨SA, hSA⟩ : ∃ SA, SA = setA ds a := ⟨_, rfl⟩
  rw [← hSL, ← hSE, ← hSA] at HL1 HL2
  rw [← hSL, ← hSE]
  rw [← hSA] at HES
  clear hSL hSE hSA
  have HOL := Lib.hid (fun l => outS_len a l)
  have HSN := Lib.hid (fun l d => outS_snoc a l d)
  have HS0 := Lib.hid (show outS a [] = ([], a.count == 0) from rfl)
  have HSE := Lib.hid (show ∀ (o : List AD) (dn : Bool), outS a ds = (o, dn) → SA = if dn then o else o ++ [⟨a.prio, a.label, a.mem, a.cores, a.count, a.node, a.rack, 0⟩] from fun o dn h => by rw [← HES.out]; unfold endS; rw [h])
  have HT1 := Lib.hid (show ∀ (o : List AD) (d : AD), a.prio < d.prio → stepS a (o, false) d = (o ++ [⟨a.prio, a.label, a.mem, a.cores, a.count, a.node, a.rack, 0⟩] ++ [d], true) from fun o d h => by unfold stepS; simp [h]; intro e; omega)
  have HT2 := Lib.hid (show ∀ (o : List AD) (d : AD) (dn : Bool), (dn = true ∨ ¬ a.prio < d.prio) → d.prio ≠ a.prio → stepS a (o, dn) d = (o ++ [d], dn) from fun o d dn h h2 => by unfold stepS; rcases h with h | h <;> simp [h, h2])
  have HT3 := Lib.hid (show ∀ (o : List AD) (d : AD) (dn : Bool), d.prio = a.prio → stepS a (o, dn) d = (o, dn) from fun o d dn h2 => by unfold stepS; simp [h2])
  obtain ⟨OS, hOS⟩ : ∃ OS, OS = outS a := ⟨_, rfl⟩
  obtain ⟨ST, hST⟩ : ∃ ST, ST = stepS a := ⟨_, rfl⟩
  rw [← hST] at HT1 HT2 HT3
  rw [← hOS] at HOL HS0 HSE
  rw [← hOS, ← hST] at HSN
  clear hOS hST HES
  obtain ⟨ap, al, am, ac, an, ao, ar, ami⟩ := a
  simp only [askV] at HL1 HL2 HSE HT1 HT2 HT3 HS0 ⊢
  go_enter Try.func15, Try.ntmps15
  go_wp2
  refine at_world (fun W0 hW0 => ?_)
  have HB := Lib.hid (show W0.heap[w.heap.size]? = some (.cells #[.int .i64 ap, .int .i64 al, .int .i64 am, .int .i64 ac, .int .i64 an, .int .i64 ao, .int .i64 ar, .int .i64 0] 25 (0, 0)) by
    rw [hW0]
    first | exact heap_alloc_new w _ | (rw [bset (heap_alloc_new w _)]; rfl))
  have X0 := Lib.hid (show Ext w W0 by rw [hW0]; first | exact ext_set (ext_alloc _ _) (Nat.le_refl _) _ | exact ext_alloc _ _)
  obtain ⟨B, hB⟩ : ∃ B, B = w.heap.size := ⟨_, rfl⟩
  rw [← hB] at HB ⊢
  clear hW0 hB
  have HWZ := Lib.hid (show w.heap.size ≤ W0.heap.size from X0.out.size)
  go_loopw [6, 7, 8] (fun vo vd i wr => ∃ (k : Nat) (o : List AD) (dn : Bool), k ≤ N ∧ i = .int .i64 k ∧ vd = .bool dn ∧ OS (ds.take k) = (o, dn) ∧ wr.ownsRow W0.heap.size 25 8 vo o.length (acells o) ∧ Ext W0 wr) (fun _ _ i _ => N - (intOf i).toNat)
  case atStart => exact ⟨0, [], an == 0, by omega, rfl, rfl, by rw [List.take_zero]; exact HS0.out, World.ownsRow_nil _ _ _ 8, Ext.refl _⟩
  case round =>
    obtain ⟨k, o, dn, hkN, rfl, rfl, hos, hown, hx⟩ := hrel
    have HX := Lib.hid hx
    have HOS := Lib.hid hos
    have hol : o.length ≤ k + 1 := by have := (HOL.out (ds.take k)).1; rw [hos, List.length_take] at this; simp only at this; omega
    have hol2 : dn = false → o.length ≤ k := fun h => by have := (HOL.out (ds.take k)).2; rw [hos, List.length_take] at this; simp only at this; have := this h; omega
    obtain ⟨n, hn⟩ : ∃ n, n = o.length := ⟨_, rfl⟩
    rw [← hn] at hown hol hol2
    obtain ⟨Av, cv, rfl, hv1, hv2⟩ := own_shape hown
    have HO := Lib.hid hown
    have HNN := Lib.hid hn
    clear hx hos hown hn
    have k0 : (0 : Int) ≤ (k : Int) := by omega
    by_cases hlt : k < N
    · have k1 : (k : Int) < (N : Int) := by omega
      obtain ⟨g, rfl, _, hg⟩ := HC.out (by omega)
      have hkd : k < ds.length := by have := HN.out; omega
      have HQ := Lib.hid ((hg k hkd).ext X0.out)
      obtain ⟨d, hd⟩ : ∃ d, d = ds[k] := ⟨_, rfl⟩
      have HTK := Lib.hid (show OS (ds.take (k + 1)) = ST (o, dn) d by rw [hd, ← HOS.out, ← HSN.out, List.take_append_getElem hkd])
      rw [← hd] at HQ
      clear hd hg HOS
      obtain ⟨dp, dl, dm, dc, dnn, dno, dr, dmi⟩ := d
      obtain ⟨q0, q1, q2, q3, q4, q5, q6, q7⟩ := HQ.out.ext HX.out
      have hb := ext_blk HX.out HB.out
      have b0 := bcel hb 0 (.int .i64 ap) rfl
      have b1 := bcel hb 1 (.int .i64 al) rfl
      have b2 := bcel hb 2 (.int .i64 am) rfl
      have b3 := bcel hb 3 (.int .i64 ac) rfl
      have b4 := bcel hb 4 (.int .i64 an) rfl
      have b5 := bcel hb 5 (.int .i64 ao) rfl
      have b6 := bcel hb 6 (.int .i64 ar) rfl
      have b7 := bcel hb 7 (.int .i64 0) rfl
      clear hb
      simp only at q0 q1 q2 q3 q4 q5 q6 q7 HT1 HT2 HT3
      by_cases hA : dn = false ∧ ap < dp
      · obtain ⟨rfl, hA⟩ := hA
        have t1 : decide (ap < dp) = true := by simpa using hA
        have t2 : decide (dp > ap) = true := by simpa using hA
        have t3 : (dp != ap) = true := by simp; omega
        have HF := Lib.hid (HTK.out.trans (HT1.out o ⟨dp, dl, dm, dc, dnn, dno, dr, dmi⟩ hA))
        have hn1 : n ≤ 1000 := by have := hol2 rfl; omega
        clear hA HTK hol hol2
        go_wp2_with fail
        go_quiet (fail)
        have c0' := (ext_drewN wr nq).cell b0
        have c1' := (ext_drewN wr nq).cell b1
        have c2' := (ext_drewN wr nq).cell b2
        have c3' := (ext_drewN wr nq).cell b3
        have c4' := (ext_drewN wr nq).cell b4
        have c5' := (ext_drewN wr nq).cell b5
        have c6' := (ext_drewN wr nq).cell b6
        have c7' := (ext_drewN wr nq).cell b7
        have X1 := Lib.hid (HX.out.trans (ext_drewN wr nq))
        have HO1 := Lib.hid (own_ExtK HO.out (ext_drewN wr nq))
        generalize wr.drewN nq = W1 at X1 HO1 c0' c1' c2' c3' c4' c5' c6' c7' ⊢
        clear q0 q1 q2 q3 q4 q5 q6 q7 b0 b1 b2 b3 b4 b5 b6 b7
        go_wp2_with (at_builtin; go_loud (refine wpList_append_own_at _ rfl (.tmp 31) (.tmp 33) 33 rfl W0.heap.size 25 c0 _ 8 64 Try.underlying33 hc hcz0 hcz1 hcz2 rfl (by decide) _ n (acells o) rfl (HO1.out.alloc _) ⟨_, 0, none⟩ 1 1 (aenc ⟨ap, al, am, ac, an, ao, ar, 0⟩) rfl rfl (cell_eight_new W1 ⟨ap, al, am, ac, an, ao, ar, 0⟩) (aenc_one _) (by simp [maxLen]; omega) (by omega) (by have := X1.out.size; simp; omega) ?_))
        intro v' w3 ho3 hg3 _ hat3
        have X3 := Lib.hid (ext_app_own X1.out HO1.out (Nat.le_refl _) hg3)
        obtain ⟨A3, c3, rfl, hv3, hv4⟩ := own_shape ho3
        have HO3 := Lib.hid ho3
        clear ho3 hg3 hat3 c0' c1' c2' c3' c4' c5' c6' c7'
        obtain ⟨q0, q1, q2, q3, q4, q5, q6, q7⟩ := HQ.out.ext X3.out
        have b0 := bcel (ext_blk X3.out HB.out) 0 (.int .i64 ap) rfl
        simp only at q0 q1 q2 q3 q4 q5 q6 q7
        go_wp2_with fail
        go_quiet (fail)
        have c0' := (ext_drewN w3 nq).cell q0
        have c1' := (ext_drewN w3 nq).cell q1
        have c2' := (ext_drewN w3 nq).cell q2
        have c3' := (ext_drewN w3 nq).cell q3
        have c4' := (ext_drewN w3 nq).cell q4
        have c5' := (ext_drewN w3 nq).cell q5
        have c6' := (ext_drewN w3 nq).cell q6
        have c7' := (ext_drewN w3 nq).cell q7
        have X4 := Lib.hid (X3.out.trans (ext_drewN w3 nq))
        have HO4 := Lib.hid (own_ExtK HO3.out (ext_drewN w3 nq))
        generalize w3.drewN nq = W4 at X4 HO4 c0' c1' c2' c3' c4' c5' c6' c7' ⊢
        clear q0 q1 q2 q3 q4 q5 q6 q7 b0
        go_wp2_with (at_builtin; go_loud (refine wpList_append_own_at _ rfl (.tmp 43) (.tmp 48) 33 rfl W0.heap.size 25 c0 _ 8 64 Try.underlying33 hc hcz0 hcz1 hcz2 rfl (by decide) _ (n + 1) _ rfl (HO4.out.alloc _) ⟨_, 0, none⟩ 1 1 (aenc ⟨dp, dl, dm, dc, dnn, dno, dr, dmi⟩) rfl rfl (cell_eight_new W4 ⟨dp, dl, dm, dc, dnn, dno, dr, dmi⟩) (aenc_one _) (by simp [maxLen]; omega) (by omega) (by have := X4.out.size; simp; omega) ?_))
        intro v' w5 ho5 hg5 _ hat5
        have X5 := Lib.hid (ext_app_own X4.out HO4.out (Nat.le_refl _) hg5)
        obtain ⟨A5, c5, rfl, hv5, hv6⟩ := own_shape ho5
        have HO5 := Lib.hid ho5
        clear ho5 hg5 hat5
        go_wp2
        go_roundw
        case rel =>
          refine ⟨k + 1, _, _, by omega, by simp, rfl, HF.out, ?_, X5.out⟩
          have := HO5.out
          rw [List.length_append, List.length_append, List.length_singleton, List.length_singleton, ← HNN.out, acells_snoc, acells_snoc, List.append_assoc]
          exact this
        case measure => simp [intOf]; omega
      · have HA := Lib.hid (show dn = true ∨ ¬ ap < dp by
          cases dn
          · right; intro h; exact hA ⟨rfl, h⟩
          · left; rfl)
        clear hA
        have hn1 : n ≤ 1001 := by omega
        clear hol hol2
        have t0 : (dn = false → decide (ap < dp) = false ∧ decide (dp > ap) = false) := fun h => by
          rcases HA.out with h1 | h1
          · rw [h] at h1; cases h1
          · simp; omega
        cases dn
        case' false =>
          obtain ⟨t1, t2⟩ := t0 rfl
          go_wp2_with fail
          go_quiet (fail)
        case' true =>
          clear t0
          go_wp2_with fail
          go_quiet (fail)
        all_goals
          have c0' := (ext_drewN wr nq).cell q0
          have c1' := (ext_drewN wr nq).cell q1
          have c2' := (ext_drewN wr nq).cell q2
          have c3' := (ext_drewN wr nq).cell q3
          have c4' := (ext_drewN wr nq).cell q4
          have c5' := (ext_drewN wr nq).cell q5
          have c6' := (ext_drewN wr nq).cell q6
          have c7' := (ext_drewN wr nq).cell q7
          have e0' := (ext_drewN wr nq).cell b0
          have X1 := Lib.hid (HX.out.trans (ext_drewN wr nq))
          have HO1 := Lib.hid (own_ExtK HO.out (ext_drewN wr nq))
          generalize wr.drewN nq = W1 at X1 HO1 c0' c1' c2' c3' c4' c5' c6' c7' e0' ⊢
          clear q0 q1 q2 q3 q4 q5 q6 q7 b0 b1 b2 b3 b4 b5 b6 b7
          by_cases hE : dp = ap
          · have t3 : (dp != ap) = false := by simpa using hE
            have HF := Lib.hid (HTK.out.trans (HT3.out o ⟨dp, dl, dm, dc, dnn, dno, dr, dmi⟩ _ hE))
            clear hE
            go_wp2_with fail
            go_quiet (fail)
            have X4 := Lib.hid (X1.out.trans (ext_drewN W1 nq))
            have HO4 := Lib.hid (own_ExtK HO1.out (ext_drewN W1 nq))
            generalize W1.drewN nq = W4 at X4 HO4 ⊢
            go_wp2
            go_roundw
            case rel => exact ⟨k + 1, _, _, by omega, by simp, rfl, HF.out, by rw [← HNN.out]; exact HO4.out, X4.out⟩
            case measure => simp [intOf]; omega
          · have t3 : (dp != ap) = true := by simpa using hE
            have HF := Lib.hid (HTK.out.trans (HT2.out o ⟨dp, dl, dm, dc, dnn, dno, dr, dmi⟩ _ (by first | exact Or.inl rfl | exact HA.out) hE))
            clear hE
            go_wp2_with fail
            go_quiet (fail)
            have d0' := (ext_drewN W1 nq).cell c0'
            have d1' := (ext_drewN W1 nq).cell c1'
            have d2' := (ext_drewN W1 nq).cell c2'
            have d3' := (ext_drewN W1 nq).cell c3'
            have d4' := (ext_drewN W1 nq).cell c4'
            have d5' := (ext_drewN W1 nq).cell c5'
            have d6' := (ext_drewN W1 nq).cell c6'
            have d7' := (ext_drewN W1 nq).cell c7'
            have X4 := Lib.hid (X1.out.trans (ext_drewN W1 nq))
            have HO4 := Lib.hid (own_ExtK HO1.out (ext_drewN W1 nq))
            generalize W1.drewN nq = W4 at X4 HO4 d0' d1' d2' d3' d4' d5' d6' d7' ⊢
            clear c0' c1' c2' c3' c4' c5' c6' c7' e0'
            go_wp2_with (at_builtin; go_loud (refine wpList_append_own_at _ rfl (.tmp 43) (.tmp 48) 33 rfl W0.heap.size 25 c0 _ 8 64 Try.underlying33 hc hcz0 hcz1 hcz2 rfl (by decide) _ n _ rfl (HO4.out.alloc _) ⟨_, 0, none⟩ 1 1 (aenc ⟨dp, dl, dm, dc, dnn, dno, dr, dmi⟩) rfl rfl (cell_eight_new W4 ⟨dp, dl, dm, dc, dnn, dno, dr, dmi⟩) (aenc_one _) (by simp [maxLen]; omega) (by omega) (by have := X4.out.size; simp; omega) ?_))
            intro v' w5 ho5 hg5 _ hat5
            have X5 := Lib.hid (ext_app_own X4.out HO4.out (Nat.le_refl _) hg5)
            obtain ⟨A5, c5, rfl, hv5, hv6⟩ := own_shape ho5
            have HO5 := Lib.hid ho5
            clear ho5 hg5 hat5
            go_wp2
            go_roundw
            case rel =>
              refine ⟨k + 1, _, _, by omega, by simp, rfl, HF.out, ?_, X5.out⟩
              have := HO5.out
              rw [List.length_append, List.length_singleton, ← HNN.out, acells_snoc]
              exact this
            case measure => simp [intOf]; omega
    · obtain rfl : k = N := by omega
      have k1 : ¬ (k : Int) < (k : Int) := by omega
      have HF := Lib.hid (HSE.out o dn (by rw [← HOS.out, HN.out, List.take_length]))
      have hn1 : n ≤ 1001 := by omega
      have b0 := bcel (ext_blk HX.out HB.out) 0 (.int .i64 ap) rfl
      have b1 := bcel (ext_blk HX.out HB.out) 1 (.int .i64 al) rfl
      have b2 := bcel (ext_blk HX.out HB.out) 2 (.int .i64 am) rfl
      have b3 := bcel (ext_blk HX.out HB.out) 3 (.int .i64 ac) rfl
      have b4 := bcel (ext_blk HX.out HB.out) 4 (.int .i64 an) rfl
      have b5 := bcel (ext_blk HX.out HB.out) 5 (.int .i64 ao) rfl
      have b6 := bcel (ext_blk HX.out HB.out) 6 (.int .i64 ar) rfl
      have b7 := bcel (ext_blk HX.out HB.out) 7 (.int .i64 0) rfl
      clear hol hol2
      cases dn
      case false =>
        go_wp2_with (at_builtin; go_loud (refine wpList_append_own_at _ rfl (.tmp 52) (.tmp 54) 33 rfl W0.heap.size 25 c0 _ 8 64 Try.underlying33 hc hcz0 hcz1 hcz2 rfl (by decide) _ n _ rfl (HO.out.alloc _) ⟨_, 0, none⟩ 1 1 (aenc ⟨ap, al, am, ac, an, ao, ar, 0⟩) rfl rfl (cell_eight_new wr ⟨ap, al, am, ac, an, ao, ar, 0⟩) (aenc_one _) (by simp [maxLen]; omega) (by omega) (by have := HX.out.size; simp; omega) ?_))
        intro v' w5 ho5 hg5 _ hat5
        have X5 := Lib.hid (X0.out.trans (ext_app_own HX.out HO.out (Nat.le_refl _) hg5))
        obtain ⟨A5, c5, rfl, hv5, hv6⟩ := own_shape ho5
        have HO5 := Lib.hid (show w5.ownsRow w.heap.size 25 8 (.slice A5 (n + 1) c5) SA.length (acells SA) by
          rw [HF.out, if_neg (by simp), List.length_append, List.length_singleton, ← HNN.out, acells_snoc]
          exact own_lower ho5 HWZ.out)
        have HM := Lib.hid (show SA.length = n + 1 by rw [HF.out, if_neg (by simp), List.length_append, List.length_singleton, ← HNN.out])
        clear ho5 hg5 hat5 HF
        by_cases h : SA.length > 8
        · have t : decide ((8 : Int) < (n : Int) + 1) = true := by have := HM.out; simp; omega
          obtain ⟨e1, e2⟩ := HL2.out h
          have HE := Lib.hid (And.intro e1 e2)
          clear e1 e2
          go_wp2
          refine bodyPost_ret (by simp [results, Try.results15, go_sem]; try rfl) rfl ?_
          exact ⟨_, by rw [HE.out.2], by rw [HE.out.1]; exact World.ownsRow_nil w5 _ _ 8, X5.out⟩
        · have t : decide ((8 : Int) < (n : Int) + 1) = false := by have := HM.out; simp; omega
          obtain ⟨e1, e2⟩ := HL1.out h
          have HE := Lib.hid (And.intro e1 e2)
          clear e1 e2
          go_wp2
          refine bodyPost_ret (by simp [results, Try.results15, go_sem]; try rfl) rfl ?_
          exact ⟨_, by rw [HE.out.2], by rw [HE.out.1]; exact HO5.out, X5.out⟩
      case true =>
        have X5 := Lib.hid (X0.out.trans HX.out)
        have HO5 := Lib.hid (show wr.ownsRow w.heap.size 25 8 (.slice Av n cv) SA.length (acells SA) by
          rw [HF.out, if_pos rfl, ← HNN.out]
          exact own_lower HO.out HWZ.out)
        have HM := Lib.hid (show SA.length = n by rw [HF.out, if_pos rfl, ← HNN.out])
        clear HF
        by_cases h : SA.length > 8
        · have t : decide ((8 : Int) < (n : Int)) = true := by have := HM.out; simp; omega
          obtain ⟨e1, e2⟩ := HL2.out h
          have HE := Lib.hid (And.intro e1 e2)
          clear e1 e2
          go_wp2
          refine bodyPost_ret (by simp [results, Try.results15, go_sem]; try rfl) rfl ?_
          exact ⟨_, by rw [HE.out.2], by rw [HE.out.1]; exact World.ownsRow_nil wr _ _ 8, X5.out⟩
        · have t : decide ((8 : Int) < (n : Int)) = false := by have := HM.out; simp; omega
          obtain ⟨e1, e2⟩ := HL1.out h
          have HE := Lib.hid (And.intro e1 e2)
          clear e1 e2
          go_wp2
          refine bodyPost_ret (by simp [results, Try.results15, go_sem]; try rfl) rfl ?_
          exact ⟨_, by rw [HE.out.2], by rw [HE.out.1]; exact HO5.out, X5.out⟩
end Go.Proofs.Ytbocpkdnlpobkaa
