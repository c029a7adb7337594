/- slices.Equal at []api.Cap, walked: the premise EqCapOk of XSameQ, met. -/
import Derived.Test.YtigfoghkndoakaaDoorSameQ
import Derived.Test.YtigfoghkndoakaaDoorFoot
import Derived.Test.YtigfoghkndoakaaDoorSched2
namespace Go.Proofs.YtigfoghkndoakaaDoor
open Go.RowKit

theorem capCells_at : ∀ (cs : List (Int × Int)) (k : Nat) (h : k < cs.length), (capCells cs)[k * 2]? = some (.int .i64 cs[k].1) ∧ (capCells cs)[k * 2 + 1]? = some (.int .i64 cs[k].2)
  | p :: cs, 0, _ => ⟨rfl, rfl⟩
  | p :: cs, k + 1, h => by
    have := capCells_at cs k (by simpa using h)
    rw [show (k + 1) * 2 = k * 2 + 2 by omega]
    exact this
theorem ownCap_at {w : World} {B n : Nat} {v : Value} {cs : List (Int × Int)} (h : w.ownsRow B 38 2 v n (capCells cs)) (hn : n = cs.length) {k : Nat} (hk : k < cs.length) : ∃ (g c : Nat), v = .slice (some ⟨g, 0, none⟩) n c ∧ w.cell? ⟨g, k * 2, none⟩ = some (.int .i64 cs[k].1) ∧ w.cell? ⟨g, k * 2 + 1, none⟩ = some (.int .i64 cs[k].2) := by
  have s := h
  rcases h.2 with ⟨rfl, h0⟩ | ⟨g, cap, cur, rfl, hb, hg, hc, hm, _⟩
  · omega
  · have hat := fun j (hj : j < n * 2) => s.cellAt j hj
    obtain ⟨c1, c2⟩ := capCells_at cs k hk
    exact ⟨g, cap, rfl, by rw [hat _ (by omega)]; exact c1, by rw [hat _ (by omega)]; exact c2⟩

set_option maxRecDepth 100000 in
set_option maxHeartbeats 3200000 in
theorem eqCapOk : EqCapOk := by
  intro B1 B2 v1 v2 N M cs1 cs2 w hN hM h1 h2
  have hpost : ∃ b : Bool, b = decide (cs1 = cs2) := ⟨_, rfl⟩
  obtain ⟨b, hb0⟩ := hpost
  rw [← hb0]
  have hb : b = true ↔ cs1 = cs2 := by rw [hb0]; simp
  clear hb0
  show Calls Tryd.prog 38 #[v1, v2] w (SamePost b w)
  obtain ⟨A1, c1, rfl, hc1, hm1⟩ := own_shape h1
  obtain ⟨A2, c2, rfl, hc2, hm2⟩ := own_shape h2
  have HN := Lib.hid hN
  have HM := Lib.hid hM
  have H1 := Lib.hid h1
  have H2 := Lib.hid h2
  have HBB := Lib.hid hb
  clear hN hM h1 h2 hb
  go_enter Tryd.func38, Tryd.ntmps38
  by_cases hNM : N = M
  · subst hNM
    have hz : ((N : Int) != (N : Int)) = false := by simp
    go_wp2_with fail
    go_loopw [13] (fun i wr => ∃ k : Nat, i = .int .i64 k ∧ k ≤ N ∧ cs1.take k = cs2.take k ∧ Ext w wr) (fun i _ => N - (intOf i).toNat)
    case atStart => exact ⟨0, rfl, by omega, rfl, Ext.refl _⟩
    case round =>
      obtain ⟨k, rfl, hk, ht, hx⟩ := hrel
      have HT := Lib.hid ht
      have HX := Lib.hid hx
      have k0 : (0 : Int) ≤ (k : Int) := by omega
      clear ht hx
      by_cases hlt : k < N
      · have i1 : (k : Int) < (N : Int) := by omega
        have hk1 : k < cs1.length := by have := HN.out; omega
        have hk2 : k < cs2.length := by have := HM.out; omega
        obtain ⟨g1, cc1, e1, x0, x1⟩ := ownCap_at H1.out HN.out hk1
        obtain ⟨g2, cc2, e2, y0, y1⟩ := ownCap_at H2.out HM.out hk2
        simp only [Value.slice.injEq] at e1 e2
        obtain ⟨rfl, _, rfl⟩ := e1
        obtain ⟨rfl, _, rfl⟩ := e2
        obtain ⟨p1, hp1⟩ : ∃ d, d = cs1[k] := ⟨_, rfl⟩
        obtain ⟨p2, hp2⟩ : ∃ d, d = cs2[k] := ⟨_, rfl⟩
        rw [← hp1] at x0 x1
        rw [← hp2] at y0 y1
        have HD := Lib.hid (show (cs1.take (k + 1) = cs2.take (k + 1)) ↔ p1 = p2 by
          rw [List.take_succ_eq_append_getElem hk1, List.take_succ_eq_append_getElem hk2, HT.out, ← hp1, ← hp2]
          simp)
        clear hp1 hp2
        obtain ⟨a1, b1⟩ := p1
        obtain ⟨a2, b2⟩ := p2
        dsimp only at x0 x1 y0 y1
        have x0 := HX.out.cell x0
        have x1 := HX.out.cell x1
        have y0 := HX.out.cell y0
        have y1 := HX.out.cell y1
        have hcase : (a1 = a2 ∧ b1 = b2) ∨ (¬ a1 = a2) ∨ (a1 = a2 ∧ ¬ b1 = b2) := by
          by_cases h : a1 = a2
          · by_cases h' : b1 = b2
            · exact .inl ⟨h, h'⟩
            · exact .inr (.inr ⟨h, h'⟩)
          · exact .inr (.inl h)
        rcases hcase with ⟨rfl, rfl⟩ | hne
        · have HT2 := Lib.hid (HD.out.2 rfl)
          clear HD
          go_wp2
          refine wp_region_sched (FootL fun _ => False) (FootL_way _) [(0, true), (1, true), (2, true), (3, true), (4, true), (5, true), (6, true), (7, true), (8, true)] (by kernel_rfl) (by kernel_rfl) (fun _ _ _ _ _ h => h) ?_
          repeat first | ((with_reducible refine sched_free ?_ ?_ ?_ ?_ (fun wk k1 => ?_) ?_); rotate_left 2; (rfl); (first | exact want_none rfl | exact want_some rfl rfl rfl rfl); (go_simp; first | exact OkX.val | (have z0 := k1.cell x0 id; have z1 := k1.cell x1 id; have z2 := k1.cell y0 id; have z3 := k1.cell y1 id; go_simp; exact OkX.val) | (refine OkX.eqv OkX.ne2 ?_; exact rfl)); simp only [Act.put, List.setIfInBounds_toArray, List.set_cons_zero, List.set_cons_succ]) | ((with_reducible refine sched_skip ?_ ?_ ?_ ?_); rotate_left; (rfl); (exact want_not rfl rfl rfl rfl rfl); simp only [Act.put, List.setIfInBounds_toArray, List.set_cons_zero, List.set_cons_succ])
          refine sched_done (fun wz k1 => ?_)
          have X2 := Lib.hid (HX.out.trans ((Ext.drew _).trans k1))
          clear k1
          go_wp2
          go_roundw
          case rel => exact ⟨k + 1, by simp, by omega, HT2.out, X2.out⟩
          case measure => simp [intOf]; omega
        · have HBF := Lib.hid (show b = false by
            cases hb : b with
            | false => rfl
            | true =>
              exfalso
              have h := HD.out.1 (by rw [HBB.out.1 hb])
              simp only [Prod.mk.injEq] at h
              rcases hne with h1 | ⟨_, h1⟩
              · exact h1 h.1
              · exact h1 h.2)
          clear HD
          rcases hne with h1 | ⟨rfl, h1⟩
          all_goals (
            go_wp2
            refine wp_region_sched (FootL fun _ => False) (FootL_way _) [(0, true), (1, true), (2, true), (3, true), (4, true), (5, true), (6, true), (7, true), (8, true)] (by kernel_rfl) (by kernel_rfl) (fun _ _ _ _ _ h => h) ?_
            repeat first | ((with_reducible refine sched_free ?_ ?_ ?_ ?_ (fun wk k1 => ?_) ?_); rotate_left 2; (rfl); (first | exact want_none rfl | exact want_some rfl rfl rfl rfl); (go_simp; first | exact OkX.val | (have z0 := k1.cell x0 id; have z1 := k1.cell x1 id; have z2 := k1.cell y0 id; have z3 := k1.cell y1 id; go_simp; exact OkX.val) | (refine OkX.eqv OkX.ne2 ?_; exact rfl)); simp only [Act.put, List.setIfInBounds_toArray, List.set_cons_zero, List.set_cons_succ]) | ((with_reducible refine sched_skip ?_ ?_ ?_ ?_); rotate_left; (rfl); (exact want_not rfl rfl rfl rfl rfl); simp only [Act.put, List.setIfInBounds_toArray, List.set_cons_zero, List.set_cons_succ])
            refine sched_done (fun wz k1 => ?_)
            have X2 := Lib.hid (HX.out.trans ((Ext.drew _).trans k1))
            clear k1
            go_wp2
            go_ret
            exact ⟨by rw [HBF.out]; rfl, X2.out⟩)
      · obtain rfl : k = N := by omega
        have i1 : ¬ (k : Int) < (k : Int) := by omega
        have hbt : b = true := HBB.out.2 (by have h := HT.out; rwa [List.take_of_length_le (by have := HN.out; omega), List.take_of_length_le (by have := HM.out; omega)] at h)
        have HBT := Lib.hid hbt
        clear hbt
        go_wp2
        go_ret
        exact ⟨by rw [HBT.out]; rfl, HX.out⟩
  · have hz : ((N : Int) != (M : Int)) = true := by simp; omega
    have hz2 : ¬ (N : Int) = (M : Int) := by omega
    have hbf : b = false := by
      cases b with
      | false => rfl
      | true => exact absurd (congrArg List.length (HBB.out.1 rfl)) (by have := HN.out; have := HM.out; omega)
    have HBF := Lib.hid hbf
    clear hbf
    go_wp2
    go_ret
    exact ⟨by rw [HBF.out]; rfl, Ext.refl _⟩
end Go.Proofs.YtigfoghkndoakaaDoor
