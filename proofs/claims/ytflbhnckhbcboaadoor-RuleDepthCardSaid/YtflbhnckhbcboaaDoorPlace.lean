/- rule.checkPlace. -/
import Derived.Test.YtflbhnckhbcboaaDoorFirst
import Derived.Test.YtflbhnckhbcboaaDoorSched
import Derived.Test.YtflbhnckhbcboaaDoorOrd5
namespace Go.Proofs.YtflbhnckhbcboaaDoor
open Go.RowKit

theorem less8' : ∀ a b : Tx, Op.bytesLess a b = lt8 a b
  | [], [] => rfl
  | [], _ :: _ => rfl
  | _ :: _, [] => rfl
  | a :: p, b :: q => by
    simp only [Op.bytesLess, lt8]
    by_cases h1 : a < b
    · simp [h1]
    · by_cases h2 : b < a
      · have : a ≠ b := fun e => by subst e; exact h1 h2
        simp [h1, h2, this]
      · have : a = b := by
          simp only [UInt8.lt_iff_toNat_lt] at h1 h2
          exact UInt8.toNat.inj (by omega)
        subst this
        simp [h1, less8' p q]

/-- What is wrong with the path of queue i. -/
def placeC (ds : List QD) (i : Nat) (p : Tx) (p1 : Tx) : Int := if pathB p = false then 12 else if i = 0 then 0 else if lt8 p1 p = false then 7 else if hasB (above p) ds then 0 else 12

set_option maxRecDepth 100000 in
theorem checkPlace_any (ds : List QD) (vl vq : Value) (i : Nat) (p p1 : Tx) (w : World) (hq : QAt w vq ds) (hlen : ds.length ≤ 1000) (hps : ∀ q ∈ ds, q.path.length ≤ 1000000000) (hi : i < ds.length) (hpi : ds[i].path = p) (hp1 : 0 < i → ds[i - 1].path = p1)
    (hm : ∃ m, w.cell? ⟨0, 0, none⟩ = some (.int .i64 m)) :
    Calls Tryd.prog 39 #[.agg #[vl, vq], .int .i64 i] w fun e w' => e = .returned (.int .i64 (placeC ds i p p1)) ∧ Ext w w' := by
  obtain ⟨r, hr⟩ : ∃ r, r = placeC ds i p p1 := ⟨_, rfl⟩
  rw [← hr]
  have HR := Lib.hid hr
  have HQ := Lib.hid hq
  obtain ⟨A, N, c, rfl, hN, hc1, hc2, hcell⟩ := hq.open
  obtain ⟨g, rfl, hg, hqc⟩ := hcell (by omega)
  obtain ⟨P, Ac, cc, h1, h2, h3, h4, h5⟩ := (hqc i hi).ex
  have X0 := Lib.hid (show Ext w (w.alloc (.cells #[vl, .slice (some ⟨g, 0, none⟩) N c] 27)) from ext_alloc _ _)
  have b0 : (w.alloc (.cells #[vl, .slice (some ⟨g, 0, none⟩) N c] 27)).cell? ⟨w.heap.size, 0, none⟩ = some vl := by simp [go_sem]
  have b1 : (w.alloc (.cells #[vl, .slice (some ⟨g, 0, none⟩) N c] 27)).cell? ⟨w.heap.size, 1, none⟩ = some (.slice (some ⟨g, 0, none⟩) N c) := by simp [go_sem]
  have k0 := X0.out.cell h1
  have HPP := Lib.hid (show P.data.toList = p from h4.trans hpi)
  have HM := Lib.hid (show ∃ m, (w.alloc (.cells #[vl, .slice (some ⟨g, 0, none⟩) N c] 27)).cell? ⟨0, 0, none⟩ = some (.int .i64 m) by obtain ⟨m, h⟩ := hm; exact ⟨m, X0.out.cell h⟩)
  have hsz : P.size ≤ 1000000000 := by
    have := hps _ (List.getElem_mem hi)
    rw [← h4] at this
    simpa using this
  have i0 : (0 : Int) ≤ (i : Int) := by omega
  have i1 : (i : Int) < (N : Int) := by omega
  have hN1 : N ≤ 1000 := by omega
  have HQC := Lib.hid hqc
  have HN := Lib.hid hN
  clear h1 h2 h3 h4 h5 hpi hr hm hqc hcell hq hN
  go_enter Tryd.func39, Tryd.ntmps39
  go_wp2_with fail
  (with_reducible refine (isPath_any P _ hsz HM.out).mono ?_)
  rintro e w1 ⟨rfl, hx⟩
  have X1 := Lib.hid (X0.out.trans hx)
  have b0 := hx.cell b0
  have b1 := hx.cell b1
  have k0 := hx.cell k0
  clear hx
  cases hpath : pathB P.data.toList
  · have HF := Lib.hid (show r = 12 by rw [HR.out, placeC, ← HPP.out, if_pos hpath])
    clear hpath
    go_wp2
    go_ret
    rw [HF.out]
    exact ⟨rfl, X1.out⟩
  · by_cases hz : i = 0
    · have HF := Lib.hid (show r = 0 by rw [HR.out, placeC, ← HPP.out, if_neg (by rw [hpath]; decide), if_pos hz])
      clear hpath
      subst hz
      go_wp2
      go_ret
      rw [HF.out]
      exact ⟨rfl, X1.out⟩
    · obtain ⟨j, rfl⟩ : ∃ j, i = j + 1 := ⟨i - 1, by omega⟩
      obtain ⟨P1, Ac1, cc1, h1, h2, h3, h4, h5⟩ := (HQC.out j (by omega)).ex
      have k1 := X1.out.cell h1
      have HP1 := Lib.hid (show P1.data.toList = p1 from h4.trans (hp1 (by omega)))
      clear h1 h2 h3 h4 h5 hp1
      have HPT := Lib.hid hpath
      have z1 : (((j : Int) + 1) == 0) = false := by simp; omega
      have z4 : (0 : Int) ≤ (j : Int) := by omega
      have z5 : (j : Int) < (N : Int) := by omega
      clear hpath hz
      by_cases hlt : lt8 p1 p = true
      · have bl : Op.bytesLess P.toList P1.toList = false := by
          rw [ByteArray.toList_eq, ByteArray.toList_eq, less8', HP1.out, HPP.out]
          cases h : lt8 p p1
          · rfl
          · have := lt8_trans _ _ _ hlt h
            rw [lt8_irrefl] at this
            exact this.symm
        have be : (P.toList == P1.toList) = false := by
          rw [beq_eq_false_iff_ne, ByteArray.toList_eq, ByteArray.toList_eq, HP1.out, HPP.out]
          rintro rfl
          rw [lt8_irrefl] at hlt
          cases hlt
        have HF := Lib.hid (show r = if hasB (above P.data.toList) ds then 0 else 12 by rw [HR.out, placeC, ← HPP.out, if_neg (by rw [HPT.out]; decide), if_neg (by omega), if_neg (by rw [HPP.out, hlt]; decide)])
        clear hlt
        have hs7 : P.size < 4611686018427387904 := by omega
        go_wp2
        refine wp_region_sched Ext ext_way [(0, true), (1, true), (2, false), (3, false), (4, true), (5, true)] (by kernel_rfl) (by kernel_rfl) (fun _ _ _ _ _ h => h) ?_
        repeat first | ((with_reducible refine sched_free ?_ ?_ ?_ ?_ (fun wk k1 => ?_) ?_); rotate_left 2; (rfl); (first | exact want_none rfl | exact want_some rfl rfl rfl rfl); (go_simp; first | exact OkX.val | (have c0' := k1.cell b0; have c1' := k1.cell b1; go_simp; exact OkX.val)); simp only [Act.put, List.setIfInBounds_toArray, List.set_cons_zero, List.set_cons_succ]) | ((with_reducible refine sched_skip ?_ ?_ ?_ ?_); rotate_left; (rfl); (exact want_not rfl rfl rfl rfl rfl); simp only [Act.put, List.setIfInBounds_toArray, List.set_cons_zero, List.set_cons_succ])
        ((with_reducible refine sched_step ?_ ?_ ?_ (fun wk k1 => ?_)); rotate_left; (rfl); (first | exact want_none rfl | exact want_some rfl rfl rfl rfl))
        have F0 := Lib.hid ((Ext.drew _).trans k1)
        clear k1
        go_simp
        (with_reducible refine (above_any P _ hs7).mono ?_)
        rintro e wa ⟨T, rfl, hT, hTs, rfl⟩
        refine ⟨Ext.refl _, ?_⟩
        try simp only [Act.put, List.setIfInBounds_toArray, List.set_cons_zero, List.set_cons_succ]
        have HT := Lib.hid hT
        clear hT hTs
        repeat first | ((with_reducible refine sched_free ?_ ?_ ?_ ?_ (fun wk k1 => ?_) ?_); rotate_left 2; (rfl); (first | exact want_none rfl | exact want_some rfl rfl rfl rfl); (go_simp; first | exact OkX.val); simp only [Act.put, List.setIfInBounds_toArray, List.set_cons_zero, List.set_cons_succ]) | ((with_reducible refine sched_skip ?_ ?_ ?_ ?_); rotate_left; (rfl); (exact want_not rfl rfl rfl rfl rfl); simp only [Act.put, List.setIfInBounds_toArray, List.set_cons_zero, List.set_cons_succ])
        ((with_reducible refine sched_step ?_ ?_ ?_ (fun wk k1 => ?_)); rotate_left; (rfl); (first | exact want_none rfl | exact want_some rfl rfl rfl rfl))
        have F1 := Lib.hid (F0.out.trans k1)
        clear k1
        go_simp
        (with_reducible refine (index_any ds _ _ T _ (HQ.out.ext (X1.out.trans F1.out)) hlen).mono ?_)
        rintro e wb ⟨t, rfl, ht, hxb⟩
        refine ⟨hxb, ?_⟩
        try simp only [Act.put, List.setIfInBounds_toArray, List.set_cons_zero, List.set_cons_succ]
        have F2 := Lib.hid (F1.out.trans hxb)
        rw [HT.out] at ht
        have HTT := Lib.hid ht
        clear ht hxb
        by_cases hneg : t < 0
        · have HF2 := Lib.hid (show r = 12 by
            rw [HF.out]
            rcases HTT.out with ⟨_, h⟩ | ⟨k, h, e, _⟩
            · rw [has_no h]; rfl
            · omega)
          have hd : decide (t < 0) = true := by simpa using hneg
          repeat first | ((with_reducible refine sched_free ?_ ?_ ?_ ?_ (fun wk k1 => ?_) ?_); rotate_left 2; (rfl); (first | exact want_none rfl | exact want_some rfl rfl rfl rfl); (go_simp; first | exact OkX.val); simp only [Act.put, List.setIfInBounds_toArray, List.set_cons_zero, List.set_cons_succ]) | ((with_reducible refine sched_skip ?_ ?_ ?_ ?_); rotate_left; (rfl); (exact want_not rfl rfl rfl rfl rfl); simp only [Act.put, List.setIfInBounds_toArray, List.set_cons_zero, List.set_cons_succ])
          refine sched_done (fun wz k1 => ?_)
          have FZ := Lib.hid (X1.out.trans (F2.out.trans k1))
          clear k1
          go_wp2
          go_ret
          rw [HF2.out]
          exact ⟨rfl, FZ.out⟩
        · have HF2 := Lib.hid (show r = 0 by
            rw [HF.out]
            rcases HTT.out with ⟨e, _⟩ | ⟨k, h, _, e⟩
            · omega
            · rw [has_yes h e]; rfl)
          have hd : decide (t < 0) = false := by simpa using hneg
          repeat first | ((with_reducible refine sched_free ?_ ?_ ?_ ?_ (fun wk k1 => ?_) ?_); rotate_left 2; (rfl); (first | exact want_none rfl | exact want_some rfl rfl rfl rfl); (go_simp; first | exact OkX.val); simp only [Act.put, List.setIfInBounds_toArray, List.set_cons_zero, List.set_cons_succ]) | ((with_reducible refine sched_skip ?_ ?_ ?_ ?_); rotate_left; (rfl); (exact want_not rfl rfl rfl rfl rfl); simp only [Act.put, List.setIfInBounds_toArray, List.set_cons_zero, List.set_cons_succ])
          refine sched_done (fun wz k1 => ?_)
          have FZ := Lib.hid (X1.out.trans (F2.out.trans k1))
          clear k1
          go_wp2
          go_ret
          rw [HF2.out]
          exact ⟨rfl, FZ.out⟩
      · have HF := Lib.hid (show r = 7 by rw [HR.out, placeC, ← HPP.out, if_neg (by rw [HPT.out]; decide), if_neg (by omega), if_pos (by rw [HPP.out]; simpa using hlt)])
        cases h : lt8 p p1
        · have e : p = p1 := lt8_tri _ _ h (by simpa using hlt)
          have be : (P.toList == P1.toList) = true := by
            rw [ByteArray.toList_eq, ByteArray.toList_eq, HP1.out, HPP.out, e]; simp
          clear hlt h e
          go_wp2
          go_ret
          rw [HF.out]
          exact ⟨rfl, X1.out⟩
        · have bl : Op.bytesLess P.toList P1.toList = true := by rw [ByteArray.toList_eq, ByteArray.toList_eq, less8', HP1.out, HPP.out]; exact h
          clear hlt h
          go_wp2
          go_ret
          rw [HF.out]
          exact ⟨rfl, X1.out⟩
end Go.Proofs.YtflbhnckhbcboaaDoor
