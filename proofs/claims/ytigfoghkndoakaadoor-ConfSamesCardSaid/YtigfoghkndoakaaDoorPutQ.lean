/- dispatchlaw5.put. -/
import Derived.Test.YtigfoghkndoakaaDoorMakeP
import Derived.Test.YtigfoghkndoakaaDoorBlk0
import Derived.Test.YtigfoghkndoakaaDoorSched
import Derived.Deep.CutRange
import Derived.Deep.DeepCutAuto
import Derived.Deep.CutBlock
import Derived.Laws.Cover1
namespace Go.Proofs.YtigfoghkndoakaaDoor
open Go.RowKit

theorem lessQ : ∀ a b : Tx, Op.bytesLess a b = lt8 a b
  | [], [] => rfl
  | [], _ :: _ => rfl
  | _ :: _, [] => rfl
  | a :: p, b :: q => by
    simp only [Op.bytesLess, lt8]
    by_cases h1 : a < b
    · simp [h1]
    · by_cases h2 : b < a
      · have : a ≠ b := fun e => by subst e; exact h1 h2
        simp [h1, h2, this]
      · have : a = b := by
          simp only [UInt8.lt_iff_toNat_lt] at h1 h2
          exact UInt8.toNat.inj (by omega)
        subst this
        simp [h1, lessQ p q]
theorem sizeQ (w : World) : (sizeOf (Tryd.prog.elem 28)).run Tryd.prog w = .ok 3 w := by
  obtain ⟨i, hi, _, h1, _⟩ := info_parts Tryd.infoQ
  have he : Tryd.prog.elem 28 = 36 := by unfold Program.elem; rw [Tryd.underlying28]
  rw [he]
  simp [sizeOf, Sem.run, hi, h1]
  rfl
set_option maxRecDepth 100000 in
theorem slq_h (g n c k : Nat) (hk : k ≤ c) (W : World) (kl : IntKind) : (Instr.slice 28 (.slice (some ⟨g, 0, none⟩) n c) none (some (.int kl (k : Int))) none).run Tryd.prog W = .ok (.slice (some ⟨g, 0, none⟩) k c) W := by
  have := run_slice_h W 28 (some ⟨g, 0, none⟩) n c (P := Tryd.prog) Tryd.underlying28 kl k (by omega) (by omega)
  rw [this, sizeQ]
  have e : (if c = 0 then (some ⟨g, 0, none⟩ : Option Addr) else (some ⟨g, 0, none⟩ : Option Addr).map (·.add (0 * 3))) = some ⟨g, 0, none⟩ := by split <;> rfl
  simp only [Result.andThen, sliced, e, Int.toNat_natCast, Nat.sub_zero]
set_option maxRecDepth 100000 in
theorem slq_l (g n c k : Nat) (hk : k ≤ n) (W : World) (kl : IntKind) : (Instr.slice 28 (.slice (some ⟨g, 0, none⟩) n c) (some (.int kl (k : Int))) none none).run Tryd.prog W = .ok (.slice (some ⟨g, if c = k then 0 else k * 3, none⟩) (n - k) (c - k)) W := by
  have := run_slice_l W 28 (some ⟨g, 0, none⟩) n c (P := Tryd.prog) Tryd.underlying28 kl k (by omega) (by omega)
  rw [this, sizeQ]
  have e : (if c = k then (some ⟨g, 0, none⟩ : Option Addr) else (some ⟨g, 0, none⟩ : Option Addr).map (·.add (k * 3))) = some ⟨g, if c = k then 0 else k * 3, none⟩ := by
    split
    · rfl
    · simp only [Option.map_some, Addr.add]
      split
      · rename_i h0; rw [h0]
      · simp
  simp only [Result.andThen, sliced, e, Int.toNat_natCast]

set_option maxRecDepth 100000 in
set_option maxHeartbeats 3200000 in
theorem put_any (B : Nat) (vl : Value) (ds : List QD) (qs : List QC) (q : QC) (d : QD) (w : World) (h : OwnQs w B vl ds qs) (hq : OwnQ1 w B q d) (hf : ∀ g, cb q = some g → ∀ (i : Nat) (qi : QC), qs[i]? = some qi → cb qi ≠ some g) (hlen : ds.length ≤ 100) (hB : B ≤ w.heap.size) :
    Calls Tryd.prog 16 #[vl, .agg #[.string q.p, .slice q.A q.n q.c, .int .i64 q.u]] w fun e w' => ∃ v' qs', e = .returned v' ∧ OwnQs w' B v' (putD d ds) qs' ∧ (∀ qi ∈ qs', qi ∈ qs ∨ qi = q) ∧ Ext w w' := by
  obtain ⟨i0, hi, hz0, hz1, hz2⟩ := info_parts Tryd.infoQ
  obtain ⟨P, Aq, nq, cq, uq⟩ := q
  obtain ⟨A, c, rfl, hc1, hc2⟩ := own_shape h.row
  have HH := Lib.hid h
  have HQ := Lib.hid hq
  have HF := Lib.hid hf
  have HPP := Lib.hid (show P.data.toList = d.path from hq.1)
  obtain ⟨N, hN⟩ : ∃ N, N = ds.length := ⟨_, rfl⟩
  have HN := Lib.hid hN
  obtain ⟨K, hK⟩ : ∃ K, K = lead d.path ds := ⟨_, rfl⟩
  have HK := Lib.hid hK
  have hKN : K ≤ N := by rw [hK, hN]; exact lead_le _ _
  rw [← hN] at hc1 hlen ⊢
  -- the row's cells
  have hcell : (A = none ∧ N = 0 ∧ c = 0) ∨ ∃ g, A = some ⟨g, 0, none⟩ ∧ g < w.heap.size ∧ (∀ j u, (qcells qs)[j]? = some u → w.cell? ⟨g, j, none⟩ = some u) ∧ ∀ k (hk : k < ds.length), ∃ S : ByteArray, w.cell? ⟨g, k * 3, none⟩ = some (.string S) ∧ S.data.toList = ds[k].path := by
    rcases id h.row.2 with ⟨ev, h0⟩ | ⟨g, cap, cur, ev, hb, hg, _⟩
    · injection ev with e1 e2 e3
      exact .inl ⟨e1, by omega, e3⟩
    · injection ev with eA
      subst eA
      have hat := fun j u (hu : (qcells qs)[j]? = some u) => show w.cell? ⟨g, j, none⟩ = some u by
        rw [h.row.cellAt (g := g) j (by have := (List.getElem?_eq_some_iff.1 hu).1; rw [qcells_length, h.len] at this; exact this), hu]
      refine .inr ⟨g, rfl, (Array.getElem?_eq_some_iff.1 hg).1, hat, fun k hk => ?_⟩
      have hqk : qs[k]? = some (qs[k]'(by rw [h.len]; exact hk)) := List.getElem?_eq_getElem _
      exact ⟨_, hat _ _ (qcells_get' qs k _ hqk).1, (h.each k _ hk hqk).1⟩
  have HC := Lib.hid hcell
  clear hcell h hq hf hN hK
  go_enter Tryd.func16, Tryd.ntmps16
  obtain ⟨W0, hW0⟩ : ∃ W0, W0 = w.alloc (.cells #[.string P, .slice Aq nq cq, .int .i64 uq] 36) := ⟨_, rfl⟩
  have HX0 := Lib.hid (show Ext w W0 by rw [hW0]; exact ext_alloc _ _)
  have HB0 := Lib.hid (show W0.heap[w.heap.size]? = some (.cells #[.string P, .slice Aq nq cq, .int .i64 uq] 36 (0, 0)) by rw [hW0]; exact heap_alloc_new w _)
  go_upto_block 0 with fail
  rw [← hW0]
  clear hW0
  go_cut [5] from 7 to 22 (fun s5 wx => s5 = .int .i64 (K : Int) ∧ Ext W0 wx)
  case first =>
    go_wp2
    go_loopw [5] (fun i wr => ∃ k : Nat, i = .int .i64 k ∧ k ≤ K ∧ Ext W0 wr) (fun i _ => K - (intOf i).toNat)
    case atStart => exact ⟨0, rfl, by omega, Ext.refl _⟩
    case round =>
      obtain ⟨k, rfl, hk, hx⟩ := hrel
      have HX := Lib.hid hx
      clear hx
      have b0 := HX.out.cell (bcel HB0.out 0 (.string P) rfl)
      have k0 : (0 : Int) ≤ (k : Int) := by omega
      by_cases hkN : k < N
      · have i1 : (k : Int) < (N : Int) := by omega
        have i2 : decide ((k : Int) < (N : Int)) = true := by simpa using hkN
        obtain ⟨g, rfl, hg, hat, hpath⟩ := HC.out.resolve_left (fun e => by have := e.2.1; omega)
        have hkd : k < ds.length := by have := HN.out; omega
        obtain ⟨S, c1, hS⟩ := hpath k hkd
        have c1 := (HX0.out.trans HX.out).cell c1
        clear hat hpath hg
        cases hlt : lt8 ds[k].path d.path with
        | true =>
          have hb : Op.bytesLess S.toList P.toList = true := by rw [ByteArray.toList_eq, ByteArray.toList_eq, lessQ, hS, HPP.out]; exact hlt
          have HM := Lib.hid (show k + 1 ≤ K by rw [HK.out]; exact lead_more (by rw [← HK.out]; exact hk) hkd hlt)
          clear hlt hS
          go_wp2
          refine wp_region_sched Ext ext_way [(0, true), (1, true), (2, true), (3, true), (4, true), (5, true), (6, true), (7, true), (8, true), (9, true), (10, true), (11, true), (12, true), (13, true)] (by kernel_rfl) (by kernel_rfl) (fun _ _ _ _ _ h => h) ?_
          repeat first | ((with_reducible refine sched_free ?_ ?_ ?_ ?_ (fun wk k1 => ?_) ?_); rotate_left 2; (rfl); (first | exact want_none rfl | exact want_some rfl rfl rfl rfl); (go_simp; first | exact OkX.val | (have d0 := k1.cell b0; have d1 := k1.cell c1; go_simp; exact OkX.val)); simp only [Act.put, List.setIfInBounds_toArray, List.set_cons_zero, List.set_cons_succ]) | ((with_reducible refine sched_skip ?_ ?_ ?_ ?_); rotate_left; (rfl); (exact want_not rfl rfl rfl rfl rfl); simp only [Act.put, List.setIfInBounds_toArray, List.set_cons_zero, List.set_cons_succ])
          refine sched_done (fun wz k1 => ?_)
          have HZ := Lib.hid (HX.out.trans ((Ext.drew _).trans k1))
          clear k1
          go_wp2
          go_roundw
          case rel => exact ⟨k + 1, by simp, HM.out, HZ.out⟩
          case measure => have := HM.out; simp [intOf]; omega
        | false =>
          have hb : Op.bytesLess S.toList P.toList = false := by rw [ByteArray.toList_eq, ByteArray.toList_eq, lessQ, hS, HPP.out]; exact hlt
          have HM := Lib.hid (show K = k by rw [HK.out]; exact lead_stop (by rw [← HK.out]; exact hk) hkd hlt)
          clear hlt hS
          go_wp2
          refine wp_region_sched Ext ext_way [(0, true), (1, true), (2, true), (3, true), (4, true), (5, true), (6, true), (7, true), (8, true), (9, true), (10, true), (11, true), (12, true), (13, true)] (by kernel_rfl) (by kernel_rfl) (fun _ _ _ _ _ h => h) ?_
          repeat first | ((with_reducible refine sched_free ?_ ?_ ?_ ?_ (fun wk k1 => ?_) ?_); rotate_left 2; (rfl); (first | exact want_none rfl | exact want_some rfl rfl rfl rfl); (go_simp; first | exact OkX.val | (have d0 := k1.cell b0; have d1 := k1.cell c1; go_simp; exact OkX.val)); simp only [Act.put, List.setIfInBounds_toArray, List.set_cons_zero, List.set_cons_succ]) | ((with_reducible refine sched_skip ?_ ?_ ?_ ?_); rotate_left; (rfl); (exact want_not rfl rfl rfl rfl rfl); simp only [Act.put, List.setIfInBounds_toArray, List.set_cons_zero, List.set_cons_succ])
          refine sched_done (fun wz k1 => ?_)
          have HZ := Lib.hid (HX.out.trans ((Ext.drew _).trans k1))
          clear k1
          go_wp2
          go_meet
          case rel => exact ⟨by rw [HM.out], HZ.out⟩
      · have i1 : ¬ (k : Int) < (N : Int) := by omega
        have i2 : decide ((k : Int) < (N : Int)) = false := by simpa using hkN
        have HM := Lib.hid (show K = k by omega)
        go_wp2
        refine wp_region_sched Ext ext_way [(0, true), (1, true), (2, true), (3, true), (4, true), (5, true), (6, true), (7, true), (8, true), (9, true), (10, true), (11, true), (12, true), (13, true)] (by kernel_rfl) (by kernel_rfl) (fun _ _ _ _ _ h => h) ?_
        repeat first | ((with_reducible refine sched_free ?_ ?_ ?_ ?_ (fun wk k1 => ?_) ?_); rotate_left 2; (rfl); (first | exact want_none rfl | exact want_some rfl rfl rfl rfl); (go_simp; first | exact OkX.val); simp only [Act.put, List.setIfInBounds_toArray, List.set_cons_zero, List.set_cons_succ]) | ((with_reducible refine sched_skip ?_ ?_ ?_ ?_); rotate_left; (rfl); (exact want_not rfl rfl rfl rfl rfl); simp only [Act.put, List.setIfInBounds_toArray, List.set_cons_zero, List.set_cons_succ])
        refine sched_done (fun wz k1 => ?_)
        have HZ := Lib.hid (HX.out.trans ((Ext.drew _).trans k1))
        clear k1
        go_wp2
        go_meet
        case rel => exact ⟨by rw [HM.out], HZ.out⟩
  case rest =>
    obtain ⟨rfl, hx⟩ := hcut
    have HX := Lib.hid hx
    clear hx
    have hkd0 : K ≤ ds.length := by have := HN.out; omega
    go_upto_region 4 with fail
    go_cut [36] from 23 to 36 (fun s36 wx => s36 = .bool (isAt d.path ds K) ∧ Ext W0 wx)
    case first =>
      have b0 := HX.out.cell (bcel HB0.out 0 (.string P) rfl)
      have k0 : (0 : Int) ≤ (K : Int) := by omega
      by_cases hkN : K < N
      · have i1 : (K : Int) < (N : Int) := by omega
        have i2 : decide ((K : Int) < (N : Int)) = true := by simpa using hkN
        obtain ⟨g, rfl, hg, hat, hpath⟩ := HC.out.resolve_left (fun e => by have := e.2.1; omega)
        have hkd : K < ds.length := by have := HN.out; omega
        obtain ⟨S, c1, hS⟩ := hpath K hkd
        have c1 := (HX0.out.trans HX.out).cell c1
        obtain ⟨b, hb⟩ : ∃ b, b = isAt d.path ds K := ⟨_, rfl⟩
        have hbb : (S.toList == P.toList) = b := by
          rw [hb, isAt_eq hkd, Bool.eq_iff_iff]
          simp only [beq_iff_eq, decide_eq_true_eq]
          rw [ByteArray.toList_eq, ByteArray.toList_eq, hS, HPP.out]
        have HBB := Lib.hid hb
        clear hat hpath hg hS hb
        go_wp2
        refine wp_region_sched Ext ext_way [(0, true), (1, true), (2, true), (3, true), (4, true), (5, true), (6, true), (7, true), (8, true), (9, true), (10, true), (11, true), (12, true), (13, true)] (by kernel_rfl) (by kernel_rfl) (fun _ _ _ _ _ h => h) ?_
        repeat first | ((with_reducible refine sched_free ?_ ?_ ?_ ?_ (fun wk k1 => ?_) ?_); rotate_left 2; (rfl); (first | exact want_none rfl | exact want_some rfl rfl rfl rfl); (go_simp; first | exact OkX.val | (have d0 := k1.cell b0; have d1 := k1.cell c1; go_simp; exact OkX.val)); simp only [Act.put, List.setIfInBounds_toArray, List.set_cons_zero, List.set_cons_succ]) | ((with_reducible refine sched_skip ?_ ?_ ?_ ?_); rotate_left; (rfl); (exact want_not rfl rfl rfl rfl rfl); simp only [Act.put, List.setIfInBounds_toArray, List.set_cons_zero, List.set_cons_succ])
        refine sched_done (fun wz k1 => ?_)
        have HZ := Lib.hid (HX.out.trans ((Ext.drew _).trans k1))
        clear k1
        go_wp2
        go_meet
        case rel => exact ⟨by rw [← HBB.out], HZ.out⟩
      · have i1 : ¬ (K : Int) < (N : Int) := by omega
        have i2 : decide ((K : Int) < (N : Int)) = false := by simpa using hkN
        have HM := Lib.hid (show isAt d.path ds K = false by unfold isAt; rw [List.getElem?_eq_none (by have := HN.out; omega)])
        go_wp2
        refine wp_region_sched Ext ext_way [(0, true), (1, true), (2, true), (3, true), (4, true), (5, true), (6, true), (7, true), (8, true), (9, true), (10, true), (11, true), (12, true), (13, true)] (by kernel_rfl) (by kernel_rfl) (fun _ _ _ _ _ h => h) ?_
        repeat first | ((with_reducible refine sched_free ?_ ?_ ?_ ?_ (fun wk k1 => ?_) ?_); rotate_left 2; (rfl); (first | exact want_none rfl | exact want_some rfl rfl rfl rfl); (go_simp; first | exact OkX.val); simp only [Act.put, List.setIfInBounds_toArray, List.set_cons_zero, List.set_cons_succ]) | ((with_reducible refine sched_skip ?_ ?_ ?_ ?_); rotate_left; (rfl); (exact want_not rfl rfl rfl rfl rfl); simp only [Act.put, List.setIfInBounds_toArray, List.set_cons_zero, List.set_cons_succ])
        refine sched_done (fun wz k1 => ?_)
        have HZ := Lib.hid (HX.out.trans ((Ext.drew _).trans k1))
        clear k1
        go_wp2
        go_meet
        case rel => exact ⟨by rw [HM.out], HZ.out⟩
    case rest =>
      obtain ⟨rfl, hx⟩ := hcut
      have HX4 := Lib.hid (HX0.out.trans hx)
      have HB4 := Lib.hid (ext_blk hx HB0.out)
      clear hx HX HX0 HB0
      cases hat : isAt d.path ds K with
      | true =>
        have HP := Lib.hid (show putD d ds = ds by unfold putD; rw [← HK.out, hat]; rfl)
        clear hat
        go_wp2
        go_ret
        refine ⟨_, qs, rfl, ?_, fun qi hq => .inl hq, HX4.out⟩
        rw [HP.out, HN.out]
        exact HH.out.ext HX4.out
      | false =>
        have HP := Lib.hid (show putD d ds = ds.take K ++ d :: ds.drop K by unfold putD; rw [← HK.out, hat]; rfl)
        clear hat
        have HE := Lib.hid (show (wc.alloc (.cells #[] 36)).ownsRow wc.heap.size 36 3 (.slice (some ⟨wc.heap.size, 0, none⟩) 0 0) 0 [] from
          ⟨rfl, .inr ⟨wc.heap.size, 0, #[], rfl, Nat.le_refl _, heap_alloc_new wc _, Nat.le_refl _, by simp [maxLen], by simp, by simp⟩⟩)
        have HXE := Lib.hid (show Ext w (wc.alloc (.cells #[] 36)) from HX4.out.trans (ext_alloc _ _))
        have HBE := Lib.hid (show (wc.alloc (.cells #[] 36)).heap[w.heap.size]? = some (.cells #[.string P, .slice Aq nq cq, .int .i64 uq] 36 (0, 0)) from ext_blk (ext_alloc _ _) HB4.out)
        have hbl : w.heap.size < wc.heap.size := (Array.getElem?_eq_some_iff.1 HB4.out).1
        have hkc : K ≤ c := by omega
        rcases HC.out with ⟨rfl, hN0, rfl⟩ | ⟨g, rfl, hg, hat, _⟩
        · obtain rfl : K = 0 := by omega
          obtain rfl : N = 0 := hN0
          have hds : ds = [] := List.eq_nil_of_length_eq_zero HN.out.symm
          have hqs : qs = [] := List.eq_nil_of_length_eq_zero (by rw [HH.out.len]; exact HN.out.symm)
          go_upto_region 7 with fail
          have HN3 := Lib.hid (show ∀ j u, [Value.string P, .slice Aq nq cq, .int .i64 uq][j]? = some u → ((wc.alloc (.cells #[] 36)).alloc (.cells #[.string P, .slice Aq nq cq, .int .i64 uq] 36)).cell? ((⟨wc.heap.size + 1, 0, none⟩ : Addr).add j) = some u by
            have h := cell_three_new (wc.alloc (.cells #[] 36)) (.string P) (.slice Aq nq cq) (.int .i64 uq) 36
            rw [show (wc.alloc (.cells #[] 36)).heap.size = wc.heap.size + 1 by simp] at h
            exact h)
          have b0 := bcel HBE.out 0 (.string P) rfl
          have b1 := bcel HBE.out 1 (.slice Aq nq cq) rfl
          have b2 := bcel HBE.out 2 (.int .i64 uq) rfl
          go_wp2_with (at_builtin; go_loud (refine wpList_append_own_at _ rfl (.tmp 43) (.tmp 45) 28 rfl wc.heap.size 36 i0 _ 3 48 Tryd.underlying28 hi hz0 hz1 hz2 rfl (by decide) _ 0 [] rfl (HE.out.alloc _) ⟨wc.heap.size + 1, 0, none⟩ 1 1 [.string P, .slice Aq nq cq, .int .i64 uq] rfl rfl HN3.out one3 (by simp [maxLen]) (by omega) (by simp; omega) ?_))
          intro v2 w7 ho7 hg7 _ hat7
          have E7 := Lib.hid ((HXE.out.trans (ext_alloc _ (.cells #[.string P, .slice Aq nq cq, .int .i64 uq] 36))).trans' (grown_below hg7 (by have := HXE.out.size; simp; omega) (fun q e => by simp [Value.ownBlock] at e; omega)))
          obtain ⟨A7, c7, rfl, hc7, hm7⟩ := own_shape ho7
          have hA7 : ∃ g7, A7 = some ⟨g7, 0, none⟩ := by
            rcases ho7.2 with ⟨_, h0⟩ | ⟨g7, _, _, ev, _⟩
            · cases h0
            · injection ev with e1; exact ⟨g7, e1⟩
          obtain ⟨g7, rfl⟩ := hA7
          have hfin := HH.out.ins (k := 0) HQ.out HF.out E7.out (Nat.zero_le _) (v' := .slice (some ⟨g7, 0, none⟩) 1 c7) (by
            subst hds hqs
            refine ⟨ho7.1, ?_⟩
            rcases ho7.2 with hn | ⟨g', cap, cur, e1, hb, hr⟩
            · exact .inl hn
            · exact .inr ⟨g', cap, cur, e1, by omega, hr⟩)
          clear ho7 hg7 hat7 b0 b1 b2
          go_wp2
          go_ret
          refine ⟨.slice (some ⟨g7, 0, none⟩) 1 c7, qs.take 0 ++ ⟨P, Aq, nq, cq, uq⟩ :: qs.drop 0, rfl, ?_, ?_, E7.out⟩
          · rw [HP.out]; exact hfin
          · intro qi hq
            simp at hq
            rcases hq with hq | hq
            · exact .inr hq
            · exact .inl hq
        · have sh := fun (W : World) (kl : IntKind) => slq_h g N c K hkc W kl
          have HL := Lib.hid (HH.out.len)
          have HAT := Lib.hid hat
          have HT := Lib.hid (show ∀ (W : World), Ext w W → ∀ (j : Nat) (u : Value), (qcells (qs.take K))[j]? = some u → W.cell? ((⟨g, 0, none⟩ : Addr).add j) = some u from fun _ hx j u hu => by
            have hadd : (⟨g, 0, none⟩ : Addr).add j = ⟨g, j, none⟩ := by unfold Addr.add; split <;> simp_all
            rw [hadd]
            refine hx.cell (HAT.out j u ?_)
            rw [qcells_take, List.getElem?_take] at hu
            split at hu
            · exact hu
            · cases hu)
          have HTL := Lib.hid (show (qcells (qs.take K)).length = K * 3 by rw [qcells_length, List.length_take, HL.out]; omega)
          clear hat
          go_upto_region 6 with fail
          go_wp2_with (at_builtin; go_loud (refine wpList_append_own_at _ rfl (.tmp 38) (.tmp 41) 28 rfl wc.heap.size 36 i0 _ 3 48 Tryd.underlying28 hi hz0 hz1 hz2 rfl (by decide) _ 0 [] rfl HE.out ⟨g, 0, none⟩ K c (qcells (qs.take K)) rfl HTL.out (HT.out _ HXE.out) (qcells_one _) ?e3 ?e4 ?e5 ?_))
          case e3 => simp [maxLen]; omega
          case e4 => omega
          case e5 => simp
          intro v1 w6 ho6 hg6 _ hat6
          have HB6 := Lib.hid (bapp (Ext.refl _) hg6 HBE.out (fun e => by simp [Value.ownBlock] at e; omega))
          have E6 := Lib.hid (HXE.out.trans' (grown_below hg6 (by simp; omega) (fun q e => by simp [Value.ownBlock] at e; omega)))
          obtain ⟨A6, c6, rfl, hc6, hm6⟩ := own_shape ho6
          have HO6 := Lib.hid ho6
          have b0 := bcel HB6.out 0 (.string P) rfl
          have b1 := bcel HB6.out 1 (.slice Aq nq cq) rfl
          have b2 := bcel HB6.out 2 (.int .i64 uq) rfl
          have hs6 : wc.heap.size ≤ w6.heap.size := by have := hg6.size; simp at this; omega
          clear ho6 hg6 hat6 sh
          go_wp2_with (at_builtin; go_loud (refine wpList_append_own_at _ rfl (.tmp 43) (.tmp 45) 28 rfl wc.heap.size 36 i0 _ 3 48 Tryd.underlying28 hi hz0 hz1 hz2 rfl (by decide) _ K (qcells (qs.take K)) rfl (HO6.out.alloc _) ⟨_, 0, none⟩ 1 1 [.string P, .slice Aq nq cq, .int .i64 uq] rfl rfl (cell_three_new _ _ _ _ _) one3 ?e3 ?e4 ?e5 ?_))
          case e3 => simp [maxLen]; omega
          case e4 => omega
          case e5 => simp; omega
          intro v2 w7 ho7 hg7 _ hat7
          have E7 := Lib.hid ((E6.out.trans (ext_alloc w6 (.cells #[.string P, .slice Aq nq cq, .int .i64 uq] 36))).trans' (grown_below hg7 (by have := E6.out.size; simp; omega) (fun q e => by have := (HO6.out.lt q e).1; omega)))
          obtain ⟨A7, c7, rfl, hc7, hm7⟩ := own_shape ho7
          have HO7 := Lib.hid ho7
          have hs7 : wc.heap.size ≤ w7.heap.size := by have := hg7.size; simp at this; omega
          clear ho7 hg7 hat7 b0 b1 b2
          have sl := fun (W : World) (kl : IntKind) => slq_l g N c K hKN W kl
          obtain ⟨og, hog⟩ : ∃ og, og = if c = K then 0 else K * 3 := ⟨_, rfl⟩
          rw [← hog] at sl
          obtain ⟨M, hM⟩ : ∃ M, M = N - K := ⟨_, rfl⟩
          obtain ⟨c9, hc9⟩ : ∃ c9, c9 = c - K := ⟨_, rfl⟩
          rw [← hM, ← hc9] at sl
          have HD := Lib.hid (show ∀ (W : World), Ext w W → ∀ (j : Nat) (u : Value), (qcells (qs.drop K))[j]? = some u → W.cell? ((⟨g, og, none⟩ : Addr).add j) = some u from fun _ hx j u hu => by
            have hj := (List.getElem?_eq_some_iff.1 hu).1
            rw [qcells_length, List.length_drop, HL.out] at hj
            have ho : og = K * 3 := by rw [hog, if_neg (by have := HN.out; omega)]
            have hadd : (⟨g, og, none⟩ : Addr).add j = ⟨g, K * 3 + j, none⟩ := by
              rw [ho]; unfold Addr.add; split
              · rename_i h0; rw [h0]; rfl
              · rfl
            rw [hadd]
            refine hx.cell (HAT.out _ u ?_)
            rw [qcells_drop, List.getElem?_drop] at hu
            exact hu)
          have HDL := Lib.hid (show (qcells (qs.drop K)).length = M * 3 by rw [qcells_length, List.length_drop, HL.out, hM, HN.out])
          have HM := Lib.hid hM
          have hM1 : M ≤ 100 := by omega
          clear hog hM hc9
          go_wp2_with (at_builtin; go_loud (refine wpList_append_own_at _ rfl (.tmp 47) (.tmp 50) 28 rfl wc.heap.size 36 i0 _ 3 48 Tryd.underlying28 hi hz0 hz1 hz2 rfl (by decide) _ (K + 1) _ rfl HO7.out ⟨g, og, none⟩ M c9 (qcells (qs.drop K)) rfl HDL.out (HD.out _ E7.out) (qcells_one _) ?e3 ?e4 ?e5 ?_))
          case e3 => simp [maxLen]; omega
          case e4 => omega
          case e5 => omega
          intro v3 w8 ho8 hg8 _ hat8
          have E8 := Lib.hid (E7.out.trans' (grown_below hg8 (by have := E7.out.size; omega) (fun q e => by have := (HO7.out.lt q e).1; omega)))
          obtain ⟨A8, c8, rfl, hc8, hm8⟩ := own_shape ho8
          have hfin := HH.out.ins HQ.out HF.out E8.out hkd0 (v' := .slice A8 (K + 1 + M) c8) (by
            rw [qcells_ins, show ds.length + 1 = K + 1 + M by have := HM.out; have := HN.out; omega, show qcells (qs.take K) ++ qenc ⟨P, Aq, nq, cq, uq⟩ ++ qcells (qs.drop K) = qcells (qs.take K) ++ Value.string P :: Value.slice Aq nq cq :: Value.int IntKind.i64 uq :: qcells (qs.drop K) by simp [qenc]]
            refine ⟨ho8.1, ?_⟩
            rcases ho8.2 with hn | ⟨g', cap, cur, e1, hb, hr⟩
            · exact .inl hn
            · exact .inr ⟨g', cap, cur, e1, by omega, hr⟩)
          clear ho8 hg8 hat8
          go_wp2
          go_ret
          refine ⟨.slice A8 (K + 1 + M) c8, qs.take K ++ ⟨P, Aq, nq, cq, uq⟩ :: qs.drop K, rfl, ?_, ?_, E8.out⟩
          · rw [HP.out]; exact hfin
          · intro qi hq
            rcases List.mem_append.1 hq with hq | hq
            · exact .inl (List.mem_of_mem_take hq)
            · rcases List.mem_cons.1 hq with hq | hq
              · exact .inr hq
              · exact .inl (List.mem_of_mem_drop hq)
end Go.Proofs.YtigfoghkndoakaaDoor
