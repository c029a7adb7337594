/- dispatchlaw6.RuleKids: the walk. -/
import Derived.Test.YtgfmmgfjadckoaaDoorGood
import Derived.Test.YtgfmmgfjadckoaaDoorKidsL
import Derived.Laws.Concat
import Derived.Laws.Cover1
import Derived.ChangeSlices
import Derived.OpenShut
import Derived.ChangeOld
import Derived.ChangeSame
import Derived.ChangeMaps
import Derived.JoinedOf
import Derived.JoinedAt
import Derived.RowKit3
import Derived.Lib.SmallJoins
namespace Go.Proofs.YtgfmmgfjadckoaaDoor.RuleKids
open Go.ChangeShapes Go.WideShapes Go.ChangeAt Go.RowKit Go.Joins

theorem less8 : ∀ a b : Tx, Op.bytesLess a b = lt8 a b
  | [], [] => rfl
  | [], _ :: _ => rfl
  | _ :: _, [] => rfl
  | a :: p, b :: q => by
    simp only [Op.bytesLess, lt8]
    by_cases h1 : a < b
    · simp [h1]
    · by_cases h2 : b < a
      · have : a ≠ b := fun e => by subst e; exact h1 h2
        simp [h1, h2, this]
      · have : a = b := by
          simp only [UInt8.lt_iff_toNat_lt] at h1 h2
          exact UInt8.toNat.inj (by omega)
        subst this
        simp [h1, less8 p q]

set_option maxRecDepth 100000 in
set_option maxHeartbeats 6400000 in
theorem walk (w : World) (sh : Int) (_ : (Lit.int .i64 sh).wf = true) (v : Value) (xs : List Int) (r0 : Rd w v (xs.map (Value.int .i64))) (_ : ∀ z ∈ xs, (Lit.int .i64 z).wf = true) :
    Calls Tryd.prog 9 #[.int .i64 sh, v] w fun e w' => e = .returned (.bool true) ∧ Below w.heap.size w w' := by
  obtain ⟨A, N, c, rfl, hN, hc1, hc2, hcell⟩ := ints_open r0
  have HR0 := Lib.hid r0
  have HN := Lib.hid hN
  clear hcell hN r0
  go_enter Tryd.func9, Tryd.ntmps9
  go_wp2_with fail
  refine (known6_any _).mono ?_
  rintro e w1 ⟨rfl, hx1⟩
  have X1 := Lib.hid hx1
  clear hx1
  by_cases h30 : (30 : Int) < (N : Int)
  · go_wp2
    go_ret
    exact ⟨rfl, X1.out⟩
  have hx30 : xs.length ≤ 30 := by have := HN.out; omega
  go_wp2_with fail
  (with_reducible refine (Good_any sh _ xs _ (HR0.out.ext X1.out) hx30).mono ?_)
  rintro e w2 ⟨nl, hn1, hn2, vl, vq, ds, qs, B, rfl, hB, hlab, hOQ, hGI, hx2⟩
  have HGI := Lib.hid hGI
  have HX2 := Lib.hid (X1.out.trans hx2)
  have HQA := Lib.hid hOQ.rd
  obtain ⟨y, hy⟩ : ∃ y, y = (sh % 5).toNat := ⟨_, rfl⟩
  rw [← hy] at HGI
  obtain ⟨ps, hps⟩ : ∃ ps, ps = tree y := ⟨_, rfl⟩
  have HPS := Lib.hid hps
  have hgd : Gd nl ps ds := by rw [hps]; exact HGI.out.gd
  have HGD := Lib.hid hgd
  obtain ⟨Aq, NP, cq, rfl, hNP, hcq1, hcq2, hqc⟩ := hOQ.rd.open
  have HNP := Lib.hid (show NP = ps.length by rw [hNP]; exact hgd.len)
  have hNP7 : NP ≤ 7 := by rw [HNP.out, hps]; exact tree_len y
  have HND := Lib.hid hNP
  have HQC := Lib.hid hqc
  obtain ⟨Al, cl, rfl, _, _⟩ := own_shape hlab
  clear hx2 hGI hOQ hlab hy hps hgd hNP hqc hx30 h30 hB X1
  obtain ⟨W3, hW3⟩ : ∃ W3, W3 = w2.alloc (.cells #[.slice Al nl cl, .slice Aq NP cq] 25) := ⟨_, rfl⟩
  have HX3 := Lib.hid (show Ext w2 W3 by rw [hW3]; exact ext_alloc _ _)
  have HCB := Lib.hid (show W3.heap[w2.heap.size]? = some (.cells #[.slice Al nl cl, .slice Aq NP cq] 25 (0, 0)) by rw [hW3]; exact heap_alloc_new w2 _)
  have hp7 : ∀ q ∈ ds, q.path.length ≤ 1000000000 := fun q hq => by
    have h1 : q.path ∈ ps := by rw [← HGD.out.paths]; exact List.mem_map_of_mem hq
    rw [HPS.out] at h1
    have := tree_txt y _ h1
    omega
  have HP7 := Lib.hid hp7
  have hq7 : ds.length ≤ 1000 := by have := HND.out; omega
  clear hp7
  go_wp2
  rw [← hW3]
  clear hW3
  go_loopw [6, 7] (fun n i wr => ∃ (k cn : Nat), n = .int .i64 cn ∧ i = .int .i64 k ∧ k ≤ NP ∧ cn = kcount ps k ∧ Ext W3 wr) (fun _ i _ => NP - (intOf i).toNat)
  case atStart => exact ⟨0, 0, rfl, rfl, by omega, rfl, Ext.refl _⟩
  case round =>
    obtain ⟨k, cn, rfl, rfl, hk, hcn, hx⟩ := hrel
    have HX := Lib.hid hx
    have HCN := Lib.hid hcn
    have hcn49 : cn ≤ 49 := by rw [hcn, HPS.out]; exact kcount_le y k
    have r0 := hx.cell (blk_cell HCB.out 0 _ rfl)
    have r1 := hx.cell (blk_cell HCB.out 1 _ rfl)
    clear hx hcn
    have k0 : (0 : Int) ≤ (k : Int) := by omega
    by_cases hlt : k < NP
    · have k1' : (k : Int) < (NP : Int) := by omega
      have hkp : k < ps.length := by have := HNP.out; omega
      have hkd : k < ds.length := by have := HND.out; omega
      obtain ⟨g, rfl, hg, hqc⟩ := HQC.out (by omega)
      obtain ⟨P, Ac, cc, h1, _, _, h4, _⟩ := (hqc k hkd).ex
      have hPp : P.data.toList = ps[k] := by rw [h4]; exact HGD.out.path hkd hkp
      have HPP := Lib.hid hPp
      have p0 := (HX3.out.trans HX.out).cell h1
      clear h1 h4 hqc hPp
      go_wp2
      refine wp_region_sched Ext ext_way [(0, true), (1, true), (2, true), (3, true), (4, true), (5, true), (6, true), (7, false), (8, true)] (by kernel_rfl) (by kernel_rfl) (fun _ _ _ _ _ h => h) ?_
      repeat first | ((with_reducible refine sched_free ?_ ?_ ?_ ?_ (fun wk k1 => ?_) ?_); rotate_left 2; (rfl); (first | exact want_none rfl | exact want_some rfl rfl rfl rfl); (go_simp; first | exact OkX.val | (have c0' := k1.cell r0; have c1' := k1.cell r1; have c2' := k1.cell p0; go_simp; exact OkX.val)); simp only [Act.put, List.setIfInBounds_toArray, List.set_cons_zero, List.set_cons_succ]) | ((with_reducible refine sched_skip ?_ ?_ ?_ ?_); rotate_left; (rfl); (exact want_not rfl rfl rfl rfl rfl); simp only [Act.put, List.setIfInBounds_toArray, List.set_cons_zero, List.set_cons_succ])
      ((with_reducible refine sched_step ?_ ?_ ?_ (fun wk k1 => ?_)); rotate_left; (rfl); (first | exact want_none rfl | exact want_some rfl rfl rfl rfl))
      have F0 := Lib.hid ((Ext.drew _).trans k1)
      clear k1
      go_simp
      have hqq := HQA.out.ext (HX3.out.trans (HX.out.trans F0.out))
      (with_reducible refine (Kids_any ds _ _ P _ hqq hq7 HP7.out).mono ?_)
      rintro e wk2 ⟨Ak, nk, ck, rfl, hnk, hok, hxk⟩
      refine ⟨hxk, ?_⟩
      try simp only [Act.put, List.setIfInBounds_toArray, List.set_cons_zero, List.set_cons_succ]
      have F1 := Lib.hid (F0.out.trans hxk)
      obtain ⟨ks, hks⟩ : ∃ ks, ks = kidsT ps[k] ps := ⟨_, rfl⟩
      have hkse : kidsOf P.data.toList ds = ks := by rw [kidsOf_T, HPP.out, HGD.out.paths, hks]
      rw [hkse] at hok hnk
      have HOK := Lib.hid hok
      have hnk7 : nk ≤ 7 := by
        rw [hnk, hks]
        unfold kidsT
        have := List.length_filter_le (fun x => decide (ps[k] ≠ []) && decide (above x = ps[k])) ps
        have := HNP.out
        omega
      have HNK := Lib.hid hnk
      have HKS := Lib.hid hks
      have HKE := Lib.hid hkse
      clear hxk hok hnk hks hkse hqq
      repeat first | ((with_reducible refine sched_free ?_ ?_ ?_ ?_ (fun wk k1 => ?_) ?_); rotate_left 2; (rfl); (first | exact want_none rfl | exact want_some rfl rfl rfl rfl); (go_simp; first | exact OkX.val); simp only [Act.put, List.setIfInBounds_toArray, List.set_cons_zero, List.set_cons_succ]) | ((with_reducible refine sched_skip ?_ ?_ ?_ ?_); rotate_left; (rfl); (exact want_not rfl rfl rfl rfl rfl); simp only [Act.put, List.setIfInBounds_toArray, List.set_cons_zero, List.set_cons_succ])
      refine sched_done (fun wz k1 => ?_)
      have F2 := Lib.hid (F1.out.trans k1)
      have HOKz := Lib.hid (own_ExtK HOK.out k1)
      clear k1
      go_wp2
      go_loopw [9] (fun j wr => ∃ jj : Nat, j = .int .i64 jj ∧ jj ≤ nk ∧ Ext wz wr) (fun j _ => nk - (intOf j).toNat)
      case atStart => exact ⟨0, rfl, by omega, Ext.refl _⟩
      case round =>
        obtain ⟨jj, rfl, hjj, hxj⟩ := hrel
        have HXJ := Lib.hid hxj
        have HXK := Lib.hid (HX.out.trans (F2.out.trans hxj))
        have r0' := HXK.out.cell (blk_cell HCB.out 0 _ rfl)
        have r1' := HXK.out.cell (blk_cell HCB.out 1 _ rfl)
        have p0' := (F2.out.trans hxj).cell p0
        clear hxj
        by_cases hlj : jj < nk
        · have j1 : (jj : Int) < (nk : Int) := by omega
          have hjk : jj < ks.length := by have := HNK.out; omega
          obtain ⟨gk, rfl⟩ : ∃ gk, Ak = some ⟨gk, 0, none⟩ := by
            rcases HOKz.out.2 with ⟨_, h0⟩ | ⟨gk, _, _, e, _⟩
            · omega
            · injection e with e; exact ⟨gk, e⟩
          have kcs : ∀ m (hm : m < ks.length), wz.cell? ⟨gk, m, none⟩ = some (.string ⟨(ks[m]).toArray⟩) := fun m hm => by
            have h := HOKz.out.cellAt m (by have := HNK.out; omega)
            rw [List.getElem?_map, List.getElem?_eq_getElem hm] at h
            exact h
          have KCS := Lib.hid kcs
          have kc := HXJ.out.cell (kcs jj hjk)
          obtain ⟨Kb, hKb⟩ : ∃ Kb : ByteArray, Kb = ⟨(ks[jj]).toArray⟩ := ⟨_, rfl⟩
          rw [← hKb] at kc
          have hKl : Kb.data.toList = ks[jj] := by rw [hKb]
          have hmem : ks[jj] ∈ kidsT ps[k] ps := by rw [← HKS.out]; exact List.getElem_mem hjk
          obtain ⟨r, hr⟩ := kidsT_up hmem
          have HUP := Lib.hid hr
          have hKs : Kb.size ≤ 1000000000 := by
            have h1 : ks[jj] ∈ tree y := by rw [← HPS.out]; exact (List.mem_filter.1 hmem).1
            have := tree_txt y _ h1
            rw [ba_size, hKl]; omega
          have HKL := Lib.hid hKl
          have HKB := Lib.hid hKb
          clear kcs hKl hKb hmem hr r0'
          have j0 : (0 : Int) ≤ (jj : Int) := by omega
          go_wp2_with fail
          (with_reducible refine (Up_any Kb _ hKs).mono ?_)
          rintro e w5 ⟨Au, nu, cu, rfl, hnu, hou, hxu⟩
          rw [HKL.out, HUP.out] at hnu hou
          have hnu2 : ¬ (nu : Int) < 2 := by rw [hnu]; simp; omega
          have hnu3 : (1 : Int) < (nu : Int) := by omega
          have hnu4 : decide ((nu : Int) < 2) = false := by simp; omega
          obtain ⟨gu, rfl⟩ : ∃ gu, Au = some ⟨gu, 0, none⟩ := by
            rcases hou.2 with ⟨_, h0⟩ | ⟨gu, _, _, e, _⟩
            · simp at hnu; omega
            · injection e with e; exact ⟨gu, e⟩
          have uc0 := hou.cellAt 1 (by omega)
          have uc : w5.cell? ⟨gu, 1, none⟩ = some (.string P) := by
            rw [uc0]
            show some (sv ps[k]) = _
            rw [← HPP.out, sv_of]
          clear uc0
          obtain ⟨P', hP'⟩ : ∃ P' : ByteArray, P' = P := ⟨_, rfl⟩
          rw [← hP'] at uc
          have qp1 : (P'.toList != P.toList) = false := by rw [hP']; simp
          have qp2 : (P'.toList == P.toList) = true := by rw [hP']; simp
          clear hP'
          have r1u := hxu.cell r1'
          have p0u := hxu.cell p0'
          have KXU := Lib.hid (HXJ.out.trans hxu)
          clear hnu hou hxu r1' p0' kc
          rcases jj with _ | j'
          · go_wp2
            refine wp_region_sched Ext ext_way [(0, true), (1, true), (2, true), (3, true), (4, true), (5, true), (6, true), (7, true), (8, true), (9, true), (10, true), (11, true), (12, true), (13, true), (14, true), (15, true), (16, true), (17, true), (18, true), (19, true), (20, true), (21, true), (22, true), (23, true), (24, true), (25, true), (26, true), (27, true), (28, true), (29, true), (30, true)] (by kernel_rfl) (by kernel_rfl) (fun _ _ _ _ _ h => h) ?_
            repeat first | ((with_reducible refine sched_free ?_ ?_ ?_ ?_ (fun wk k1 => ?_) ?_); rotate_left 2; (rfl); (first | exact want_none rfl | exact want_some rfl rfl rfl rfl); (go_simp; first | exact OkX.val | (have c0' := k1.cell r1u; have c1' := k1.cell p0u; have c2' := k1.cell uc; go_simp; exact OkX.val)); simp only [Act.put, List.setIfInBounds_toArray, List.set_cons_zero, List.set_cons_succ]) | ((with_reducible refine sched_skip ?_ ?_ ?_ ?_); rotate_left; (rfl); (exact want_not rfl rfl rfl rfl rfl); simp only [Act.put, List.setIfInBounds_toArray, List.set_cons_zero, List.set_cons_succ])
            refine sched_done (fun wq k1 => ?_)
            have KXQ := Lib.hid (KXU.out.trans ((Ext.drew _).trans k1))
            clear k1
            go_wp2
            go_roundw
            case rel => exact ⟨1, rfl, by omega, KXQ.out⟩
            case measure => simp [intOf]; omega
          · have hj1 : j' < ks.length := by omega
            have ka := KXU.out.cell (KCS.out j' hj1)
            have kb := KXU.out.cell (KCS.out (j' + 1) hjk)
            obtain ⟨Ka, hKa⟩ : ∃ Ka : ByteArray, Ka = ⟨(ks[j']).toArray⟩ := ⟨_, rfl⟩
            rw [← hKa] at ka
            rw [← HKB.out] at kb
            have b1 : Op.bytesLess Ka.toList Kb.toList = true := by
              rw [ByteArray.toList_eq, ByteArray.toList_eq, less8, HKL.out, hKa]
              have hs : ks.Pairwise fun a b => lt8 a b = true := by
                rw [HKS.out]
                have h := fun p => kidsT_sorted y p
                rw [← HPS.out] at h
                exact h _
              exact List.pairwise_iff_getElem.1 hs j' (j' + 1) hj1 hjk (by omega)
            clear hKa
            rw [show ((j' + 1 : Nat) : Int) = (j' : Int) + 1 from by omega]
            have e1 : IntKind.i64.wrap ((j' : Int) + 1 - 1) = (j' : Int) := by rw [show (j' : Int) + 1 - 1 = (j' : Int) by omega]; exact IntWalk.i64_in _ (by omega)
            have e2 : IntKind.i64.wrap (j' : Int) = (j' : Int) := IntWalk.i64_in _ (by omega)
            have e3 : ((j' : Int) + 1).toNat = j' + 1 := by omega
            have e4 : (j' : Int).toNat = j' := by omega
            have kp : (0 : Int) < (j' : Int) + 1 := by omega
            have kq : (0 : Int) ≤ (j' : Int) + 1 := by omega
            have kd : decide ((0 : Int) < (j' : Int) + 1) = true := by rw [decide_eq_true_eq]; omega
            have kr : (j' : Int) + 1 < (nk : Int) := by omega
            have ks' : (j' : Int) < (nk : Int) := by omega
            have kt : (0 : Int) ≤ (j' : Int) := by omega
            have hnk' : (nk : Int) ≤ 7 := by omega
            clear HKB j0 j1
            go_wp2
            refine wp_region_sched Ext ext_way [(0, true), (1, true), (2, true), (3, true), (4, true), (5, true), (6, true), (7, true), (8, true), (9, true), (10, true), (11, true), (12, true), (13, true), (14, true), (15, true), (16, true), (17, true), (18, true), (19, true), (20, true), (21, true), (22, true), (23, true), (24, true), (25, true), (26, true), (27, true), (28, true), (29, true), (30, true)] (by kernel_rfl) (by kernel_rfl) (fun _ _ _ _ _ h => h) ?_
            repeat first | ((with_reducible refine sched_free ?_ ?_ ?_ ?_ (fun wk k1 => ?_) ?_); rotate_left 2; (rfl); (first | exact want_none rfl | exact want_some rfl rfl rfl rfl); (go_simp; first | exact OkX.val | (have c0' := k1.cell r1u; have c1' := k1.cell p0u; have c2' := k1.cell uc; have c3' := k1.cell ka; have c4' := k1.cell kb; go_simp; exact OkX.val)); simp only [Act.put, List.setIfInBounds_toArray, List.set_cons_zero, List.set_cons_succ]) | ((with_reducible refine sched_skip ?_ ?_ ?_ ?_); rotate_left; (rfl); (exact want_not rfl rfl rfl rfl rfl); simp only [Act.put, List.setIfInBounds_toArray, List.set_cons_zero, List.set_cons_succ])
            refine sched_done (fun wq k1 => ?_)
            have KXQ := Lib.hid (KXU.out.trans ((Ext.drew _).trans k1))
            clear k1 e1 e2 e3 e4
            go_wp2
            go_roundw
            case rel => exact ⟨j' + 1 + 1, by simp, by omega, KXQ.out⟩
            case measure => simp [intOf]; omega
        · obtain rfl : jj = nk := by omega
          have j1 : ¬ (jj : Int) < (jj : Int) := by omega
          have hhas : hasB P.data.toList ds = true := has_yes hkd (by rw [HPP.out]; exact HGD.out.path hkd hkp)
          have HKN := Lib.hid (kcount_succ ps k hkp)
          have hqq := HQA.out.ext (HX3.out.trans HXK.out)
          have HQQ := Lib.hid hqq
          have ks0 : (jj : Int) ≤ 7 := by omega
          clear hqq
          have tail : ∀ (b : Bool), leafB' P.data.toList ds = b → ((jj : Int) == 0) = b → True := fun _ _ _ => trivial
          rcases Nat.eq_zero_or_pos jj with h0 | h0
          · have hleaf : leafB' P.data.toList ds = true := by
              unfold leafB'
              rw [hhas, HKE.out]
              have : ks = [] := List.eq_nil_of_length_eq_zero (by have := HNK.out; omega)
              rw [this]; rfl
            have HLF := Lib.hid hleaf
            have q0 : ((jj : Int) == 0) = true := by rw [h0]; rfl
            have HZ := Lib.hid h0
            clear hleaf hhas tail h0
            go_wp2
            refine wp_region_sched Ext ext_way [(0, true), (1, true), (2, true), (3, true), (4, true), (5, true), (6, true), (8, true), (9, true), (10, true), (7, false), (11, true)] (by kernel_rfl) (by kernel_rfl) (fun _ _ _ _ _ h => h) ?_
            repeat first | ((with_reducible refine sched_free ?_ ?_ ?_ ?_ (fun wk k1 => ?_) ?_); rotate_left 2; (rfl); (first | exact want_none rfl | exact want_some rfl rfl rfl rfl); (go_simp; first | exact OkX.val | (have c0' := k1.cell r0'; have c1' := k1.cell r1'; have c2' := k1.cell p0'; go_simp; exact OkX.val)); simp only [Act.put, List.setIfInBounds_toArray, List.set_cons_zero, List.set_cons_succ]) | ((with_reducible refine sched_skip ?_ ?_ ?_ ?_); rotate_left; (rfl); (exact want_not rfl rfl rfl rfl rfl); simp only [Act.put, List.setIfInBounds_toArray, List.set_cons_zero, List.set_cons_succ])
            ((with_reducible refine sched_step ?_ ?_ ?_ (fun wk k1 => ?_)); rotate_left; (rfl); (first | exact want_none rfl | exact want_some rfl rfl rfl rfl))
            have F4 := Lib.hid ((Ext.drew _).trans k1)
            clear k1
            go_simp
            (with_reducible refine (Leaf_any ds _ _ P _ (HQQ.out.ext F4.out) hq7 HP7.out).mono ?_)
            rw [HLF.out]
            rintro e wk4 ⟨rfl, hx4⟩
            refine ⟨hx4, ?_⟩
            try simp only [Act.put, List.setIfInBounds_toArray, List.set_cons_zero, List.set_cons_succ]
            have F5 := Lib.hid (F4.out.trans hx4)
            clear hx4
            repeat first | ((with_reducible refine sched_free ?_ ?_ ?_ ?_ (fun wk k1 => ?_) ?_); rotate_left 2; (rfl); (first | exact want_none rfl | exact want_some rfl rfl rfl rfl); (go_simp; first | exact OkX.val); simp only [Act.put, List.setIfInBounds_toArray, List.set_cons_zero, List.set_cons_succ]) | ((with_reducible refine sched_skip ?_ ?_ ?_ ?_); rotate_left; (rfl); (exact want_not rfl rfl rfl rfl rfl); simp only [Act.put, List.setIfInBounds_toArray, List.set_cons_zero, List.set_cons_succ])
            refine sched_done (fun wq k1 => ?_)
            have F6 := Lib.hid (HXK.out.trans (F5.out.trans k1))
            clear k1
            go_wp2
            go_roundw
            case rel => exact ⟨k + 1, cn + jj, by simp, by simp, by omega, by rw [HKN.out, HCN.out, HNK.out, HKS.out], F6.out⟩
            case measure => simp [intOf]; omega
          · have hleaf : leafB' P.data.toList ds = false := by
              unfold leafB'
              rw [hhas, HKE.out]
              cases hk : ks with
              | nil => have := HNK.out; rw [hk] at this; simp at this; omega
              | cons a b => rfl
            have HLF := Lib.hid hleaf
            have q0 : ((jj : Int) == 0) = false := by simp; omega
            clear hleaf hhas tail h0
            go_wp2
            refine wp_region_sched Ext ext_way [(0, true), (1, true), (2, true), (3, true), (4, true), (5, true), (6, true), (8, true), (9, true), (10, true), (7, false), (11, true)] (by kernel_rfl) (by kernel_rfl) (fun _ _ _ _ _ h => h) ?_
            repeat first | ((with_reducible refine sched_free ?_ ?_ ?_ ?_ (fun wk k1 => ?_) ?_); rotate_left 2; (rfl); (first | exact want_none rfl | exact want_some rfl rfl rfl rfl); (go_simp; first | exact OkX.val | (have c0' := k1.cell r0'; have c1' := k1.cell r1'; have c2' := k1.cell p0'; go_simp; exact OkX.val)); simp only [Act.put, List.setIfInBounds_toArray, List.set_cons_zero, List.set_cons_succ]) | ((with_reducible refine sched_skip ?_ ?_ ?_ ?_); rotate_left; (rfl); (exact want_not rfl rfl rfl rfl rfl); simp only [Act.put, List.setIfInBounds_toArray, List.set_cons_zero, List.set_cons_succ])
            ((with_reducible refine sched_step ?_ ?_ ?_ (fun wk k1 => ?_)); rotate_left; (rfl); (first | exact want_none rfl | exact want_some rfl rfl rfl rfl))
            have F4 := Lib.hid ((Ext.drew _).trans k1)
            clear k1
            go_simp
            (with_reducible refine (Leaf_any ds _ _ P _ (HQQ.out.ext F4.out) hq7 HP7.out).mono ?_)
            rw [HLF.out]
            rintro e wk4 ⟨rfl, hx4⟩
            refine ⟨hx4, ?_⟩
            try simp only [Act.put, List.setIfInBounds_toArray, List.set_cons_zero, List.set_cons_succ]
            have F5 := Lib.hid (F4.out.trans hx4)
            clear hx4
            repeat first | ((with_reducible refine sched_free ?_ ?_ ?_ ?_ (fun wk k1 => ?_) ?_); rotate_left 2; (rfl); (first | exact want_none rfl | exact want_some rfl rfl rfl rfl); (go_simp; first | exact OkX.val); simp only [Act.put, List.setIfInBounds_toArray, List.set_cons_zero, List.set_cons_succ]) | ((with_reducible refine sched_skip ?_ ?_ ?_ ?_); rotate_left; (rfl); (exact want_not rfl rfl rfl rfl rfl); simp only [Act.put, List.setIfInBounds_toArray, List.set_cons_zero, List.set_cons_succ])
            refine sched_done (fun wq k1 => ?_)
            have F6 := Lib.hid (HXK.out.trans (F5.out.trans k1))
            clear k1
            go_wp2
            go_roundw
            case rel => exact ⟨k + 1, cn + jj, by simp, by simp, by omega, by rw [HKN.out, HCN.out, HNK.out, HKS.out], F6.out⟩
            case measure => simp [intOf]; omega
    · obtain rfl : k = NP := by omega
      have k1' : ¬ (k : Int) < (k : Int) := by omega
      have hcnt : cn + 1 = k := by
        have h := kcount_all y
        rw [← HPS.out, ← HNP.out, ← HCN.out] at h
        exact h
      have q1 : ((cn : Int) == (k : Int) - 1) = true := by simp; omega
      have hL1 : leafB' nobody ds = false := by
        unfold leafB'
        rw [has_no]
        · rfl
        · intro q hq e
          have h1 : q.path ∈ ps := by rw [← HGD.out.paths]; exact List.mem_map_of_mem hq
          rw [HPS.out, e] at h1
          exact tree_nobody y h1
      have HL1 := Lib.hid hL1
      have kpos : (1 : Int) ≤ (k : Int) := by omega
      have HQQ := Lib.hid (HQA.out.ext (HX3.out.trans HX.out))
      clear hL1 hcnt
      go_wp2_with fail
      (with_reducible refine (Leaf_any ds _ _ ⟨#[110, 111, 98, 111, 100, 121]⟩ _ HQQ.out hq7 HP7.out).mono ?_)
      rw [show leafB' (⟨#[110, 111, 98, 111, 100, 121]⟩ : ByteArray).data.toList ds = false from HL1.out]
      rintro e w8 ⟨rfl, hx8⟩
      have HX8 := Lib.hid (HX.out.trans hx8)
      have HQ8 := Lib.hid (HQQ.out.ext hx8)
      have r08 := hx8.cell r0
      have r18 := hx8.cell r1
      clear hx8 r0 r1
      go_wp2_with fail
      (with_reducible refine (Kids_any ds _ _ ⟨#[]⟩ _ HQ8.out hq7 HP7.out).mono ?_)
      rintro e w9 ⟨A9, n9, c9, rfl, hn9, _, hx9⟩
      obtain rfl : n9 = 0 := by rw [hn9]; show (kidsOf [] ds).length = 0; rw [kidsOf_nil]; rfl
      have HX9 := Lib.hid (HX8.out.trans hx9)
      clear hx9 hn9
      go_wp2
      go_ret
      exact ⟨rfl, (HX2.out.trans HX3.out).trans HX9.out⟩
end Go.Proofs.YtgfmmgfjadckoaaDoor.RuleKids
