/- dispatchlaw6.RuleUps: the walk. -/
import Derived.Test.YtnkoikhmnbjfmaaDoorGood
import Derived.Test.YtnkoikhmnbjfmaaDoorFind
import Derived.Test.YtnkoikhmnbjfmaaDoorKidsL
import Derived.Test.YtnkoikhmnbjfmaaDoorSched2
import Derived.Test.YtnkoikhmnbjfmaaDoorSched3
import Derived.Laws.Concat
import Derived.Laws.Cover1
import Derived.ChangeSlices
import Derived.OpenShut
import Derived.ChangeOld
import Derived.ChangeSame
import Derived.ChangeMaps
import Derived.JoinedOf
import Derived.JoinedAt
import Derived.RowKit3
import Derived.Lib.SmallJoins
namespace Go.Proofs.YtnkoikhmnbjfmaaDoor.RuleUps
open Go.ChangeShapes Go.WideShapes Go.ChangeAt Go.RowKit Go.Joins

theorem ba_app (a b : ByteArray) : (a ++ b).data.toList = a.data.toList ++ b.data.toList := by
  cases a; cases b; simp
/-- One more name. -/
theorem ups_more (l t : Tx) (h : (46 : UInt8) ∉ t) : (ups (l ++ 46 :: t)).length = (ups l).length + 1 := by
  rw [ups_cons (by simp), above_at h]
  rfl
def tailT : Nat → Tx
  | 0 => [97]
  | 1 => [98, 98]
  | _ => [99, 45, 99]
theorem tailT_no (n : Nat) : (46 : UInt8) ∉ tailT n := by
  unfold tailT
  split <;> decide
theorem tailT_len (n : Nat) : (tailT n).length ≤ 3 := by
  unfold tailT
  split <;> decide

set_option maxRecDepth 100000 in
set_option maxHeartbeats 6400000 in
theorem walk (w : World) (sh : Int) (_ : (Lit.int .i64 sh).wf = true) (v : Value) (xs : List Int) (r0 : Rd w v (xs.map (Value.int .i64))) (_ : ∀ z ∈ xs, (Lit.int .i64 z).wf = true) :
    Calls Tryd.prog 13 #[.int .i64 sh, v] w fun e w' => e = .returned (.bool true) ∧ Below w.heap.size w w' := by
  obtain ⟨A, N, c, rfl, hN, hc1, hc2, hcell⟩ := ints_open r0
  have HC := Lib.hid hcell
  have HN := Lib.hid hN
  clear hcell hN r0
  go_enter Tryd.func13, Tryd.ntmps13
  go_wp2_with fail
  refine (known6_any _).mono ?_
  rintro e w1 ⟨rfl, hx1⟩
  have X1 := Lib.hid hx1
  clear hx1
  go_wp2_with fail
  (with_reducible refine (Good_any sh _ [] _ (Rd.nil _) (by simp)).mono ?_)
  rintro e w2 ⟨nl, hn1, hn2, vl, vq, ds, qs, B, rfl, hB, hlab, hOQ, hGI, hx2⟩
  have HGI := Lib.hid hGI
  have HX2 := Lib.hid (X1.out.trans hx2)
  have HQA := Lib.hid hOQ.rd
  obtain ⟨y, hy⟩ : ∃ y, y = (sh % 5).toNat := ⟨_, rfl⟩
  rw [← hy] at HGI
  obtain ⟨ps, hps⟩ : ∃ ps, ps = tree y := ⟨_, rfl⟩
  have HPS := Lib.hid hps
  have hgd : Gd nl ps ds := by rw [hps]; exact HGI.out.gd
  have HGD := Lib.hid hgd
  obtain ⟨Aq, NP, cq, rfl, hNP, hcq1, hcq2, hqc⟩ := hOQ.rd.open
  have HNP := Lib.hid (show NP = ps.length by rw [hNP]; exact hgd.len)
  have hNP7 : NP ≤ 7 := by rw [HNP.out, hps]; exact tree_len y
  have HND := Lib.hid hNP
  have HQC := Lib.hid hqc
  obtain ⟨Al, cl, rfl, _, _⟩ := own_shape hlab
  clear hx2 hGI hOQ hlab hy hps hgd hNP hqc hB X1
  obtain ⟨W3, hW3⟩ : ∃ W3, W3 = w2.alloc (.cells #[.slice Al nl cl, .slice Aq NP cq] 32) := ⟨_, rfl⟩
  have HX3 := Lib.hid (show Ext w2 W3 by rw [hW3]; exact ext_alloc _ _)
  have HCB := Lib.hid (show W3.heap[w2.heap.size]? = some (.cells #[.slice Al nl cl, .slice Aq NP cq] 32 (0, 0)) by rw [hW3]; exact heap_alloc_new w2 _)
  have hp7 : ∀ q ∈ ds, q.path.length ≤ 1000000000 := fun q hq => by
    have h1 : q.path ∈ ps := by rw [← HGD.out.paths]; exact List.mem_map_of_mem hq
    rw [HPS.out] at h1
    have := tree_txt y _ h1
    omega
  have HP7 := Lib.hid hp7
  have HCP := Lib.hid (show ∀ q ∈ ds, 1 ≤ q.caps.length ∧ q.caps.length ≤ 1000 from fun q hq => by have := (HGD.out.each q hq).1; omega)
  have hq7 : ds.length ≤ 1000 := by have := HND.out; omega
  clear hp7
  go_wp2
  rw [← hW3]
  clear hW3
  go_loopw [6] (fun i wr => ∃ (k : Nat), i = .int .i64 k ∧ k ≤ NP ∧ Ext W3 wr) (fun i _ => NP - (intOf i).toNat)
  case atStart => exact ⟨0, rfl, by omega, Ext.refl _⟩
  case round =>
    obtain ⟨k, rfl, hk, hx⟩ := hrel
    have HX := Lib.hid hx
    have r0 := hx.cell (blk_cell HCB.out 0 _ rfl)
    have r1 := hx.cell (blk_cell HCB.out 1 _ rfl)
    clear hx
    have k0 : (0 : Int) ≤ (k : Int) := by omega
    by_cases hlt : k < NP
    · have k1' : (k : Int) < (NP : Int) := by omega
      have hkp : k < ps.length := by have := HNP.out; omega
      have hkd : k < ds.length := by have := HND.out; omega
      obtain ⟨g, rfl, hg, hqc⟩ := HQC.out (by omega)
      obtain ⟨P, Ac, cc, h1, _, _, h4, _⟩ := (hqc k hkd).ex
      have hPp : P.data.toList = ps[k] := by rw [h4]; exact HGD.out.path hkd hkp
      have HPP := Lib.hid hPp
      have p0 := (HX3.out.trans HX.out).cell h1
      have hmem : ps[k] ∈ tree y := by rw [← HPS.out]; exact List.getElem_mem hkp
      have HTU := Lib.hid (tree_ups y _ hmem)
      have hPs : P.size ≤ 1000000000 := by
        have := tree_txt y _ hmem
        rw [ba_size, hPp]; omega
      have HUC := Lib.hid (ups_cons (tree_ne y _ hmem))
      clear h1 h4 hqc hPp hmem
      go_wp2_with fail
      (with_reducible refine (Up_any P _ hPs).mono ?_)
      rintro e w5 ⟨Au, nu, cu, rfl, hnu, hou, hxu⟩
      rw [HPP.out] at hnu hou
      obtain ⟨us, hus⟩ : ∃ us, us = ups ps[k] := ⟨_, rfl⟩
      rw [← hus] at hnu hou HTU
      have hu0 : 0 < us.length := by rw [hus, HUC.out]; simp
      have hu1 : us[0] = ps[k] := by simp only [hus, HUC.out]; rfl
      obtain ⟨mu, rfl⟩ : ∃ mu, nu = mu + 1 := ⟨nu - 1, by omega⟩
      have hul : us[mu]'(by omega) = sRoot := by
        have h := HTU.out.1
        rw [List.getLast?_eq_getElem?, List.getElem?_eq_getElem (by omega)] at h
        injection h with h
        rw [← h]
        congr 1
        omega
      have hmu7 : mu ≤ 20 := by
        have h := ups_length ps[k]
        have h2 := tree_txt y ps[k] (by rw [← HPS.out]; exact List.getElem_mem hkp)
        rw [← hus] at h
        omega
      obtain ⟨gu, rfl⟩ : ∃ gu, Au = some ⟨gu, 0, none⟩ := by
        rcases hou.2 with ⟨_, h0⟩ | ⟨gu, _, _, e, _⟩
        · omega
        · injection e with e; exact ⟨gu, e⟩
      have ucs : ∀ m (hm : m < us.length), w5.cell? ⟨gu, m, none⟩ = some (.string ⟨(us[m]).toArray⟩) := fun m hm => by
        have h := hou.cellAt m (by omega)
        rw [List.getElem?_map, List.getElem?_eq_getElem hm] at h
        exact h
      have UCS := Lib.hid ucs
      have u0 := ucs 0 hu0
      have u1 := ucs mu (by omega)
      obtain ⟨P', hP'⟩ : ∃ P' : ByteArray, P' = ⟨(us[0]).toArray⟩ := ⟨_, rfl⟩
      obtain ⟨Rb, hRb⟩ : ∃ Rb : ByteArray, Rb = ⟨(us[mu]'(by omega)).toArray⟩ := ⟨_, rfl⟩
      rw [← hP'] at u0
      rw [← hRb] at u1
      have hPP' : P' = P := ba_eq (by rw [hP', HPP.out, ← hu1])
      have qp1 : (P'.toList != P.toList) = false := by rw [hPP']; simp
      have qp2 : (P'.toList == P.toList) = true := by rw [hPP']; simp
      have qr0 : Rb.toList = [114, 111, 111, 116] := by rw [ByteArray.toList_eq, hRb, hul]; rfl
      have HNU := Lib.hid hnu
      have r0u := hxu.cell r0
      have r1u := hxu.cell r1
      have p0u := hxu.cell p0
      have HXU := Lib.hid hxu
      clear hnu hou hxu hPP' hP' hRb hu1 hul ucs hus r0 r1 p0
      have e1 : IntKind.i64.wrap ((mu : Int) + 1 - 1) = (mu : Int) := by rw [show (mu : Int) + 1 - 1 = (mu : Int) by omega]; exact IntWalk.i64_in _ (by omega)
      have e2 : IntKind.i64.wrap (mu : Int) = (mu : Int) := IntWalk.i64_in _ (by omega)
      have e3 : ((mu : Int) + 1).toNat = mu + 1 := by omega
      have e4 : (mu : Int).toNat = mu := by omega
      have qn : ((mu : Int) + 1 == 0) = false := by simp; omega
      have m0 : (0 : Int) ≤ (mu : Int) := by omega
      have m1 : (mu : Int) < (mu : Int) + 1 := by omega
      have m2 : (0 : Int) < (mu : Int) + 1 := by omega
      go_wp2
      refine wp_region_sched Ext ext_way [(0, true), (1, true), (2, true), (3, true), (4, true), (5, true), (6, true), (7, true), (8, true), (9, true), (10, true), (11, true), (12, true), (13, true), (14, true), (15, true), (16, true), (17, true), (18, true), (19, true), (20, true), (21, true), (22, true), (23, true)] (by kernel_rfl) (by kernel_rfl) (fun _ _ _ _ _ h => h) ?_
      repeat first | ((with_reducible refine sched_free ?_ ?_ ?_ ?_ (fun wk k1 => ?_) ?_); rotate_left 2; (rfl); (first | exact want_none rfl | exact want_some rfl rfl rfl rfl); (go_simp; first | exact OkX.val | (have c0' := k1.cell r1u; have c1' := k1.cell p0u; have c2' := k1.cell u0; have c3' := k1.cell u1; go_simp; exact OkX.val)); simp only [Act.put, List.setIfInBounds_toArray, List.set_cons_zero, List.set_cons_succ]) | ((with_reducible refine sched_skip ?_ ?_ ?_ ?_); rotate_left; (rfl); (exact want_not rfl rfl rfl rfl rfl); simp only [Act.put, List.setIfInBounds_toArray, List.set_cons_zero, List.set_cons_succ])
      refine sched_done (fun wq k1 => ?_)
      have HXQ := Lib.hid (HXU.out.trans ((Ext.drew _).trans k1))
      have HUQ := Lib.hid ((Ext.drew w5).trans k1)
      clear k1 u0 u1 e1 e2 e3 e4
      go_wp2
      go_loopw [8] (fun j wr => ∃ jj : Nat, j = .int .i64 ((jj : Int) + 1) ∧ jj ≤ mu ∧ Ext wq wr) (fun j _ => mu + 1 - (intOf j).toNat)
      case atStart => exact ⟨0, rfl, by omega, Ext.refl _⟩
      case round =>
        obtain ⟨jj, rfl, hjj, hxj⟩ := hrel
        have HXJ := Lib.hid hxj
        have HXK := Lib.hid (HX.out.trans (HXQ.out.trans hxj))
        have r0' := HXJ.out.cell (HUQ.out.cell r0u)
        have r1' := HXJ.out.cell (HUQ.out.cell r1u)
        clear hxj
        by_cases hlj : jj < mu
        · have j1 : (jj : Int) + 1 < (mu : Int) + 1 := by omega
          have j0 : (0 : Int) ≤ (jj : Int) + 1 := by omega
          have hju : jj + 1 < us.length := by have := HNU.out; omega
          have uc := HXJ.out.cell (HUQ.out.cell (UCS.out (jj + 1) hju))
          obtain ⟨Kb, hKb⟩ : ∃ Kb : ByteArray, Kb = ⟨(us[jj + 1]).toArray⟩ := ⟨_, rfl⟩
          rw [← hKb] at uc
          have hKl : Kb.data.toList = us[jj + 1] := by rw [hKb]
          have hmm : us[jj + 1] ∈ us.drop 1 := List.mem_iff_getElem.2 ⟨jj, by rw [List.length_drop]; omega, by rw [List.getElem_drop]; congr 1; omega⟩
          obtain ⟨ht1, ht2⟩ := HTU.out.2 _ hmm
          have hhas : hasB Kb.data.toList ds = true := by
            rw [← HPS.out, ← HGD.out.paths] at ht1
            obtain ⟨q, hq, e⟩ := List.mem_map.1 ht1
            obtain ⟨m, hm, e2⟩ := List.mem_iff_getElem.1 hq
            exact has_yes hm (by rw [e2, hKl]; exact e)
          have hleaf : leafB' Kb.data.toList ds = false := by
            unfold leafB'
            rw [hhas, kidsOf_T, HGD.out.paths, hKl, HPS.out]
            cases hk : kidsT us[jj + 1] (tree y) with
            | nil => exact absurd hk ht2
            | cons a b => rfl
          have HHAS := Lib.hid hhas
          have HLF := Lib.hid hleaf
          have HQJ := Lib.hid (HQA.out.ext (HX3.out.trans HXK.out))
          have e3 : ((jj : Int) + 1).toNat = jj + 1 := by omega
          clear hKb hmm ht1 ht2 hhas hleaf hKl
          obtain ⟨Wj, hWj⟩ : ∃ Wj, Wj = wr := ⟨_, rfl⟩
          go_upto_region 13 with fail
          go_cut [10] from 62 to 70 (fun s10 wx => s10 = .bool true ∧ Ext wr wx)
          case first =>
            go_wp2
            refine wp_region_tree (LBelow wr.heap.size) (LBelow_way _) (.free 0 (.free 1 (.free 2 (.free 3 (.free 4 (.two 5 9 (.free 6 (.free 7 (.free 8 (.step 9 (.step 10 (.free 11 .done)))))) (.step 5 (.free 6 (.free 7 (.free 8 (.step 10 (.free 11 .done)))))))))))) (by kernel_rfl) (by kernel_rfl) (fun _ _ _ _ _ h => h) ?_
            repeat first | ((with_reducible refine tree_free ?_ ?_ ?_ ?_ (fun wk k1 => ?_) ?_); rotate_left 2; (rfl); (first | exact want_none rfl | exact want_some rfl rfl rfl rfl); (go_simp; first | exact OkX.val | (have c0' := (LBelow.ext k1).cell r0'; have c1' := (LBelow.ext k1).cell r1'; have c2' := (LBelow.ext k1).cell uc; go_simp; exact OkX.val)); simp only [Act.put, List.setIfInBounds_toArray, List.set_cons_zero, List.set_cons_succ]) | ((with_reducible refine tree_skip ?_ ?_ ?_ ?_); rotate_left; (rfl); (exact want_not rfl rfl rfl rfl rfl); simp only [Act.put, List.setIfInBounds_toArray, List.set_cons_zero, List.set_cons_succ])
            ((with_reducible refine tree_two ?_ ?_ ?_ ?_ ?_ ?_ (fun wk k1 => ?_) (fun wk k1 => ?_)); rotate_left 2; (rfl); (first | exact want_none rfl | exact want_some rfl rfl rfl rfl); (rfl); (first | exact want_none rfl | exact want_some rfl rfl rfl rfl))
            · have E0 := Lib.hid ((Ext.drew _).trans k1)
              clear k1
              go_simp
              (with_reducible refine (Find_any ds _ _ Kb _ (HQJ.out.ext E0.out) hq7 HP7.out HCP.out).mono ?_)
              unfold FindPost
              rw [HHAS.out]
              rintro e wf ⟨P5, A5, n5, c5, u5, rfl, hxf, _⟩
              refine ⟨(LBelow_way _).ext hxf, ?_⟩
              try simp only [Act.put, List.setIfInBounds_toArray, List.set_cons_zero, List.set_cons_succ]
              have E1 := Lib.hid (E0.out.trans hxf)
              clear hxf
              repeat first | ((with_reducible refine tree_free ?_ ?_ ?_ ?_ (fun wk k1 => ?_) ?_); rotate_left 2; (rfl); (first | exact want_none rfl | exact want_some rfl rfl rfl rfl); (go_simp; first | exact OkX.val); simp only [Act.put, List.setIfInBounds_toArray, List.set_cons_zero, List.set_cons_succ]) | ((with_reducible refine tree_skip ?_ ?_ ?_ ?_); rotate_left; (rfl); (exact want_not rfl rfl rfl rfl rfl); simp only [Act.put, List.setIfInBounds_toArray, List.set_cons_zero, List.set_cons_succ])
              ((with_reducible refine tree_step ?_ ?_ ?_ (fun wk k1 => ?_)); rotate_left; (rfl); (first | exact want_none rfl | exact want_some rfl rfl rfl rfl))
              have E2 := Lib.hid (E1.out.trans k1)
              clear k1
              go_simp
              refine ⟨(LBelow_way _).ext (ext_alloc _ _), ?_⟩
              try simp only [Act.put, List.setIfInBounds_toArray, List.set_cons_zero, List.set_cons_succ]
              have HB5 := Lib.hid (heap_alloc_new wk (.cells #[.string ⟨#[]⟩, .slice none 0 0, .int .i64 0] 45 (0, 0)))
              have hb5 : wr.heap.size ≤ wk.heap.size := E2.out.size
              have E3 := Lib.hid (E2.out.trans (ext_alloc wk (.cells #[.string ⟨#[]⟩, .slice none 0 0, .int .i64 0] 45 (0, 0))))
              generalize wk.heap.size = b5 at HB5 hb5 ⊢
              ((with_reducible refine tree_step ?_ ?_ ?_ (fun wk k1 => ?_)); rotate_left; (rfl); (first | exact want_none rfl | exact want_some rfl rfl rfl rfl))
              rename_i wk2
              have y0 := k1.cell (blk_cell HB5.out 0 _ rfl)
              have y1 := k1.cell (blk_cell HB5.out 1 _ rfl)
              have y2 := k1.cell (blk_cell HB5.out 2 _ rfl)
              have g0 := k1.free (World.block_lt_of_cell? _ _ (blk_cell HB5.out 0 _ rfl)) (blk_free HB5.out 0)
              have g1 := k1.free (World.block_lt_of_cell? _ _ (blk_cell HB5.out 1 _ rfl)) (blk_free HB5.out 1)
              have g2 := k1.free (World.block_lt_of_cell? _ _ (blk_cell HB5.out 2 _ rfl)) (blk_free HB5.out 2)
              have E4 := Lib.hid (E3.out.trans k1)
              clear k1
              go_simp
              refine ⟨fun _ => ((((Below.refl _ _).setCell (p := ⟨b5, 0, none⟩) hb5 _).setCell (p := ⟨b5, 1, none⟩) hb5 _).setCell (p := ⟨b5, 2, none⟩) hb5 _), ?_⟩
              try simp only [Act.put, List.setIfInBounds_toArray, List.set_cons_zero, List.set_cons_succ]
              repeat first | ((with_reducible refine tree_free ?_ ?_ ?_ ?_ (fun wk k1 => ?_) ?_); rotate_left 2; (rfl); (first | exact want_none rfl | exact want_some rfl rfl rfl rfl); (go_simp; first | exact OkX.val); simp only [Act.put, List.setIfInBounds_toArray, List.set_cons_zero, List.set_cons_succ]) | ((with_reducible refine tree_skip ?_ ?_ ?_ ?_); rotate_left; (rfl); (exact want_not rfl rfl rfl rfl rfl); simp only [Act.put, List.setIfInBounds_toArray, List.set_cons_zero, List.set_cons_succ])
              refine tree_done (fun wz k1 => ?_)
              have E5 := Lib.hid ((ext_set (o := 2) (ext_set (o := 1) (ext_set (o := 0) E4.out hb5 (.string P5)) hb5 (.slice A5 n5 c5)) hb5 (.int .i64 u5)).trans k1)
              clear k1
              go_wp2
              go_meet
              case rel => exact ⟨rfl, E5.out⟩
            · have E0 := Lib.hid ((Ext.drew _).trans k1)
              clear k1
              go_simp
              refine ⟨(LBelow_way _).ext (ext_alloc _ _), ?_⟩
              try simp only [Act.put, List.setIfInBounds_toArray, List.set_cons_zero, List.set_cons_succ]
              have HB4 := Lib.hid (heap_alloc_new wk (.cells #[.string ⟨#[]⟩, .slice none 0 0, .int .i64 0] 45 (0, 0)))
              have hb5 : wr.heap.size ≤ wk.heap.size := E0.out.size
              have E1 := Lib.hid (E0.out.trans (ext_alloc wk (.cells #[.string ⟨#[]⟩, .slice none 0 0, .int .i64 0] 45 (0, 0))))
              generalize wk.heap.size = b5 at HB4 hb5 ⊢
              ((with_reducible refine tree_step ?_ ?_ ?_ (fun wk k1 => ?_)); rotate_left; (rfl); (first | exact want_none rfl | exact want_some rfl rfl rfl rfl))
              rename_i wk2
              have E2 := Lib.hid (E1.out.trans k1)
              have HB3 := Lib.hid ((k1.block b5 (Array.getElem?_eq_some_iff.1 HB4.out).1).trans HB4.out)
              clear k1
              go_simp
              (with_reducible refine (Find_any ds _ _ Kb _ (HQJ.out.ext E2.out) hq7 HP7.out HCP.out).mono ?_)
              unfold FindPost
              rw [HHAS.out]
              rintro e wf ⟨P5, A5, n5, c5, u5, rfl, hxf, _⟩
              refine ⟨(LBelow_way _).ext hxf, ?_⟩
              try simp only [Act.put, List.setIfInBounds_toArray, List.set_cons_zero, List.set_cons_succ]
              have E3 := Lib.hid (E2.out.trans hxf)
              have HB5 := Lib.hid ((hxf.block b5 (Array.getElem?_eq_some_iff.1 HB3.out).1).trans HB3.out)
              clear hxf
              repeat first | ((with_reducible refine tree_free ?_ ?_ ?_ ?_ (fun wk k1 => ?_) ?_); rotate_left 2; (rfl); (first | exact want_none rfl | exact want_some rfl rfl rfl rfl); (go_simp; first | exact OkX.val); simp only [Act.put, List.setIfInBounds_toArray, List.set_cons_zero, List.set_cons_succ]) | ((with_reducible refine tree_skip ?_ ?_ ?_ ?_); rotate_left; (rfl); (exact want_not rfl rfl rfl rfl rfl); simp only [Act.put, List.setIfInBounds_toArray, List.set_cons_zero, List.set_cons_succ])
              ((with_reducible refine tree_step ?_ ?_ ?_ (fun wk k1 => ?_)); rotate_left; (rfl); (first | exact want_none rfl | exact want_some rfl rfl rfl rfl))
              rename_i wk3
              have y0 := k1.cell (blk_cell HB5.out 0 _ rfl)
              have y1 := k1.cell (blk_cell HB5.out 1 _ rfl)
              have y2 := k1.cell (blk_cell HB5.out 2 _ rfl)
              have g0 := k1.free (World.block_lt_of_cell? _ _ (blk_cell HB5.out 0 _ rfl)) (blk_free HB5.out 0)
              have g1 := k1.free (World.block_lt_of_cell? _ _ (blk_cell HB5.out 1 _ rfl)) (blk_free HB5.out 1)
              have g2 := k1.free (World.block_lt_of_cell? _ _ (blk_cell HB5.out 2 _ rfl)) (blk_free HB5.out 2)
              have E4 := Lib.hid (E3.out.trans k1)
              clear k1
              go_simp
              refine ⟨fun _ => ((((Below.refl _ _).setCell (p := ⟨b5, 0, none⟩) hb5 _).setCell (p := ⟨b5, 1, none⟩) hb5 _).setCell (p := ⟨b5, 2, none⟩) hb5 _), ?_⟩
              try simp only [Act.put, List.setIfInBounds_toArray, List.set_cons_zero, List.set_cons_succ]
              repeat first | ((with_reducible refine tree_free ?_ ?_ ?_ ?_ (fun wk k1 => ?_) ?_); rotate_left 2; (rfl); (first | exact want_none rfl | exact want_some rfl rfl rfl rfl); (go_simp; first | exact OkX.val); simp only [Act.put, List.setIfInBounds_toArray, List.set_cons_zero, List.set_cons_succ]) | ((with_reducible refine tree_skip ?_ ?_ ?_ ?_); rotate_left; (rfl); (exact want_not rfl rfl rfl rfl rfl); simp only [Act.put, List.setIfInBounds_toArray, List.set_cons_zero, List.set_cons_succ])
              refine tree_done (fun wz k1 => ?_)
              have E5 := Lib.hid ((ext_set (o := 2) (ext_set (o := 1) (ext_set (o := 0) E4.out hb5 (.string P5)) hb5 (.slice A5 n5 c5)) hb5 (.int .i64 u5)).trans k1)
              clear k1
              go_wp2
              go_meet
              case rel => exact ⟨rfl, E5.out⟩
          case rest =>
            obtain ⟨rfl, hxc⟩ := hcut
            have HXC := Lib.hid hxc
            have r0c := hxc.cell r0'
            have r1c := hxc.cell r1'
            have ucc := hxc.cell uc
            clear hxc r0' r1' uc
            go_wp2
            refine wp_region_sched Ext ext_way [(0, true), (1, true), (2, true), (3, true), (4, true), (5, true), (6, true), (7, true), (8, false), (9, true)] (by kernel_rfl) (by kernel_rfl) (fun _ _ _ _ _ h => h) ?_
            repeat first | ((with_reducible refine sched_free ?_ ?_ ?_ ?_ (fun wk k1 => ?_) ?_); rotate_left 2; (rfl); (first | exact want_none rfl | exact want_some rfl rfl rfl rfl); (go_simp; first | exact OkX.val | (have c0' := k1.cell r0c; have c1' := k1.cell r1c; have c2' := k1.cell ucc; go_simp; exact OkX.val)); simp only [Act.put, List.setIfInBounds_toArray, List.set_cons_zero, List.set_cons_succ]) | ((with_reducible refine sched_skip ?_ ?_ ?_ ?_); rotate_left; (rfl); (exact want_not rfl rfl rfl rfl rfl); simp only [Act.put, List.setIfInBounds_toArray, List.set_cons_zero, List.set_cons_succ])
            ((with_reducible refine sched_step ?_ ?_ ?_ (fun wk k1 => ?_)); rotate_left; (rfl); (first | exact want_none rfl | exact want_some rfl rfl rfl rfl))
            have F4 := Lib.hid ((Ext.drew _).trans k1)
            clear k1
            go_simp
            (with_reducible refine (Leaf_any ds _ _ Kb _ (HQJ.out.ext (HXC.out.trans F4.out)) hq7 HP7.out).mono ?_)
            rw [HLF.out]
            rintro e wk4 ⟨rfl, hx4⟩
            refine ⟨hx4, ?_⟩
            try simp only [Act.put, List.setIfInBounds_toArray, List.set_cons_zero, List.set_cons_succ]
            have F5 := Lib.hid (F4.out.trans hx4)
            clear hx4
            repeat first | ((with_reducible refine sched_free ?_ ?_ ?_ ?_ (fun wk k1 => ?_) ?_); rotate_left 2; (rfl); (first | exact want_none rfl | exact want_some rfl rfl rfl rfl); (go_simp; first | exact OkX.val); simp only [Act.put, List.setIfInBounds_toArray, List.set_cons_zero, List.set_cons_succ]) | ((with_reducible refine sched_skip ?_ ?_ ?_ ?_); rotate_left; (rfl); (exact want_not rfl rfl rfl rfl rfl); simp only [Act.put, List.setIfInBounds_toArray, List.set_cons_zero, List.set_cons_succ])
            refine sched_done (fun wz k1 => ?_)
            have F6 := Lib.hid (HXJ.out.trans (HXC.out.trans (F5.out.trans k1)))
            clear k1
            go_wp2
            go_roundw
            case rel => exact ⟨jj + 1, by simp, by omega, F6.out⟩
            case measure => simp [intOf]; omega
        · have j1 : ¬ (jj : Int) + 1 < (mu : Int) + 1 := by omega
          go_wp2
          go_roundw
          case rel => exact ⟨k + 1, by simp, by omega, HXK.out⟩
          case measure => simp [intOf]; omega
    · have k1' : ¬ (k : Int) < (NP : Int) := by omega
      have HXE := Lib.hid ((HX2.out.trans HX3.out).trans HX.out)
      go_wp2
      clear r0 r1
      go_loopw [11, 12, 13] (fun p n i wr' => ∃ (m : Nat) (S : ByteArray), p = .string S ∧ n = .int .i64 m ∧ i = .int .i64 m ∧ m ≤ N ∧ m ≤ 6 ∧ (ups S.data.toList).length = m + 1 ∧ S.size ≤ 4 + 4 * m ∧ Ext wr wr') (fun _ _ i _ => 6 - (intOf i).toNat)
      case atStart => exact ⟨0, _, rfl, rfl, rfl, by omega, by omega, by decide, by decide, Ext.refl _⟩
      case round =>
        obtain ⟨m, S, rfl, rfl, rfl, hmN, hm6, hul, hsz, hxm⟩ := hrel
        have HUL := Lib.hid hul
        have HXM := Lib.hid hxm
        have hsz' : (S.size : Int) ≤ 28 := by omega
        have m0 : (0 : Int) ≤ (m : Int) := by omega
        clear hul hxm
        by_cases hlm : m < N ∧ m < 6
        · obtain ⟨hl1, hl2⟩ := hlm
          obtain ⟨a, rfl, hb, hcs⟩ := HC.out (by omega)
          have h3 := (HXE.out.trans HXM.out).cell' (hcs m (by have := HN.out; omega))
          generalize xs[m]'(by have := HN.out; omega) = x at h3
          have n1 : (m : Int) < (N : Int) := by omega
          have n2 : (m : Int) < 6 := by omega
          obtain ⟨W9, hW9⟩ : ∃ W9, W9 = wr.alloc (.cells #[.string ⟨#[97]⟩, .string ⟨#[98, 98]⟩, .string ⟨#[99, 45, 99]⟩] 9) := ⟨_, rfl⟩
          have HX9 := Lib.hid (show Ext wr W9 by rw [hW9]; exact ext_alloc _ _)
          have HB9 := Lib.hid (show W9.heap[wr.heap.size]? = some (.cells #[.string ⟨#[97]⟩, .string ⟨#[98, 98]⟩, .string ⟨#[99, 45, 99]⟩] 9 (0, 0)) by rw [hW9]; exact heap_alloc_new wr _)
          have h39 := (ext_alloc wr (.cells #[.string ⟨#[97]⟩, .string ⟨#[98, 98]⟩, .string ⟨#[99, 45, 99]⟩] 9)).cell' h3
          have HW9 := Lib.hid hW9
          clear hW9
          go_wp2_with fail
          rw [← HW9.out]
          (with_reducible refine (within6_some _ 3 3 _ rfl (by omega)).mono ?_)
          rintro e w9 ⟨z, rfl, hz, hz3, rfl⟩
          clear hz
          have hz0 : (0 : Int) ≤ (z : Int) := by omega
          have hz3' : (z : Int) < 3 := by omega
          obtain ⟨T, hT1, hT2⟩ : ∃ T : ByteArray, (#[Value.string ⟨#[97]⟩, .string ⟨#[98, 98]⟩, .string ⟨#[99, 45, 99]⟩] : Array Value)[z]? = some (.string T) ∧ T.data.toList = tailT z := by
            rcases z with _ | _ | _ | z
            · exact ⟨_, rfl, rfl⟩
            · exact ⟨_, rfl, rfl⟩
            · exact ⟨_, rfl, rfl⟩
            · omega
          have tc := blk_cell HB9.out z _ hT1
          have HT2 := Lib.hid hT2
          have hTs : (T.size : Int) ≤ 3 := by have := tailT_len z; rw [ba_size, hT2]; omega
          clear hT1 hT2
          go_wp2
          go_roundw
          case rel =>
            refine ⟨m + 1, _, rfl, by simp, by simp, by omega, by omega, ?_, ?_, HXM.out.trans HX9.out⟩
            · rw [ba_app, ba_app, HT2.out]
              show (ups (S.data.toList ++ [46] ++ tailT z)).length = m + 1 + 1
              rw [List.append_assoc]
              show (ups (S.data.toList ++ 46 :: tailT z)).length = m + 1 + 1
              rw [ups_more _ _ (tailT_no z), HUL.out]
            · have h46 : (⟨#[46]⟩ : ByteArray).size = 1 := rfl
              simp
              omega
          case measure => simp [intOf]; omega
        · have hh : ¬ (m : Int) < (N : Int) ∨ ((m : Int) < (N : Int) ∧ ¬ (m : Int) < 6) := by omega
          clear hlm
          rcases hh with i1 | ⟨i1, i2⟩
          all_goals (
            go_wp2_with fail
            (with_reducible refine (Up_any S _ (by omega)).mono ?_)
            rintro e wa ⟨Aa, na, ca, rfl, hna, _, hxa⟩
            rw [HUL.out] at hna
            subst hna
            have HXA := Lib.hid (HXM.out.trans hxa)
            have qe : (((m + 1 : Nat) : Int) == (m : Int) + 1) = true := by simp
            have qf : ((m : Int) + 1 == (m : Int) + 1) = true := by simp
            clear hxa
            go_wp2_with fail
            (with_reducible refine (Up_any ⟨#[]⟩ _ (by decide)).mono ?_)
            rintro e wb ⟨Ab, nb, cb, rfl, hnb, _, hxb⟩
            obtain rfl : nb = 0 := hnb
            have HXB := Lib.hid (HXE.out.trans (HXA.out.trans hxb))
            clear hxb
            go_wp2
            go_ret
            exact ⟨rfl, HXB.out⟩)
end Go.Proofs.YtnkoikhmnbjfmaaDoor.RuleUps
