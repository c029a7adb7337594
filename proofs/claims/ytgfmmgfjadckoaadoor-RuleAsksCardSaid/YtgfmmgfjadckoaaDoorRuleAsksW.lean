/- dispatchlaw6.RuleAsks: the walk. -/
import Derived.Test.YtgfmmgfjadckoaaDoorGood
import Derived.Test.YtgfmmgfjadckoaaDoorRefs8
import Derived.Test.YtgfmmgfjadckoaaDoorKidsL
import Derived.Laws.Concat
import Derived.Laws.Cover1
import Derived.ChangeSlices
import Derived.OpenShut
import Derived.ChangeOld
import Derived.ChangeSame
import Derived.ChangeMaps
import Derived.JoinedOf
import Derived.JoinedAt
import Derived.RowKit3
import Derived.Lib.SmallJoins
namespace Go.Proofs.YtgfmmgfjadckoaaDoor.RuleAsks
open Go.ChangeShapes Go.WideShapes Go.ChangeAt Go.RowKit Go.Joins

theorem ba_app (a b : ByteArray) : (a ++ b).data.toList = a.data.toList ++ b.data.toList := by
  cases a; cases b; simp
theorem find_same {ds : List QD} {p : Tx} (hn : (ds.map (·.path)).Nodup) {Pa Pb : ByteArray} {na nb : Nat} {ua ub : Int}
    (ha : (hasB p ds = false ∧ Pa = ⟨#[]⟩ ∧ na = 0 ∧ ua = 0) ∨ ∃ k, ∃ h : k < ds.length, ds[k].path = p ∧ Pa.data.toList = p ∧ na = ds[k].caps.length ∧ ua = ds[k].user)
    (hb : (hasB p ds = false ∧ Pb = ⟨#[]⟩ ∧ nb = 0 ∧ ub = 0) ∨ ∃ k, ∃ h : k < ds.length, ds[k].path = p ∧ Pb.data.toList = p ∧ nb = ds[k].caps.length ∧ ub = ds[k].user) : Pa = Pb ∧ na = nb ∧ ua = ub := by
  rcases ha with ⟨h0, rfl, rfl, rfl⟩ | ⟨k, hk, h1, h2, rfl, rfl⟩ <;> rcases hb with ⟨g0, rfl, rfl, rfl⟩ | ⟨k', hk', g1, g2, rfl, rfl⟩
  · exact ⟨rfl, rfl, rfl⟩
  · rw [has_yes hk' g1] at h0; cases h0
  · rw [has_yes hk h1] at g0; cases g0
  · have e : k = k' := nodup_at hn (by simpa using hk) (by simpa using hk') (by simp only [List.getElem_map]; rw [h1, g1])
    subst e
    exact ⟨ba_eq (by rw [h2, g2]), rfl, rfl⟩
theorem sv_size (S : ByteArray) : sv S.data.toList = .string S := sv_of S

set_option maxRecDepth 100000 in
set_option maxHeartbeats 6400000 in
theorem walk (w : World) (sh : Int) (_ : (Lit.int .i64 sh).wf = true) (v : Value) (xs : List Int) (r0 : Rd w v (xs.map (Value.int .i64))) (_ : ∀ z ∈ xs, (Lit.int .i64 z).wf = true) (S : ByteArray) (hS : S.size ≤ maxLen)
    (v2 : Value) (zs : List Int) (r2 : Rd w v2 (zs.map (Value.int .i64))) (_ : ∀ z ∈ zs, (Lit.int .i64 z).wf = true) :
    Calls Tryd.prog 4 #[.int .i64 sh, v, .string S, v2] w fun e w' => e = .returned (.bool true) ∧ Below w.heap.size w w' := by
  obtain ⟨A, N, c, rfl, hN, hc1, hc2, hcell0⟩ := ints_open r0
  obtain ⟨A2, N2, c2, rfl, hN2, hd1, hd2, hcell⟩ := ints_open r2
  have HC := Lib.hid hcell
  have HR0 := Lib.hid r0
  have HN := Lib.hid hN
  have HN2 := Lib.hid hN2
  clear hcell hcell0 hN hN2 r0 r2
  obtain ⟨j0, hj, hy0, hy1, hy2⟩ := info_parts Tryd.infoStr
  go_enter Tryd.func4, Tryd.ntmps4
  go_wp2_with fail
  refine (known6_any _).mono ?_
  rintro e w1 ⟨rfl, hx1⟩
  have X1 := Lib.hid hx1
  clear hx1
  by_cases h30 : (30 : Int) < (N : Int)
  · go_wp2
    go_ret
    exact ⟨rfl, X1.out⟩
  by_cases h200 : (200 : Int) < (S.size : Int)
  · go_wp2
    go_ret
    exact ⟨rfl, X1.out⟩
  have hx30 : xs.length ≤ 30 := by have := HN.out; omega
  have hS200 : (S.size : Int) ≤ 200 := by omega
  clear hS
  go_wp2_with fail
  (with_reducible refine (Good_any sh _ xs _ (HR0.out.ext X1.out) hx30).mono ?_)
  rintro e w2 ⟨nl, hn1, hn2, vl, vq, ds, qs, B, rfl, hB, hlab, hOQ, hGI, hx2⟩
  have HGI := Lib.hid hGI
  have HX2 := Lib.hid (X1.out.trans hx2)
  have HQA := Lib.hid hOQ.rd
  obtain ⟨y, hy⟩ : ∃ y, y = (sh % 5).toNat := ⟨_, rfl⟩
  rw [← hy] at HGI
  obtain ⟨ps, hps⟩ : ∃ ps, ps = tree y := ⟨_, rfl⟩
  have HPS := Lib.hid hps
  have hgd : Gd nl ps ds := by rw [hps]; exact HGI.out.gd
  have HGD := Lib.hid hgd
  obtain ⟨Aq, NP, cq, rfl, hNP, hcq1, hcq2, hqc⟩ := hOQ.rd.open
  have HNP := Lib.hid (show NP = ps.length by rw [hNP]; exact hgd.len)
  have hNP7 : NP ≤ 7 := by rw [HNP.out, hps]; exact tree_len y
  have HND := Lib.hid hNP
  have HQC := Lib.hid hqc
  obtain ⟨Al, cl, rfl, _, _⟩ := own_shape hlab
  clear hx2 hGI hOQ hlab hy hps hgd hNP hqc hB X1
  obtain ⟨W3, hW3⟩ : ∃ W3, W3 = w2.alloc (.cells #[.slice Al nl cl, .slice Aq NP cq] 25) := ⟨_, rfl⟩
  have HX3 := Lib.hid (show Ext w2 W3 by rw [hW3]; exact ext_alloc _ _)
  have HCB := Lib.hid (show W3.heap[w2.heap.size]? = some (.cells #[.slice Al nl cl, .slice Aq NP cq] 25 (0, 0)) by rw [hW3]; exact heap_alloc_new w2 _)
  have hp7 : ∀ q ∈ ds, q.path.length ≤ 1000000000 := fun q hq => by
    have h1 : q.path ∈ ps := by rw [← HGD.out.paths]; exact List.mem_map_of_mem hq
    rw [HPS.out] at h1
    have := tree_txt y _ h1
    omega
  have HP7 := Lib.hid hp7
  have HCP := Lib.hid (show ∀ q ∈ ds, 1 ≤ q.caps.length ∧ q.caps.length ≤ 1000 from fun q hq => by have := (HGD.out.each q hq).1; omega)
  have hq7 : ds.length ≤ 1000 := by have := HND.out; omega
  clear hp7 hx30 h30 h200
  go_wp2
  rw [← hW3]
  clear hW3
  go_loopw [10, 11] (fun t i wr => ∃ (m : Nat) (T : ByteArray), t = .string T ∧ i = .int .i64 m ∧ m ≤ N2 ∧ m ≤ 20 ∧ T.size ≤ 13 * m ∧ Ext W3 wr) (fun _ i _ => 20 - (intOf i).toNat)
  case atStart => exact ⟨0, _, rfl, rfl, by omega, by omega, by decide, Ext.refl _⟩
  case round =>
    obtain ⟨m, T, rfl, rfl, hmN, hm20, hTs, hx⟩ := hrel
    have HX := Lib.hid hx
    have m0 : (0 : Int) ≤ (m : Int) := by omega
    have hTs' : (T.size : Int) ≤ 260 := by omega
    clear hx
    by_cases hlm : m < N2 ∧ m < 20
    · obtain ⟨hl1, hl2⟩ := hlm
      obtain ⟨a, rfl, hb, hcs⟩ := HC.out (by omega)
      have h3 := (HX2.out.trans (HX3.out.trans HX.out)).cell' (hcs m (by have := HN2.out; omega))
      generalize zs[m]'(by have := HN2.out; omega) = x at h3
      have n1 : (m : Int) < (N2 : Int) := by omega
      have n2 : (m : Int) < 20 := by omega
      obtain ⟨W9, hW9⟩ : ∃ W9, W9 = wr.alloc (.cells #[Value.string ⟨#[114, 111, 111, 116]⟩, Value.string ⟨#[46]⟩, Value.string ⟨#[97]⟩, Value.string ⟨#[120]⟩, Value.string ⟨#[45]⟩, Value.string ⟨#[57]⟩, Value.string ⟨#[65]⟩, Value.string ⟨#[98, 46, 120]⟩, Value.string ⟨#[97, 98, 99, 100, 101, 102, 103, 104, 105, 106, 107, 108, 109]⟩] 9) := ⟨_, rfl⟩
      have HX9 := Lib.hid (show Ext wr W9 by rw [hW9]; exact ext_alloc _ _)
      have HB9 := Lib.hid (show W9.heap[wr.heap.size]? = some (.cells #[Value.string ⟨#[114, 111, 111, 116]⟩, Value.string ⟨#[46]⟩, Value.string ⟨#[97]⟩, Value.string ⟨#[120]⟩, Value.string ⟨#[45]⟩, Value.string ⟨#[57]⟩, Value.string ⟨#[65]⟩, Value.string ⟨#[98, 46, 120]⟩, Value.string ⟨#[97, 98, 99, 100, 101, 102, 103, 104, 105, 106, 107, 108, 109]⟩] 9 (0, 0)) by rw [hW9]; exact heap_alloc_new wr _)
      have h39 := (ext_alloc wr (.cells #[Value.string ⟨#[114, 111, 111, 116]⟩, Value.string ⟨#[46]⟩, Value.string ⟨#[97]⟩, Value.string ⟨#[120]⟩, Value.string ⟨#[45]⟩, Value.string ⟨#[57]⟩, Value.string ⟨#[65]⟩, Value.string ⟨#[98, 46, 120]⟩, Value.string ⟨#[97, 98, 99, 100, 101, 102, 103, 104, 105, 106, 107, 108, 109]⟩] 9)).cell' h3
      have HW9 := Lib.hid hW9
      clear hW9 hcs
      go_wp2_with fail
      rw [← HW9.out]
      (with_reducible refine (within6_some _ 9 9 _ rfl (by omega)).mono ?_)
      rintro e w9 ⟨z, rfl, hz, hz9, rfl⟩
      clear hz
      have hz0 : (0 : Int) ≤ (z : Int) := by omega
      have hz9' : (z : Int) < 9 := by omega
      obtain ⟨U, hU1, hU2⟩ : ∃ U : ByteArray, (#[Value.string ⟨#[114, 111, 111, 116]⟩, Value.string ⟨#[46]⟩, Value.string ⟨#[97]⟩, Value.string ⟨#[120]⟩, Value.string ⟨#[45]⟩, Value.string ⟨#[57]⟩, Value.string ⟨#[65]⟩, Value.string ⟨#[98, 46, 120]⟩, Value.string ⟨#[97, 98, 99, 100, 101, 102, 103, 104, 105, 106, 107, 108, 109]⟩] : Array Value)[z]? = some (.string U) ∧ U.size ≤ 13 := by
        rcases z with _ | _ | _ | _ | _ | _ | _ | _ | _ | z
        all_goals first | omega | exact ⟨_, rfl, by decide⟩
      have tc := blk_cell HB9.out z _ hU1
      have hUs : (U.size : Int) ≤ 13 := by omega
      clear hU1
      go_wp2
      go_roundw
      case rel => exact ⟨m + 1, _, rfl, by simp, by omega, by omega, by simp; omega, HX.out.trans HX9.out⟩
      case measure => simp [intOf]; omega
    · have hh : ¬ (m : Int) < (N2 : Int) ∨ ((m : Int) < (N2 : Int) ∧ ¬ (m : Int) < 20) := by omega
      clear hlm
      rcases hh with i1 | ⟨i1, i2⟩
      all_goals (
        go_wp2
        obtain ⟨T3, hT3⟩ : ∃ T3 : ByteArray, T3 = ⟨#[114, 111, 111, 116, 46]⟩ ++ S := ⟨_, rfl⟩
        have hT3s : T3.size ≤ 300 := by
          have h46 : (⟨#[114, 111, 111, 116, 46]⟩ : ByteArray).size = 5 := rfl
          rw [hT3]
          simp
          omega
        rw [← hT3]
        obtain ⟨W4, hW4⟩ : ∃ W4, W4 = wr.alloc (.cells #[.string S, .string T, .string T3] 9) := ⟨_, rfl⟩
        rw [← hW4]
        have HX4 := Lib.hid (show Ext W3 W4 by rw [hW4]; exact HX.out.trans (ext_alloc _ _))
        have HO4 := Lib.hid (show W4.ownsRow W3.heap.size 9 1 (.slice (some ⟨wr.heap.size, 0, none⟩) 3 3) 3 ([S.data.toList, T.data.toList, T3.data.toList].map sv) by
          rw [hW4]
          refine ⟨rfl, .inr ⟨wr.heap.size, 3, _, rfl, HX.out.size, heap_alloc_new wr _, Nat.le_refl _, by simp [maxLen], rfl, ?_⟩⟩
          simp only [List.map_cons, List.map_nil, sv_of]
          rfl)
        have HSZ := Lib.hid (show ∀ x ∈ [S.data.toList, T.data.toList, T3.data.toList], x.length ≤ 1000 from fun x hx => by
          simp only [List.mem_cons, List.mem_nil_iff, or_false] at hx
          rcases hx with rfl | rfl | rfl
          · rw [← ba_size]; omega
          · rw [← ba_size]; omega
          · rw [← ba_size]; omega)
        clear hW4 hT3
        generalize wr.heap.size = bw at HO4 ⊢
        go_loopw [12, 13] (fun v i wx => ∃ (k : Nat) (rs : List Tx), i = .int .i64 k ∧ k ≤ NP ∧ rs.length = k + 3 ∧ (∀ x ∈ rs, x.length ≤ 1000) ∧ wx.ownsRow W3.heap.size 9 1 v rs.length (rs.map sv) ∧ Ext W3 wx) (fun _ i _ => NP - (intOf i).toNat)
        case atStart => exact ⟨0, _, rfl, by omega, rfl, HSZ.out, HO4.out, HX4.out⟩
        case round =>
          obtain ⟨k, rs, rfl, hk, hrl, hrs, ho, hxk⟩ := hrel
          have HRS := Lib.hid hrs
          have HRL := Lib.hid hrl
          have HXK := Lib.hid hxk
          have r0 := hxk.cell (blk_cell HCB.out 0 _ rfl)
          have r1 := hxk.cell (blk_cell HCB.out 1 _ rfl)
          have k0 : (0 : Int) ≤ (k : Int) := by omega
          obtain ⟨n, hn⟩ : ∃ n, n = rs.length := ⟨_, rfl⟩
          rw [← hn] at ho
          obtain ⟨Av, cv, rfl, hv1, hv2⟩ := own_shape ho
          have HO := Lib.hid ho
          have HNN := Lib.hid hn
          have hn10 : n ≤ 10 := by omega
          clear hrs hrl hxk ho hn HSZ HO4
          by_cases hlt : k < NP
          · have k1' : (k : Int) < (NP : Int) := by omega
            have hkd : k < ds.length := by have := HND.out; omega
            obtain ⟨g, rfl, hg, hqc⟩ := HQC.out (by omega)
            obtain ⟨P, Ac, cc, h1, _, _, h4, _⟩ := (hqc k hkd).ex
            have p0 := (HX3.out.trans HXK.out).cell h1
            have HPL := Lib.hid (show P.data.toList.length ≤ 1000 by
              have h1 : ds[k].path ∈ ps := by rw [← HGD.out.paths]; exact List.mem_map_of_mem (List.getElem_mem hkd)
              rw [HPS.out] at h1
              have := tree_txt y _ h1
              rw [h4]; omega)
            clear h1 h4 hqc
            go_wp2_with (at_builtin; refine wpList_app_src _ rfl (.tmp 65) (.tmp 72) 22 22 rfl W3.heap.size 9 j0 (.string ⟨#[]⟩) 16 Tryd.underlying22 hj hy0 hy1 hy2 rfl _ n (rs.map sv) rfl (HO.out.alloc _) _ 1 _ rfl ((Rd.one _ _ _ _ _ rfl rfl).src (by first | rfl | (intro u hu; simp at hu; subst hu; rfl)) Tryd.underlying22) (by simp [maxLen]; omega) (by omega) (by have := HXK.out.size; simp; omega) ?_)
            intro v' w5 ho5 hg5 _ _
            obtain ⟨y1, y2⟩ := app_str_done HXK.out (ext_alloc _ _) HNN.out HO.out (Nat.le_refl _) ho5 hg5
            have Y1 := Lib.hid y1
            have Y2 := Lib.hid y2
            obtain ⟨A5, c5, rfl, _, _⟩ := own_shape ho5
            clear y1 y2 ho5 hg5 r0 r1 p0
            go_wp2
            go_roundw
            case rel =>
              refine ⟨k + 1, rs ++ [P.data.toList], by simp, by omega, by simp [HRL.out], fun x hx => ?_, Y1.out, Y2.out⟩
              rcases List.mem_append.1 hx with hx | hx
              · exact HRS.out x hx
              · simp at hx; subst hx; have := HPL.out; simpa using this
            case measure => simp [intOf]; omega
          · obtain rfl : k = NP := by omega
            have k1' : ¬ (k : Int) < (k : Int) := by omega
            have HRR := Lib.hid (Rd.of_own HO.out)
            have HQK := Lib.hid (HQA.out.ext (HX3.out.trans HXK.out))
            have HCK := Lib.hid ((HXK.out.block w2.heap.size (Array.getElem?_eq_some_iff.1 HCB.out).1).trans HCB.out)
            have HEW := Lib.hid ((HX2.out.trans HX3.out).trans HXK.out)
            obtain ⟨gr, rfl⟩ : ∃ gr, Av = some ⟨gr, 0, none⟩ := by
              rcases HO.out.2 with ⟨_, h0⟩ | ⟨gk, _, _, e, _⟩
              · have := HNN.out; have := HRL.out; omega
              · injection e with e; exact ⟨gk, e⟩
            go_wp2
            go_loopw [14] (fun i wz => ∃ m : Nat, i = .int .i64 m ∧ m ≤ n ∧ Ext wr wz) (fun i _ => n - (intOf i).toNat)
            case atStart => exact ⟨0, rfl, by omega, Ext.refl _⟩
            case round =>
              obtain ⟨m, rfl, hm, hxm⟩ := hrel
              have HXM := Lib.hid hxm
              have m0 : (0 : Int) ≤ (m : Int) := by omega
              have r0 := hxm.cell (blk_cell HCK.out 0 _ rfl)
              have r1 := hxm.cell (blk_cell HCK.out 1 _ rfl)
              have HQM := Lib.hid (HQK.out.ext hxm)
              clear hxm
              by_cases hmn : m < n
              · have m1 : (m : Int) < (n : Int) := by omega
                have hml : m < rs.length := by have := HNN.out; omega
                have kc0 := HO.out.cellAt m (by omega)
                rw [List.getElem?_map, List.getElem?_eq_getElem hml] at kc0
                obtain ⟨X, hX⟩ : ∃ X : ByteArray, X = ⟨(rs[m]).toArray⟩ := ⟨_, rfl⟩
                have kc := HXM.out.cell (show _ = some (Value.string X) by rw [hX]; exact kc0)
                have hXs : X.size ≤ 1000 := by
                  have := HRS.out _ (List.getElem_mem hml)
                  rw [ba_size, hX]
                  exact this
                clear hX kc0
                go_wp2_with fail
                (with_reducible refine (Find_any ds _ _ X _ HQM.out hq7 HP7.out HCP.out).mono ?_)
                rintro e wa ⟨Pa, Aa, na, ca, ua, rfl, hxa, hfa⟩
                have HFA := Lib.hid hfa
                have EA := Lib.hid hxa
                obtain ⟨Wa, hWa⟩ : ∃ Wa, Wa = wa.alloc (.cells #[.string Pa, .slice Aa na ca, .int .i64 ua] 33) := ⟨_, rfl⟩
                have EB := Lib.hid (show Ext wa Wa by rw [hWa]; exact ext_alloc _ _)
                have HBA := Lib.hid (show Wa.heap[wa.heap.size]? = some (.cells #[.string Pa, .slice Aa na ca, .int .i64 ua] 33 (0, 0)) by rw [hWa]; exact heap_alloc_new wa _)
                have r0a := (EA.out.trans EB.out).cell r0
                have r1a := (EA.out.trans EB.out).cell r1
                have HWa := Lib.hid hWa
                have r0a' := (ext_alloc wa (.cells #[.string Pa, .slice Aa na ca, .int .i64 ua] 33)).cell (EA.out.cell r0)
                have r1a' := (ext_alloc wa (.cells #[.string Pa, .slice Aa na ca, .int .i64 ua] 33)).cell (EA.out.cell r1)
                clear hxa hfa hWa r0 r1 kc
                go_wp2_with fail
                rw [← HWa.out]
                clear r0a' r1a'
                (with_reducible refine (rFind_any ds _ _ X _ (HQM.out.ext (EA.out.trans EB.out)) hq7 HCP.out).mono ?_)
                rintro e wb ⟨Pb, Ab, nb, cb, ub, rfl, hxb, hfb⟩
                obtain ⟨hPab, hnab, huab⟩ := find_same (by rw [HGD.out.paths, HPS.out]; exact tree_nodup y) HFA.out hfb
                subst hnab huab
                have q1 : (Pa.toList != Pb.toList) = false := by rw [hPab]; simp
                have q2 : (Pa.toList == Pb.toList) = true := by rw [hPab]; simp
                have EC := Lib.hid ((EA.out.trans EB.out).trans hxb)
                obtain ⟨W, hW⟩ : ∃ W, W = wb.alloc (.cells #[.string Pb, .slice Ab na cb, .int .i64 ua] 33) := ⟨_, rfl⟩
                have ED := Lib.hid (show Ext wb W by rw [hW]; exact ext_alloc _ _)
                have HBB := Lib.hid (show W.heap[wb.heap.size]? = some (.cells #[.string Pb, .slice Ab na cb, .int .i64 ua] 33 (0, 0)) by rw [hW]; exact heap_alloc_new wb _)
                have r0 := (hxb.trans ED.out).cell r0a
                have r1 := (hxb.trans ED.out).cell r1a
                have a0 := (hxb.trans ED.out).cell (blk_cell HBA.out 0 _ rfl)
                have a1 := (hxb.trans ED.out).cell (blk_cell HBA.out 1 _ rfl)
                have a2 := (hxb.trans ED.out).cell (blk_cell HBA.out 2 _ rfl)
                have b0 := blk_cell HBB.out 0 _ rfl
                have b1 := blk_cell HBB.out 1 _ rfl
                have b2 := blk_cell HBB.out 2 _ rfl
                have EW := Lib.hid (EC.out.trans ED.out)
                have HW := Lib.hid hW
                have HQW := Lib.hid (HQM.out.ext EW.out)
                clear hxb hfb hPab hW r0a r1a
                generalize hasB X.data.toList ds = hb
                go_upto_region 22 with fail
                rw [← HW.out]
                refine wp_region_sched Ext ext_way [(0, true), (1, true), (2, true), (3, true), (4, true), (5, true), (6, true), (7, true), (8, true), (9, true), (10, true), (11, true), (12, true), (13, true), (14, true), (15, true), (16, true), (17, true), (18, true), (19, true), (20, true), (21, true), (22, true), (23, true), (24, true), (25, true), (26, true), (27, true), (28, true), (30, true), (31, true), (29, false), (32, false), (33, false), (34, true), (35, true), (36, true), (37, true), (38, true), (40, true), (41, true), (39, false), (42, false), (43, true), (44, true), (45, true), (46, true), (48, true), (47, false), (49, false), (50, false), (51, true), (52, true), (53, true), (54, true), (56, true), (55, false), (57, false), (58, true), (59, true)] (by kernel_rfl) (by kernel_rfl) (fun _ _ _ _ _ h => h) ?_
                repeat first | ((with_reducible refine sched_free ?_ ?_ ?_ ?_ (fun wk k1 => ?_) ?_); rotate_left 2; (rfl); (first | exact want_none rfl | exact want_some rfl rfl rfl rfl); (go_simp; first | exact OkX.val | (have c0' := k1.cell r0; have c1' := k1.cell r1; have c2' := k1.cell a0; have c3' := k1.cell a1; have c4' := k1.cell a2; have c5' := k1.cell b0; have c6' := k1.cell b1; have c7' := k1.cell b2; go_simp; exact OkX.val)); simp only [Act.put, List.setIfInBounds_toArray, List.set_cons_zero, List.set_cons_succ]) | ((with_reducible refine sched_skip ?_ ?_ ?_ ?_); rotate_left; (rfl); (exact want_not rfl rfl rfl rfl rfl); simp only [Act.put, List.setIfInBounds_toArray, List.set_cons_zero, List.set_cons_succ])
                ((with_reducible refine sched_step ?_ ?_ ?_ (fun wk k1 => ?_)); rotate_left; (rfl); (first | exact want_none rfl | exact want_some rfl rfl rfl rfl))
                have E0 := Lib.hid ((Ext.drew _).trans k1)
                clear k1
                go_simp
                (with_reducible refine (Kids_any ds _ _ X _ (HQW.out.ext E0.out) hq7 HP7.out).mono ?_)
                rintro e u1 ⟨B1, l1, d1, rfl, hl1, ho1, hx1⟩
                refine ⟨hx1, ?_⟩
                try simp only [Act.put, List.setIfInBounds_toArray, List.set_cons_zero, List.set_cons_succ]
                have E1 := Lib.hid (E0.out.trans hx1)
                have R1 := Lib.hid (Rd.of_own ho1)
                clear hx1 ho1 hl1
                repeat first | ((with_reducible refine sched_free ?_ ?_ ?_ ?_ (fun wk k1 => ?_) ?_); rotate_left 2; (rfl); (first | exact want_none rfl | exact want_some rfl rfl rfl rfl); (go_simp; first | exact OkX.val); simp only [Act.put, List.setIfInBounds_toArray, List.set_cons_zero, List.set_cons_succ]) | ((with_reducible refine sched_skip ?_ ?_ ?_ ?_); rotate_left; (rfl); (exact want_not rfl rfl rfl rfl rfl); simp only [Act.put, List.setIfInBounds_toArray, List.set_cons_zero, List.set_cons_succ])
                ((with_reducible refine sched_step ?_ ?_ ?_ (fun wk k1 => ?_)); rotate_left; (rfl); (first | exact want_none rfl | exact want_some rfl rfl rfl rfl))
                have E1a := Lib.hid (E1.out.trans k1)
                have R1a := Lib.hid (R1.out.ext k1)
                clear k1
                go_simp
                (with_reducible refine (rKids_any ds _ _ X _ (HQW.out.ext E1a.out) hq7 HP7.out).mono ?_)
                rintro e u2 ⟨B2, l2, d2, rfl, hl2, ho2, hx2⟩
                refine ⟨hx2, ?_⟩
                try simp only [Act.put, List.setIfInBounds_toArray, List.set_cons_zero, List.set_cons_succ]
                have E2 := Lib.hid (E1a.out.trans hx2)
                have R2 := Lib.hid (Rd.of_own ho2)
                clear ho2 hl2
                have R1b := Lib.hid (R1a.out.ext hx2)
                clear hx2
                repeat first | ((with_reducible refine sched_free ?_ ?_ ?_ ?_ (fun wk k1 => ?_) ?_); rotate_left 2; (rfl); (first | exact want_none rfl | exact want_some rfl rfl rfl rfl); (go_simp; first | exact OkX.val); simp only [Act.put, List.setIfInBounds_toArray, List.set_cons_zero, List.set_cons_succ]) | ((with_reducible refine sched_skip ?_ ?_ ?_ ?_); rotate_left; (rfl); (exact want_not rfl rfl rfl rfl rfl); simp only [Act.put, List.setIfInBounds_toArray, List.set_cons_zero, List.set_cons_succ])
                ((with_reducible refine sched_step ?_ ?_ ?_ (fun wk k1 => ?_)); rotate_left; (rfl); (first | exact want_none rfl | exact want_some rfl rfl rfl rfl))
                have E2a := Lib.hid (E2.out.trans k1)
                have R1c := Lib.hid (R1b.out.ext k1)
                have R2c := Lib.hid (R2.out.ext k1)
                clear k1
                go_simp
                (with_reducible refine (texts_any _ _ (kidsOf X.data.toList ds) _ R1c.out R2c.out (by have := kids_len X.data.toList ds; omega)).mono ?_)
                rintro e u3 ⟨rfl, hx3⟩
                refine ⟨hx3, ?_⟩
                try simp only [Act.put, List.setIfInBounds_toArray, List.set_cons_zero, List.set_cons_succ]
                have E3 := Lib.hid (E2a.out.trans hx3)
                clear hx3
                repeat first | ((with_reducible refine sched_free ?_ ?_ ?_ ?_ (fun wk k1 => ?_) ?_); rotate_left 2; (rfl); (first | exact want_none rfl | exact want_some rfl rfl rfl rfl); (go_simp; first | exact OkX.val | (have c0' := (E3.out.trans k1).cell r0; have c1' := (E3.out.trans k1).cell r1; go_simp; exact OkX.val)); simp only [Act.put, List.setIfInBounds_toArray, List.set_cons_zero, List.set_cons_succ]) | ((with_reducible refine sched_skip ?_ ?_ ?_ ?_); rotate_left; (rfl); (exact want_not rfl rfl rfl rfl rfl); simp only [Act.put, List.setIfInBounds_toArray, List.set_cons_zero, List.set_cons_succ])
                ((with_reducible refine sched_step ?_ ?_ ?_ (fun wk k1 => ?_)); rotate_left; (rfl); (first | exact want_none rfl | exact want_some rfl rfl rfl rfl))
                have E3a := Lib.hid (E3.out.trans k1)
                clear k1
                go_simp
                (with_reducible refine (Leaf_any ds _ _ X _ (HQW.out.ext E3a.out) hq7 HP7.out).mono ?_)
                rintro e u4 ⟨rfl, hx4⟩
                refine ⟨hx4, ?_⟩
                try simp only [Act.put, List.setIfInBounds_toArray, List.set_cons_zero, List.set_cons_succ]
                have E4 := Lib.hid (E3a.out.trans hx4)
                clear hx4
                repeat first | ((with_reducible refine sched_free ?_ ?_ ?_ ?_ (fun wk k1 => ?_) ?_); rotate_left 2; (rfl); (first | exact want_none rfl | exact want_some rfl rfl rfl rfl); (go_simp; first | exact OkX.val); simp only [Act.put, List.setIfInBounds_toArray, List.set_cons_zero, List.set_cons_succ]) | ((with_reducible refine sched_skip ?_ ?_ ?_ ?_); rotate_left; (rfl); (exact want_not rfl rfl rfl rfl rfl); simp only [Act.put, List.setIfInBounds_toArray, List.set_cons_zero, List.set_cons_succ])
                ((with_reducible refine sched_step ?_ ?_ ?_ (fun wk k1 => ?_)); rotate_left; (rfl); (first | exact want_none rfl | exact want_some rfl rfl rfl rfl))
                have E4a := Lib.hid (E4.out.trans k1)
                clear k1
                go_simp
                (with_reducible refine (rLeaf_any ds _ _ X _ (HQW.out.ext E4a.out) hq7 HP7.out HCP.out).mono ?_)
                rintro e u5 ⟨rfl, hx5⟩
                refine ⟨hx5, ?_⟩
                try simp only [Act.put, List.setIfInBounds_toArray, List.set_cons_zero, List.set_cons_succ]
                have E5 := Lib.hid (E4a.out.trans hx5)
                clear hx5
                repeat first | ((with_reducible refine sched_free ?_ ?_ ?_ ?_ (fun wk k1 => ?_) ?_); rotate_left 2; (rfl); (first | exact want_none rfl | exact want_some rfl rfl rfl rfl); (go_simp; first | exact OkX.val); simp only [Act.put, List.setIfInBounds_toArray, List.set_cons_zero, List.set_cons_succ]) | ((with_reducible refine sched_skip ?_ ?_ ?_ ?_); rotate_left; (rfl); (exact want_not rfl rfl rfl rfl rfl); simp only [Act.put, List.setIfInBounds_toArray, List.set_cons_zero, List.set_cons_succ])
                ((with_reducible refine sched_step ?_ ?_ ?_ (fun wk k1 => ?_)); rotate_left; (rfl); (first | exact want_none rfl | exact want_some rfl rfl rfl rfl))
                have E5a := Lib.hid (E5.out.trans k1)
                clear k1
                go_simp
                (with_reducible refine (Up_any X _ (by omega)).mono ?_)
                rintro e u6 ⟨B6, l6, d6, rfl, hl6, ho6, hx6⟩
                refine ⟨hx6, ?_⟩
                try simp only [Act.put, List.setIfInBounds_toArray, List.set_cons_zero, List.set_cons_succ]
                have E6 := Lib.hid (E5a.out.trans hx6)
                have R6 := Lib.hid (Rd.of_own ho6)
                clear hx6 ho6 hl6
                repeat first | ((with_reducible refine sched_free ?_ ?_ ?_ ?_ (fun wk k1 => ?_) ?_); rotate_left 2; (rfl); (first | exact want_none rfl | exact want_some rfl rfl rfl rfl); (go_simp; first | exact OkX.val); simp only [Act.put, List.setIfInBounds_toArray, List.set_cons_zero, List.set_cons_succ]) | ((with_reducible refine sched_skip ?_ ?_ ?_ ?_); rotate_left; (rfl); (exact want_not rfl rfl rfl rfl rfl); simp only [Act.put, List.setIfInBounds_toArray, List.set_cons_zero, List.set_cons_succ])
                ((with_reducible refine sched_step ?_ ?_ ?_ (fun wk k1 => ?_)); rotate_left; (rfl); (first | exact want_none rfl | exact want_some rfl rfl rfl rfl))
                have E6a := Lib.hid (E6.out.trans k1)
                have R6a := Lib.hid (R6.out.ext k1)
                clear k1
                go_simp
                (with_reducible refine (rUp_any X _ (by omega)).mono ?_)
                rintro e u7 ⟨B7, l7, d7, rfl, hl7, ho7, hx7⟩
                refine ⟨hx7, ?_⟩
                try simp only [Act.put, List.setIfInBounds_toArray, List.set_cons_zero, List.set_cons_succ]
                have E7 := Lib.hid (E6a.out.trans hx7)
                have R7 := Lib.hid (Rd.of_own ho7)
                have R6b := Lib.hid (R6a.out.ext hx7)
                clear hx7 ho7 hl7
                repeat first | ((with_reducible refine sched_free ?_ ?_ ?_ ?_ (fun wk k1 => ?_) ?_); rotate_left 2; (rfl); (first | exact want_none rfl | exact want_some rfl rfl rfl rfl); (go_simp; first | exact OkX.val); simp only [Act.put, List.setIfInBounds_toArray, List.set_cons_zero, List.set_cons_succ]) | ((with_reducible refine sched_skip ?_ ?_ ?_ ?_); rotate_left; (rfl); (exact want_not rfl rfl rfl rfl rfl); simp only [Act.put, List.setIfInBounds_toArray, List.set_cons_zero, List.set_cons_succ])
                ((with_reducible refine sched_step ?_ ?_ ?_ (fun wk k1 => ?_)); rotate_left; (rfl); (first | exact want_none rfl | exact want_some rfl rfl rfl rfl))
                have E7a := Lib.hid (E7.out.trans k1)
                have R6c := Lib.hid (R6b.out.ext k1)
                have R7c := Lib.hid (R7.out.ext k1)
                clear k1
                go_simp
                (with_reducible refine (texts_any _ _ (ups X.data.toList) _ R6c.out R7c.out (by have := ups_length X.data.toList; rw [← ba_size] at this; omega)).mono ?_)
                rintro e u8 ⟨rfl, hx8⟩
                refine ⟨hx8, ?_⟩
                try simp only [Act.put, List.setIfInBounds_toArray, List.set_cons_zero, List.set_cons_succ]
                have E8 := Lib.hid (E7a.out.trans hx8)
                clear hx8
                repeat first | ((with_reducible refine sched_free ?_ ?_ ?_ ?_ (fun wk k1 => ?_) ?_); rotate_left 2; (rfl); (first | exact want_none rfl | exact want_some rfl rfl rfl rfl); (go_simp; first | exact OkX.val); simp only [Act.put, List.setIfInBounds_toArray, List.set_cons_zero, List.set_cons_succ]) | ((with_reducible refine sched_skip ?_ ?_ ?_ ?_); rotate_left; (rfl); (exact want_not rfl rfl rfl rfl rfl); simp only [Act.put, List.setIfInBounds_toArray, List.set_cons_zero, List.set_cons_succ])
                ((with_reducible refine sched_step ?_ ?_ ?_ (fun wk k1 => ?_)); rotate_left; (rfl); (first | exact want_none rfl | exact want_some rfl rfl rfl rfl))
                have E8a := Lib.hid (E8.out.trans k1)
                clear k1
                go_simp
                (with_reducible refine (Name_any X _).mono ?_)
                rintro e u9 ⟨rfl, hx9⟩
                refine ⟨hx9, ?_⟩
                try simp only [Act.put, List.setIfInBounds_toArray, List.set_cons_zero, List.set_cons_succ]
                have E9 := Lib.hid (E8a.out.trans hx9)
                clear hx9
                repeat first | ((with_reducible refine sched_free ?_ ?_ ?_ ?_ (fun wk k1 => ?_) ?_); rotate_left 2; (rfl); (first | exact want_none rfl | exact want_some rfl rfl rfl rfl); (go_simp; first | exact OkX.val); simp only [Act.put, List.setIfInBounds_toArray, List.set_cons_zero, List.set_cons_succ]) | ((with_reducible refine sched_skip ?_ ?_ ?_ ?_); rotate_left; (rfl); (exact want_not rfl rfl rfl rfl rfl); simp only [Act.put, List.setIfInBounds_toArray, List.set_cons_zero, List.set_cons_succ])
                ((with_reducible refine sched_step ?_ ?_ ?_ (fun wk k1 => ?_)); rotate_left; (rfl); (first | exact want_none rfl | exact want_some rfl rfl rfl rfl))
                have E9a := Lib.hid (E9.out.trans k1)
                clear k1
                go_simp
                (with_reducible refine (rName_any X _).mono ?_)
                rintro e u10 ⟨rfl, rfl⟩
                refine ⟨Ext.refl _, ?_⟩
                try simp only [Act.put, List.setIfInBounds_toArray, List.set_cons_zero, List.set_cons_succ]
                repeat first | ((with_reducible refine sched_free ?_ ?_ ?_ ?_ (fun wk k1 => ?_) ?_); rotate_left 2; (rfl); (first | exact want_none rfl | exact want_some rfl rfl rfl rfl); (go_simp; first | exact OkX.val); simp only [Act.put, List.setIfInBounds_toArray, List.set_cons_zero, List.set_cons_succ]) | ((with_reducible refine sched_skip ?_ ?_ ?_ ?_); rotate_left; (rfl); (exact want_not rfl rfl rfl rfl rfl); simp only [Act.put, List.setIfInBounds_toArray, List.set_cons_zero, List.set_cons_succ])
                refine sched_done (fun wq k1 => ?_)
                have E11 := Lib.hid (HXM.out.trans (EW.out.trans (E9a.out.trans k1)))
                clear k1 r0 r1 a0 a1 a2 b0 b1 b2
                go_wp2
                go_roundw
                case rel => exact ⟨m + 1, by simp, by omega, E11.out⟩
                case measure => simp [intOf]; omega
              · have m1 : ¬ (m : Int) < (n : Int) := by omega
                go_wp2
                go_ret
                exact ⟨rfl, HEW.out.trans HXM.out⟩)
end Go.Proofs.YtgfmmgfjadckoaaDoor.RuleAsks
