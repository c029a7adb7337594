/- dispatchlaw6.Good. -/
import Derived.Test.YtflbhnckhbcboaaDoorGoodW
import Derived.Deep.CutRange
import Derived.Test.YtflbhnckhbcboaaDoorSched
import Derived.Laws.Cover1
namespace Go.Proofs.YtflbhnckhbcboaaDoor
open Go.RowKit

theorem Tryd.infoCap : (Tryd.prog.info? 29).map (fun i => (i.zero, i.size, i.bytes)) = some (some (.agg #[.int .i64 0, .int .i64 0]), 2, 16) := by kernel_rfl

theorem cell_two_new (w : World) (x y : Value) (t : TypeId) : ∀ j u, [x, y][j]? = some u → (w.alloc (.cells #[x, y] t)).cell? ((⟨w.heap.size, 0, none⟩ : Addr).add j) = some u := by
  intro j u hu
  have hadd : (⟨w.heap.size, 0, none⟩ : Addr).add j = ⟨w.heap.size, j, none⟩ := by unfold Addr.add; split <;> simp_all
  rw [hadd, cell_of_row _ w.heap.size j _ t (0, 0) (heap_alloc_new w _), ← Array.getElem?_toList]
  exact hu
theorem one2 {a b : Int} : ∀ u ∈ [Value.int .i64 a, Value.int .i64 b], u.oneCell' = true := by
  intro u hu
  simp only [List.mem_cons, List.mem_nil_iff, or_false] at hu
  rcases hu with rfl | rfl <;> rfl
theorem blk_set {w : World} {b : Nat} {cs : Array Value} {t : TypeId} (h : w.heap[b]? = some (.cells cs t (0, 0))) (j : Nat) (v : Value) : (w.setCell ⟨b, j, none⟩ v).heap[b]? = some (.cells (cs.setIfInBounds j v) t (0, 0)) := by
  rw [heap_setCell_same w b j _ _ _ h]
theorem capCells_snoc' (cs : List (Int × Int)) : capCells (cs ++ [whole]) = capCells cs ++ [.int .i64 10000, .int .i64 10000] := capCells_snoc cs 10000 10000
theorem grown_setCell (w : World) (R i : Nat) (u : Value) : w.grownBy (w.setCell ⟨R, i, none⟩ u) (some R) :=
  ⟨rfl, rfl, rfl, by simp [World.setCell], fun k _ hk => Below.heap_setCell _ _ _ _ (fun e => hk (by rw [e]))⟩
theorem lab_own {w : World} (B gl nl : Nat) (h : w.heap[gl]? = some (.cells #[.string ⟨#[]⟩, .string ⟨#[103, 112, 117]⟩] 9 (0, 0))) (hB : B ≤ gl) (h2 : nl ≤ 2) : w.ownsRow B 9 1 (.slice (some ⟨gl, 0, none⟩) nl 2) nl ((labs nl).map sv) := by
  refine ⟨by simp [labs]; omega, .inr ⟨gl, 2, _, rfl, hB, h, h2, by simp [maxLen], rfl, ?_⟩⟩
  rcases nl with _ | _ | _ | nl
  · rfl
  · rfl
  · rfl
  · omega

theorem blk_app {w V w5 : World} {row : Option Nat} {Q : Nat} {o : Obj} (hV : Ext w V) (hg : V.grownBy w5 row) (hb : w.heap[Q]? = some o) (hne : row ≠ some Q) : w5.heap[Q]? = some o := by
  have hlt := (Array.getElem?_eq_some_iff.1 hb).1
  rw [hg.block Q (Nat.lt_of_lt_of_le hlt hV.size) (fun e => hne e.symm), hV.block Q hlt]
  exact hb

theorem mulk_wrap (i j k : Nat) (hi : i ≤ 7) (hj : j ≤ 7) (hk : k ≤ 2) : ∃ p : Nat, p ≤ 51 ∧ wrap64 (wrap64 ((i : Int) * (j : Int)) + (k : Int)) = (p : Int) := by
  have h : i * j ≤ 7 * 7 := Nat.mul_le_mul hi hj
  obtain ⟨p, hp⟩ : ∃ p : Nat, p = i * j := ⟨_, rfl⟩
  rw [← hp] at h
  refine ⟨p + k, by omega, ?_⟩
  rw [show (i : Int) * (j : Int) = (p : Int) by rw [hp]; exact (Int.natCast_mul i j).symm]
  rw [show wrap64 (p : Int) = (p : Int) from IntWalk.wrap64_in _ ⟨by omega, by omega⟩]
  rw [show wrap64 ((p : Int) + (k : Int)) = (p : Int) + (k : Int) from IntWalk.wrap64_in _ ⟨by omega, by omega⟩]
  omega

/-- What Good answers. -/
def GoodPost (y nl : Nat) (w : World) (e : Ending) (w' : World) : Prop := ∃ vl vq ds qs B, e = .returned (.agg #[vl, vq]) ∧ w.heap.size ≤ B ∧ w'.ownsRow w.heap.size 9 1 vl nl ((labs nl).map sv) ∧ OwnQs w' B vq ds qs ∧ GI nl (tree y) (tree y).length ds ∧ Ext w w'

set_option maxRecDepth 100000 in
set_option maxHeartbeats 12800000 in
theorem Good_any (sh : Int) (v : Value) (xs : List Int) (w : World) (r0 : Rd w v (xs.map (Value.int .i64))) (hx30 : xs.length ≤ 30) :
    Calls Tryd.prog 10 #[.int .i64 sh, v] w fun e w' => ∃ nl, 1 ≤ nl ∧ nl ≤ 2 ∧ GoodPost (sh % 5).toNat nl w e w' := by
  obtain ⟨c0, hc, hcz0, hcz1, hcz2⟩ := info_parts Tryd.infoCap
  obtain ⟨q0, hq, hqz0, hqz1, hqz2⟩ := info_parts Tryd.infoQ
  obtain ⟨i0, hi, hz0, hz1, hz2⟩ := info_parts Tryd.infoStr
  obtain ⟨W2, hW2⟩ : ∃ W2, W2 = goodW w := ⟨_, rfl⟩
  have X2 := Lib.hid (show Ext w W2 by rw [hW2]; exact goodW_ext w)
  have HS2 := Lib.hid (show W2.heap.size = w.heap.size + 8 by rw [hW2]; exact goodW_size w)
  have HR0 := Lib.hid (show W2.heap[w.heap.size]? = some (.cells #[.slice none 0 0, .slice none 0 0] 27 (0, 0)) by rw [hW2]; exact goodW_res w)
  have HLB := Lib.hid (show W2.heap[w.heap.size + 1 + 1 + 1 + 1 + 1 + 1 + 1]? = some (.cells #[.string ⟨#[]⟩, .string ⟨#[103, 112, 117]⟩] 9 (0, 0)) by rw [hW2]; exact goodW_labs w)
  have HTR := Lib.hid (show ∀ y, y < 5 → W2.cell? ⟨w.heap.size + 1 + 1 + 1 + 1 + 1 + 1, y, none⟩ = some (.slice (some ⟨w.heap.size + 1 + y, 0, none⟩) (tree y).length (tree y).length) by rw [hW2]; exact goodW_tree w)
  have HPA := Lib.hid (show ∀ y, y < 5 → ∀ i (hi : i < (tree y).length), W2.cell? ⟨w.heap.size + 1 + y, i, none⟩ = some (.string ⟨((tree y)[i]).toArray⟩) by rw [hW2]; exact goodW_path w)
  obtain ⟨A, N, c, rfl, hN, hc1, hc2, hcell⟩ := ints_open r0
  have HC := Lib.hid hcell
  have HN := Lib.hid hN
  have HRD := Lib.hid r0
  have hN30 : N ≤ 30 := by omega
  clear hcell hN r0
  have hW2' : W2 = _ := hW2
  unfold goodW at hW2'
  go_enter Tryd.func10, Tryd.ntmps10
  go_wp2_with fail
  rw [← hW2']
  clear hW2 hW2'
  (with_reducible refine (within6_some _ 2 2 _ rfl (by omega)).mono ?_)
  rintro e w2 ⟨nl', rfl, hny, hnl, rfl⟩
  clear hny
  have hnl1 : (1 + (nl' : Int)).toNat = nl' + 1 := by omega
  have hnl2 : (0 : Int) ≤ 1 + (nl' : Int) := by omega
  have hnl3 : 1 + (nl' : Int) ≤ 2 := by omega
  go_wp2_with fail
  (with_reducible refine (within6_some _ 5 5 _ rfl (by omega)).mono ?_)
  rintro e w3 ⟨y, rfl, hny, hy5, rfl⟩
  have HY := Lib.hid hny
  clear hny hnl1
  obtain ⟨nl, hnl'⟩ : ∃ nl, nl = nl' + 1 := ⟨_, rfl⟩
  rw [← hnl']
  have hnl4 : nl ≤ 2 := by omega
  have hnl5 : 1 ≤ nl := by omega
  clear hnl' hnl2 hnl3 hnl
  obtain ⟨gt, hgt⟩ : ∃ gt, gt = w.heap.size + 1 + y := ⟨_, rfl⟩
  obtain ⟨ps, hps⟩ : ∃ ps, ps = tree y := ⟨_, rfl⟩
  obtain ⟨NP, hNP⟩ : ∃ NP, NP = ps.length := ⟨_, rfl⟩
  have hNP7 : NP ≤ 7 := by rw [hNP, hps]; exact tree_len y
  have HPX := Lib.hid (show ∀ i (hi : i < ps.length), W2.cell? ⟨gt, i, none⟩ = some (.string ⟨(ps[i]).toArray⟩) by rw [hgt]; subst hps; exact HPA.out y hy5)
  have HTX := HTR.out y hy5
  rw [← hgt, ← hps, ← hNP] at HTX
  have HTX' : ∀ o, (W2.alloc o).cell? ⟨w.heap.size + 1 + 1 + 1 + 1 + 1 + 1, y, none⟩ = some (.slice (some ⟨gt, 0, none⟩) NP NP) := fun o => (ext_alloc W2 o).cell HTX
  have HPS := Lib.hid hps
  have HNP := Lib.hid hNP
  have HNO := Lib.hid (show ps.Nodup by rw [hps]; exact tree_nodup y)
  have hy0 : (0 : Int) ≤ (y : Int) := by omega
  have hy5' : (y : Int) < 5 := by omega
  clear hgt hps hNP HTX
  go_wp2
  obtain ⟨gl, hgl⟩ : ∃ gl, gl = w.heap.size + 1 + 1 + 1 + 1 + 1 + 1 + 1 := ⟨_, rfl⟩
  rw [← hgl]
  have HGL := Lib.hid (show w.heap.size ≤ gl by omega)
  have HL2 := Lib.hid (show W2.heap[gl]? = some (.cells #[.string ⟨#[]⟩, .string ⟨#[103, 112, 117]⟩] 9 (0, 0)) by rw [hgl]; exact HLB.out)
  clear hgl HLB HTX' HTR HPA
  obtain ⟨R, hR⟩ : ∃ R, R = W2.heap.size := ⟨_, rfl⟩
  have HR3 := Lib.hid (show (W2.alloc (.cells #[.slice (some ⟨gl, 0, none⟩) nl 2, .slice none 0 0] 27)).heap[R]? = some (.cells #[.slice (some ⟨gl, 0, none⟩) nl 2, .slice none 0 0] 27 (0, 0)) by rw [hR]; exact heap_alloc_new W2 _)
  rw [← hR]
  have HRR := Lib.hid hR
  clear hR
  go_loopw [8] (fun i wr => ∃ (k : Nat) (vq : Value) (ds : List QD) (qs : List QC), i = .int .i64 k ∧ k ≤ NP ∧ wr.heap[R]? = some (.cells #[.slice (some ⟨gl, 0, none⟩) nl 2, vq] 27 (0, 0)) ∧ OwnQs wr R vq ds qs ∧ G1 nl ps k ds ∧ Ext W2 wr) (fun i _ => NP - (intOf i).toNat)
  case atStart => exact ⟨0, _, [], [], rfl, by omega, HR3.out, OwnQs.nil _ _, G1.nil nl ps, ext_alloc _ _⟩
  case round =>
    obtain ⟨k, vq, ds, qs, rfl, hk, hRb, hOQ, hG, hx⟩ := hrel
    have HRB := Lib.hid hRb
    have HOQ := Lib.hid hOQ
    have HG := Lib.hid hG
    have HX := Lib.hid hx
    clear hRb hOQ hG hx
    have k0 : (0 : Int) ≤ (k : Int) := by omega
    by_cases hlt : k < NP
    · have k1 : (k : Int) < (NP : Int) := by omega
      have hkp : k < ps.length := by have := HNP.out; omega
      have p0 := HX.out.cell (HPX.out k hkp)
      obtain ⟨P, hP⟩ : ∃ P : ByteArray, P = ⟨(ps[k]).toArray⟩ := ⟨_, rfl⟩
      rw [← hP] at p0
      have HP := Lib.hid (show P.data.toList = ps[k] by rw [hP])
      clear hP
      obtain ⟨WQ, hWQ⟩ : ∃ WQ, WQ = wr.alloc (.cells #[.string P, .slice none 0 0, .int .i64 1000000] 32) := ⟨_, rfl⟩
      obtain ⟨Q, hQ⟩ : ∃ Q, Q = wr.heap.size := ⟨_, rfl⟩
      have HQR := Lib.hid (show R ≤ Q by rw [hQ, HRR.out]; exact HX.out.size)
      have HQB := Lib.hid (show WQ.heap[Q]? = some (.cells #[.string P, .slice none 0 0, .int .i64 1000000] 32 (0, 0)) by rw [hWQ, hQ]; exact heap_alloc_new wr _)
      have HXQ := Lib.hid (show Ext wr WQ by rw [hWQ]; exact ext_alloc _ _)
      go_upto_region 8 with fail
      rw [← hWQ, ← hQ]
      have HQQ := Lib.hid hQ
      clear hWQ hQ p0
      go_cut [59] from 48 to 59 (fun s59 wx => (∃ b : Bool, s59 = .bool b ∧ (b = true → k < N)) ∧ wx = WQ)
      case first =>
        by_cases hkN : k < N
        · have n1 : (k : Int) < (N : Int) := by omega
          obtain ⟨a, rfl, hb, hcs⟩ := HC.out (by omega)
          have h3 := (X2.out.trans (HX.out.trans HXQ.out)).cell' (hcs k (by have := HN.out; omega))
          generalize xs[k]'(by have := HN.out; omega) = x at h3
          clear hcs hb
          go_wp2
          go_meet
          case rel => exact ⟨⟨_, rfl, fun _ => hkN⟩, rfl⟩
        · have n1 : ¬ (k : Int) < (N : Int) := by omega
          go_wp2
          go_meet
          case rel => exact ⟨⟨_, rfl, fun h => by cases h⟩, rfl⟩
      case rest =>
        obtain ⟨⟨b, rfl, hbN⟩, rfl⟩ := hcut
        have HBN := Lib.hid hbN
        clear hbN
        go_upto_if 59 with fail
        go_cut [] from 60 to 66 (fun wx => ∃ u : Int, 1 ≤ u ∧ u ≤ 1000000 ∧ wx.heap[Q]? = some (.cells #[.string P, .slice none 0 0, .int .i64 u] 32 (0, 0)) ∧ Ext wr wx)
        case first =>
          cases b with
          | true =>
            have hkN := HBN.out rfl
            have n1 : (k : Int) < (N : Int) := by omega
            obtain ⟨a, rfl, hb, hcs⟩ := HC.out (by omega)
            have h3 := (X2.out.trans (HX.out.trans HXQ.out)).cell' (hcs k (by have := HN.out; omega))
            generalize xs[k]'(by have := HN.out; omega) = x at h3
            have u2 := blk_cell HQB.out 2 _ rfl
            have f2 := blk_free HQB.out 2
            clear hcs hb
            go_wp2_with fail
            (with_reducible refine (within6_some _ 20000 20000 _ rfl (by omega)).mono ?_)
            rintro e w4 ⟨z, rfl, hz, hz2, rfl⟩
            clear hz
            go_wp2
            go_meet
            case rel =>
              refine ⟨1 + (z : Int), by omega, by omega, ?_, ?_⟩
              · rw [blk_set HQB.out]; rfl
              · exact ext_set HXQ.out (by rw [HQQ.out]; exact Nat.le_refl _) _
          | false =>
            go_wp2
            go_meet
            case rel => exact ⟨1000000, by omega, by omega, HQB.out, HXQ.out⟩
        case rest =>
          obtain ⟨u, hu1, hu2, hqb, hxq⟩ := hcut
          have HQC := Lib.hid hqb
          have HXC := Lib.hid hxq
          clear hqb hxq HBN HQB
          go_wp2
          go_loopw [10] (fun i2 wx => ∃ (kk : Nat) (vc : Value), i2 = .int .i64 kk ∧ kk ≤ nl ∧ wx.heap[Q]? = some (.cells #[.string P, vc, .int .i64 u] 32 (0, 0)) ∧ wx.ownsRow (Q + 1) 29 2 vc kk (capCells (List.replicate kk whole)) ∧ Ext wr wx) (fun i2 _ => nl - (intOf i2).toNat)
          case atStart => exact ⟨0, _, rfl, by omega, HQC.out, World.ownsRow_nil _ _ _ 2, HXC.out⟩
          case round =>
            obtain ⟨kk, vc, rfl, hkk, hqb, ho, hxx⟩ := hrel
            obtain ⟨Av, cv, rfl, hv1, hv2⟩ := own_shape ho
            have HQX := Lib.hid hqb
            have HO := Lib.hid ho
            have HXX := Lib.hid hxx
            clear hqb ho hxx
            have r0 := HXX.out.cell (blk_cell HRB.out 0 _ rfl)
            have kk0 : (0 : Int) ≤ (kk : Int) := by omega
            by_cases hlk : kk < nl
            · have kk1 : (kk : Int) < (nl : Int) := by omega
              have q1 := blk_cell HQX.out 1 _ rfl
              have f1 := blk_free HQX.out 1
              go_wp2_with (at_builtin; go_loud (refine wpList_append_own_at _ rfl (.tmp 75) (.tmp 77) 30 rfl (Q + 1) 29 c0 _ 2 16 Tryd.underlying30 hc hcz0 hcz1 hcz2 rfl (by decide) _ kk (capCells (List.replicate kk whole)) rfl (HO.out.alloc _) ⟨_, 0, none⟩ 1 1 [.int .i64 10000, .int .i64 10000] rfl rfl (cell_two_new _ _ _ _) one2 ?c3 ?c4 ?c5 ?_))
              case c3 => simp [maxLen]; omega
              case c4 => omega
              case c5 =>
                have := (Array.getElem?_eq_some_iff.1 HQX.out).1
                simp; omega
              intro v' w5 ho5 hg5 _ hat5
              have HQ5 := Lib.hid (blk_app (ext_alloc _ _) hg5 HQX.out (fun e => by have := (HO.out.lt Q e).1; omega))
              have HO5 := Lib.hid (show w5.ownsRow (Q + 1) 29 2 v' (kk + 1) (capCells (List.replicate (kk + 1) whole)) by
                rw [List.replicate_succ', capCells_snoc' ]; exact ho5)
              have HX5 := Lib.hid ((HXX.out.trans (ext_alloc _ _)).trans' (grown_below hg5 (by have := HXX.out.size; simp; omega) (own_ge HO.out (by have := HQQ.out; omega))))
              have q5 := blk_cell HQ5.out 1 _ rfl
              have f5 := blk_free HQ5.out 1
              obtain ⟨A5, c5, rfl, _, _⟩ := own_shape ho5
              clear ho5 hg5 hat5 q1 f1 r0
              go_wp2
              go_roundw
              case rel =>
                refine ⟨kk + 1, _, by simp, by omega, by rw [blk_set HQ5.out]; rfl, ?_, ?_⟩
                · exact HO5.out.kept (grown_setCell _ Q 1 _) (.inr fun e => by have := (HO5.out.lt Q e).1; omega)
                · exact ext_set HX5.out (by rw [HQQ.out]; exact Nat.le_refl _) _
              case measure => simp [intOf]; omega
            · obtain rfl : kk = nl := by omega
              have kk1 : ¬ (kk : Int) < (kk : Int) := by omega
              have HROW := Lib.hid (own_ExtK HOQ.out.row HXX.out)
              obtain ⟨Aq, cq, rfl, hcq1, hcq2⟩ := own_shape HROW.out
              obtain ⟨DL, hDL⟩ : ∃ DL, DL = ds.length := ⟨_, rfl⟩
              have hDL7 : DL ≤ 7 := by
                have h1 := congrArg List.length HG.out.paths
                rw [List.length_map, List.length_take] at h1
                omega
              have HROW2 := Lib.hid (show (_ : World).ownsRow R 32 3 (.slice Aq DL cq) DL (qcells qs) by have h := HROW.out; rw [← hDL] at h; exact h)
              have r1 := HXX.out.cell (blk_cell HRB.out 1 _ rfl)
              rw [← hDL] at r1
              have q2 := blk_cell HQX.out 0 _ rfl
              have q3 := blk_cell HQX.out 1 _ rfl
              have q4 := blk_cell HQX.out 2 _ rfl
              have HDL := Lib.hid hDL
              clear hDL HROW
              go_wp2_with (at_builtin; go_loud (refine wpList_append_own_at _ rfl (.tmp 81) (.tmp 83) 25 rfl R 32 q0 _ 3 48 Tryd.underlying25 hq hqz0 hqz1 hqz2 rfl (by decide) _ DL (qcells qs) rfl (HROW2.out.alloc _) ⟨_, 0, none⟩ 1 1 [.string P, .slice Av kk cv, .int .i64 u] rfl rfl (cell_three_new _ _ _ _ _) one3 ?e3 ?e4 ?e5 ?_))
              case e3 => simp [maxLen]; omega
              case e4 => omega
              case e5 =>
                have := (Array.getElem?_eq_some_iff.1 HQX.out).1
                have := HQR.out
                simp; omega
              intro v' w5 ho5 hg5 _ hat5
              have HRX := Lib.hid ((HXX.out.block R (Array.getElem?_eq_some_iff.1 HRB.out).1).trans HRB.out)
              have hneR : (Value.slice Aq DL cq).ownBlock ≠ some R := own_other HROW2.out HRX.out (by decide)
              have HR5 := Lib.hid (blk_app (ext_alloc _ _) hg5 HRX.out hneR)
              have HX5 := Lib.hid (((HX.out.trans HXX.out).trans (ext_alloc _ _)).trans' (grown_below hg5 (by have := (HX.out.trans HXX.out).size; simp; omega) (own_ge HROW2.out (by rw [HRR.out]; exact Nat.le_refl _))))
              rw [HDL.out] at ho5 hg5
              have HOQ5 := Lib.hid (OwnQs.snoc (q := ⟨P, Av, kk, cv, u⟩) (d := ⟨ps[k], List.replicate kk whole, u⟩) HOQ.out (HXX.out.trans (ext_alloc _ _)) ⟨HP.out, rfl, by simp, own_base (HO.out.alloc _) (by have := HQR.out; omega)⟩
                (fun g hg i qi hqi e => by
                  have h1 := (HO.out.lt g hg).1
                  have hil : i < ds.length := by rw [← HOQ.out.len]; exact (List.getElem?_eq_some_iff.1 hqi).1
                  have h2 := ((HOQ.out.each i qi hil hqi).2.2.2.lt g e).2
                  have := HQQ.out
                  omega) ho5 hg5)
              have q5 := blk_cell HR5.out 1 _ rfl
              have f5 := blk_free HR5.out 1
              obtain ⟨A5, c5, rfl, _, _⟩ := own_shape ho5
              have HG5 := Lib.hid (G1.snoc HG.out hkp hu1 hu2)
              clear ho5 hg5 hat5 q2 q3 q4 r1 r0
              go_wp2
              go_roundw
              case rel =>
                refine ⟨k + 1, _, _, qs ++ [⟨P, Av, kk, cv, u⟩], by simp, by omega, by rw [blk_set HR5.out]; rfl, ?_, HG5.out, ?_⟩
                · exact HOQ5.out.kept (grown_setCell _ R 1 _) HR5.out (by decide) (by decide)
                · exact ext_set HX5.out (by rw [HRR.out]; exact Nat.le_refl _) _
              case measure => simp [intOf]; omega
    · obtain rfl : k = NP := by omega
      have k1 : ¬ (k : Int) < (k : Int) := by omega
      have HGI := Lib.hid (G1.start (HNP.out ▸ HG.out))
      clear HG
      go_wp2
      go_loopw [11] (fun i wr => ∃ (k' : Nat) (vq : Value) (ds : List QD) (qs : List QC), i = .int .i64 k' ∧ k' ≤ k ∧ wr.heap[R]? = some (.cells #[.slice (some ⟨gl, 0, none⟩) nl 2, vq] 27 (0, 0)) ∧ OwnQs wr R vq ds qs ∧ GI nl ps k' ds ∧ Ext W2 wr) (fun i _ => k - (intOf i).toNat)
      case atStart => exact ⟨0, _, _, _, rfl, by omega, HRB.out, HOQ.out, HGI.out, HX.out⟩
      case round =>
        obtain ⟨i, vq, ds, qs, rfl, hik, hRb, hOQ, hG, hx⟩ := hrel
        clear HRB HOQ HGI HX
        obtain ⟨Aq, cq, rfl, hcq1, hcq2⟩ := own_shape hOQ.row
        have HRB := Lib.hid hRb
        have HOQ := Lib.hid hOQ
        have HG := Lib.hid hG
        have HX := Lib.hid hx
        have HDK := Lib.hid (show ds.length = k by rw [hG.gd.len]; exact HNP.out.symm)
        have r0 := blk_cell HRB.out 0 _ rfl
        have r1 := blk_cell HRB.out 1 _ rfl
        rw [HDK.out] at r1
        clear hRb hOQ hG hx k1 hcq1
        have i0 : (0 : Int) ≤ (i : Int) := by omega
        by_cases hlt : i < k
        · have i1 : (i : Int) < (k : Int) := by omega
          have hip : i < ps.length := by have := HNP.out; omega
          have p0 := HX.out.cell (HPX.out i hip)
          obtain ⟨P, hP⟩ : ∃ P : ByteArray, P = ⟨(ps[i]).toArray⟩ := ⟨_, rfl⟩
          rw [← hP] at p0
          have HP := Lib.hid (show P.data.toList = ps[i] by rw [hP])
          clear hP
          go_wp2
          refine wp_region_sched Ext ext_way [(0, true), (1, true), (2, true), (3, true), (4, true), (5, false), (6, true)] (by kernel_rfl) (by kernel_rfl) (fun _ _ _ _ _ h => h) ?_
          repeat first | ((with_reducible refine sched_free ?_ ?_ ?_ ?_ (fun wk k1 => ?_) ?_); rotate_left 2; (rfl); (first | exact want_none rfl | exact want_some rfl rfl rfl rfl); (go_simp; first | exact OkX.val | (have c0' := k1.cell r0; have c1' := k1.cell r1; have c2' := k1.cell p0; go_simp; exact OkX.val)); simp only [Act.put, List.setIfInBounds_toArray, List.set_cons_zero, List.set_cons_succ]) | ((with_reducible refine sched_skip ?_ ?_ ?_ ?_); rotate_left; (rfl); (exact want_not rfl rfl rfl rfl rfl); simp only [Act.put, List.setIfInBounds_toArray, List.set_cons_zero, List.set_cons_succ])
          ((with_reducible refine sched_step ?_ ?_ ?_ (fun wk k1 => ?_)); rotate_left; (rfl); (first | exact want_none rfl | exact want_some rfl rfl rfl rfl))
          have F0 := Lib.hid ((Ext.drew _).trans k1)
          clear k1 r0 r1 p0
          go_simp
          have hq7 : ds.length ≤ 1000 := by have := HDK.out; omega
          have hp7 : ∀ q ∈ ds, q.path.length ≤ 1000000000 := fun q hq => by
            have h1 : q.path ∈ ps := by rw [← HG.out.gd.paths]; exact List.mem_map_of_mem hq
            rw [HPS.out] at h1
            have := tree_txt y _ h1
            omega
          have hqq := (HOQ.out.ext F0.out).rd
          rw [HDK.out] at hqq
          (with_reducible refine (rKids_any ds _ _ P _ hqq hq7 hp7).mono ?_)
          rintro e wk2 ⟨Ak, nk, ck, rfl, hnk, hok, hxk⟩
          refine ⟨hxk, ?_⟩
          try simp only [Act.put, List.setIfInBounds_toArray, List.set_cons_zero, List.set_cons_succ]
          have F1 := Lib.hid (F0.out.trans hxk)
          obtain ⟨ks, hks⟩ : ∃ ks, ks = kidsT ps[i] ps := ⟨_, rfl⟩
          have hkse : kidsOf P.data.toList ds = ks := by rw [kidsOf_T, HP.out, HG.out.gd.paths, hks]
          rw [hkse] at hok hnk
          have HOK := Lib.hid (own_base hok (show R ≤ _ by have := F0.out.size; have := HX.out.size; have := HRR.out; omega))
          have hnk7 : nk ≤ 7 := by
            rw [hnk, hks]
            unfold kidsT
            have := List.length_filter_le (fun x => decide (ps[i] ≠ []) && decide (above x = ps[i])) ps
            have := HNP.out
            omega
          have HNK := Lib.hid hnk
          have HKS := Lib.hid hks
          clear hxk hok hnk hks hkse hqq hq7 hp7
          repeat first | ((with_reducible refine sched_free ?_ ?_ ?_ ?_ (fun wk k1 => ?_) ?_); rotate_left 2; (rfl); (first | exact want_none rfl | exact want_some rfl rfl rfl rfl); (go_simp; first | exact OkX.val); simp only [Act.put, List.setIfInBounds_toArray, List.set_cons_zero, List.set_cons_succ]) | ((with_reducible refine sched_skip ?_ ?_ ?_ ?_); rotate_left; (rfl); (exact want_not rfl rfl rfl rfl rfl); simp only [Act.put, List.setIfInBounds_toArray, List.set_cons_zero, List.set_cons_succ])
          refine sched_done (fun wz k1 => ?_)
          have HOKz := Lib.hid (own_ExtK HOK.out k1)
          have F2 := Lib.hid (F1.out.trans k1)
          obtain ⟨Ak', ck', eK, hck1, hck2⟩ := own_shape HOKz.out
          injection eK with eK1 eK2 eK3
          subst eK1 eK3
          clear k1 eK2
          go_wp2
          go_loopw [13] (fun l wr => ∃ (kk : Nat) (vq : Value) (ds : List QD) (qs : List QC), l = .int .i64 kk ∧ kk ≤ nl ∧ wr.heap[R]? = some (.cells #[.slice (some ⟨gl, 0, none⟩) nl 2, vq] 27 (0, 0)) ∧ OwnQs wr R vq ds qs ∧ GK nl ps i kk ds ∧ wr.ownsRow R 9 1 (.slice Ak nk ck) nk (ks.map sv) ∧ Ext W2 wr) (fun l _ => nl - (intOf l).toNat)
          case atStart => exact ⟨0, _, _, _, rfl, by omega, (F2.out.block R (Array.getElem?_eq_some_iff.1 HRB.out).1).trans HRB.out, HOQ.out.ext F2.out, HG.out.toK, HOKz.out, HX.out.trans F2.out⟩
          case round =>
            obtain ⟨kk, vq, ds, qs, rfl, hkk, hRb, hOQ, hG, hkr, hx⟩ := hrel
            clear HRB HOQ HG HX HDK HOKz HOK F0 F1 F2
            have HRB := Lib.hid hRb
            have HOQ := Lib.hid hOQ
            have HG := Lib.hid hG
            have HX := Lib.hid hx
            have HKR := Lib.hid hkr
            have r0 := blk_cell HRB.out 0 _ rfl
            clear hRb hOQ hG hx hkr
            have kk0 : (0 : Int) ≤ (kk : Int) := by omega
            by_cases hlk : kk < nl
            · have kk1 : (kk : Int) < (nl : Int) := by omega
              go_wp2
              go_loopw [14, 15] (fun lf j wr => ∃ (jj : Nat) (left : Int) (vq : Value) (ds : List QD) (qs : List QC), lf = .int .i64 left ∧ j = .int .i64 jj ∧ jj ≤ nk ∧ wr.heap[R]? = some (.cells #[.slice (some ⟨gl, 0, none⟩) nl 2, vq] 27 (0, 0)) ∧ OwnQs wr R vq ds qs ∧ GJ nl ps i kk jj left ds ∧ wr.ownsRow R 9 1 (.slice Ak nk ck) nk (ks.map sv) ∧ Ext W2 wr) (fun _ j _ => nk - (intOf j).toNat)
              case atStart => exact ⟨0, 10000, _, _, _, rfl, rfl, by omega, HRB.out, HOQ.out, HG.out.toJ, HKR.out, HX.out⟩
              case round =>
                obtain ⟨jj, left, vq, ds, qs, rfl, rfl, hjj, hRb, hOQ, hG, hkr, hx⟩ := hrel
                clear HRB HOQ HG HX HKR r0
                obtain ⟨L, rfl⟩ : ∃ L : Nat, left = (L : Int) := ⟨left.toNat, by have := hG.lo; omega⟩
                have HRB := Lib.hid hRb
                have HOQ := Lib.hid hOQ
                have HG := Lib.hid hG
                have HX := Lib.hid hx
                have HKR := Lib.hid hkr
                have l0 := hG.lo
                have l1 := hG.hi
                have j0 : (0 : Int) ≤ (jj : Int) := by omega
                clear hRb hOQ hG hx hkr
                by_cases hlj : jj < nk
                · have j1 : (jj : Int) < (nk : Int) := by omega
                  go_upto_if 116 with fail
                  go_cut [16] from 112 to 140 (fun s16 wx => ∃ n : Int, s16 = .int .i64 n ∧ 0 ≤ n ∧ n ≤ (L : Int) ∧ (jj + 1 = nk → n = (L : Int)) ∧ Ext wr wx)
                  case first =>
                    by_cases hl2 : jj + 1 < nk
                    · have n1 : (jj : Int) < (nk : Int) - 1 := by omega
                      have hrd := HRD.out.ext (X2.out.trans HX.out)
                      have HRX := Lib.hid hrd
                      clear hrd
                      go_wp2_with fail
                      (with_reducible refine (pick_any _ xs _ _ HRX.out (by omega) (by omega) (by omega)).mono ?_)
                      rintro e w4 ⟨⟨z1, rfl⟩, rfl⟩
                      go_wp2_with fail
                      (with_reducible refine (within6_some _ (L + 1) _ _ (by omega) (by omega)).mono ?_)
                      rintro e w4 ⟨z, rfl, hz, hzl, rfl⟩
                      clear hz
                      have hz0 : (0 : Int) ≤ (z : Int) := by omega
                      have hzl' : (z : Int) ≤ (L : Int) := by omega
                      go_wp2_with fail
                      have HRX2 := Lib.hid (HRX.out.ext (ext_alloc _ (.cells #[.int .i64 0, .int .i64 ((L : Int) / 2), .int .i64 (L : Int), .int .i64 (z : Int)] 3)))
                      obtain ⟨p, hp51, hw⟩ := mulk_wrap i jj kk (by omega) (by omega) (by omega)
                      rw [hw]
                      clear hw
                      (with_reducible refine (pick_any _ xs _ _ HRX2.out (by omega) (by omega) (by omega)).mono ?_)
                      rintro e w4 ⟨⟨z2, rfl⟩, rfl⟩
                      go_wp2_with fail
                      (with_reducible refine (within6_some _ 4 4 _ rfl (by omega)).mono ?_)
                      rintro e w4 ⟨y4, rfl, hyy, hy4, rfl⟩
                      clear hyy
                      obtain ⟨n, hn, hn0, hnl⟩ : ∃ n : Int, (#[Value.int .i64 0, .int .i64 ((L : Int) / 2), .int .i64 (L : Int), .int .i64 (z : Int)] : Array Value)[y4]? = some (.int .i64 n) ∧ 0 ≤ n ∧ n ≤ (L : Int) := by
                        rcases y4 with _ | _ | _ | _ | y4
                        · exact ⟨0, rfl, by omega, by omega⟩
                        · exact ⟨(L : Int) / 2, rfl, by omega, by omega⟩
                        · exact ⟨(L : Int), rfl, by omega, by omega⟩
                        · exact ⟨z, rfl, by omega, by omega⟩
                        · omega
                      have hcc := fun (W : World) => blk_cell (heap_alloc_new W (.cells #[.int .i64 0, .int .i64 ((L : Int) / 2), .int .i64 (L : Int), .int .i64 (z : Int)] 3 (0, 0))) y4 _ hn
                      have hy0' : (0 : Int) ≤ (y4 : Int) := by omega
                      have hy4' : (y4 : Int) < 4 := by omega
                      have HN4 := Lib.hid hn
                      clear hn
                      go_wp2
                      go_meet
                      case rel => exact ⟨n, rfl, hn0, hnl, fun h => by omega, ext_alloc _ _⟩
                    · have n1 : ¬ (jj : Int) < (nk : Int) - 1 := by omega
                      go_wp2
                      go_meet
                      case rel => exact ⟨(L : Int), rfl, l0, by omega, fun _ => rfl, Ext.refl _⟩
                  case rest =>
                    obtain ⟨n, rfl, hn0, hnL, hlast, hxc⟩ := hcut
                    obtain ⟨n, rfl⟩ : ∃ n' : Nat, n = (n' : Int) := ⟨n.toNat, by omega⟩
                    have HLAST := Lib.hid hlast
                    have HRBc := Lib.hid ((hxc.block R (Array.getElem?_eq_some_iff.1 HRB.out).1).trans HRB.out)
                    have HOQc := Lib.hid (HOQ.out.ext hxc)
                    have HKRc := Lib.hid (own_ExtK HKR.out hxc)
                    have HXc := Lib.hid (HX.out.trans hxc)
                    have HRX := Lib.hid (HRD.out.ext (X2.out.trans HXc.out))
                    clear hlast hxc HRB HOQ HKR HX
                    go_wp2_with fail
                    (with_reducible refine (pick_any _ xs _ _ HRX.out (by omega) (by omega) (by omega)).mono ?_)
                    rintro e w4 ⟨⟨z1, rfl⟩, rfl⟩
                    go_wp2_with fail
                    (with_reducible refine (within6_some _ (10000 - n + 1) _ _ (by omega) (by omega)).mono ?_)
                    rintro e w4 ⟨z, rfl, hz, hzl, rfl⟩
                    clear hz
                    have hz0 : (0 : Int) ≤ (z : Int) := by omega
                    have hzl' : (z : Int) ≤ 10000 - (n : Int) := by omega
                    go_wp2_with fail
                    obtain ⟨WM, hWM⟩ : ∃ WM, WM = wc.alloc (.cells #[.int .i64 10000, .int .i64 (n : Int), .int .i64 ((n : Int) + (z : Int))] 3) := ⟨_, rfl⟩
                    rw [← hWM]
                    have HXM := Lib.hid (show Ext wc WM by rw [hWM]; exact ext_alloc _ _)
                    have HHM := Lib.hid (show WM.heap[wc.heap.size]? = some (.cells #[.int .i64 10000, .int .i64 (n : Int), .int .i64 ((n : Int) + (z : Int))] 3 (0, 0)) by rw [hWM]; exact heap_alloc_new wc _)
                    clear hWM
                    (with_reducible refine (pick_any _ xs _ _ (HRX.out.ext HXM.out) (by omega) (by omega) (by omega)).mono ?_)
                    rintro e w4 ⟨⟨z2, rfl⟩, rfl⟩
                    go_wp2_with fail
                    (with_reducible refine (within6_some _ 3 3 _ rfl (by omega)).mono ?_)
                    rintro e w4 ⟨y3, rfl, hyy, hy3, rfl⟩
                    clear hyy
                    obtain ⟨mo, hmo, hmo1, hmo2⟩ : ∃ mo : Int, (#[Value.int .i64 10000, .int .i64 (n : Int), .int .i64 ((n : Int) + (z : Int))] : Array Value)[y3]? = some (.int .i64 mo) ∧ (n : Int) ≤ mo ∧ mo ≤ 10000 := by
                      rcases y3 with _ | _ | _ | y3
                      · exact ⟨10000, rfl, by omega, by omega⟩
                      · exact ⟨n, rfl, by omega, by omega⟩
                      · exact ⟨(n : Int) + (z : Int), rfl, by omega, by omega⟩
                      · omega
                    have hcc := blk_cell HHM.out y3 _ hmo
                    have hy0' : (0 : Int) ≤ (y3 : Int) := by omega
                    have hy3' : (y3 : Int) < 3 := by omega
                    have HRBm := Lib.hid ((HXM.out.block R (Array.getElem?_eq_some_iff.1 HRBc.out).1).trans HRBc.out)
                    have HOQm := Lib.hid (HOQc.out.ext HXM.out)
                    have HKRm := Lib.hid (own_ExtK HKRc.out HXM.out)
                    have HXm := Lib.hid (HXc.out.trans HXM.out)
                    clear hmo HRBc HOQc HKRc HRX
                    go_wp2
                    clear hcc HHM
                    have hjks : jj < ks.length := by have := HNK.out; omega
                    go_loopw [18] (fun mi wr => ∃ (m : Nat) (vq : Value), mi = .int .i64 m ∧ m ≤ k ∧ wr.heap[R]? = some (.cells #[.slice (some ⟨gl, 0, none⟩) nl 2, vq] 27 (0, 0)) ∧ OwnQs wr R vq (setTo ks[jj] kk n mo ds m) qs ∧ wr.ownsRow R 9 1 (.slice Ak nk ck) nk (ks.map sv) ∧ Ext W2 wr) (fun mi _ => k - (intOf mi).toNat)
                    case atStart => exact ⟨0, _, rfl, by omega, HRBm.out, by rw [setTo_zero]; exact HOQm.out, HKRm.out, HXm.out⟩
                    case round =>
                      obtain ⟨m, vq, rfl, hmk, hRb, hOQ, hkr, hx⟩ := hrel
                      clear HRBm HOQm HKRm HXm HXc
                      have hdk : ds.length = k := by rw [HG.out.gk.gi.gd.len]; exact HNP.out.symm
                      have m0 : (0 : Int) ≤ (m : Int) := by omega
                      by_cases hmlt : m < k
                      · have m1 : (m : Int) < (k : Int) := by omega
                        have hmd : m < ds.length := by omega
                        have hml : m < (setTo ks[jj] kk n mo ds m).length := by rw [setTo_length]; exact hmd
                        have hsg := setTo_get ks[jj] kk n mo ds m hmd hml
                        have hcl : (setTo ks[jj] kk n mo ds m)[m].caps.length = nl := by rw [hsg]; exact (HG.out.gk.gi.gd.each _ (List.getElem_mem hmd)).1
                        obtain ⟨gq, cq', g, cc, ev, h1, hBg, hglt, ⟨cur, hcur⟩, hfz, e1, e2, hput⟩ := hOQ.put hml (k := kk) (by rw [hcl]; exact hlk)
                        obtain ⟨q, hqm⟩ : ∃ q, qs[m]? = some q := ⟨qs[m]'(by rw [hOQ.len]; exact hml), List.getElem?_eq_getElem _⟩
                        have hqp := (hOQ.each m q hml hqm).1
                        rw [hsg] at hqp
                        have hrow := hOQ.row
                        rw [ev] at hrow hRb
                        have pc := hrow.cellAt (m * 3) (by omega)
                        rw [(qcells_get' qs m q hqm).1] at pc
                        rw [setTo_length, hdk] at hRb
                        rw [hcl] at h1
                        obtain ⟨gk, rfl⟩ : ∃ gk, Ak = some ⟨gk, 0, none⟩ := by
                          rcases hkr.2 with ⟨_, h0⟩ | ⟨gk, _, _, e, _⟩
                          · omega
                          · injection e with e; exact ⟨gk, e⟩
                        have kc := hkr.cellAt jj (by omega)
                        rw [List.getElem?_map, List.getElem?_eq_getElem hjks] at kc
                        obtain ⟨Kb, hKb⟩ : ∃ Kb : ByteArray, Kb = ⟨(ks[jj]).toArray⟩ := ⟨_, rfl⟩
                        have kc : wr.cell? ⟨gk, jj, none⟩ = some (.string Kb) := by rw [hKb]; exact kc
                        have HKB := Lib.hid (show Kb.data.toList = ks[jj] by rw [hKb])
                        have r1 := blk_cell hRb 1 _ rfl
                        have HQP := Lib.hid hqp
                        have HOQ := Lib.hid hOQ
                        have HRB := Lib.hid hRb
                        have HKR := Lib.hid hkr
                        have HX := Lib.hid hx
                        have HPUT := Lib.hid (hput n mo)
                        have HCUR := Lib.hid hcur
                        have HEV := Lib.hid ev
                        clear hKb hqp hrow hqm ev hOQ hRb hkr hx hput hcur hsg
                        generalize ((setTo ks[jj] kk n mo ds m)[m].caps[kk]'(by rw [hcl]; exact hlk)).1 = o1 at e1
                        generalize ((setTo ks[jj] kk n mo ds m)[m].caps[kk]'(by rw [hcl]; exact hlk)).2 = o2 at e2
                        have HCL := Lib.hid hcl
                        clear hcl hdk
                        have hkn0 : (kk : Int) < (nl : Int) := by omega
                        by_cases heq : q.p = Kb
                        · have q1 : (q.p.toList == Kb.toList) = true := by rw [heq]; simp
                          have HEQ := Lib.hid (show ds[m].path = ks[jj] by rw [← HQP.out, heq, HKB.out])
                          clear heq
                          go_wp2
                          refine wp_region_sched Ext ext_way [(0, true), (1, true), (2, true), (3, true), (4, true), (5, true), (6, true), (7, true), (8, true), (9, true), (10, true)] (by kernel_rfl) (by kernel_rfl) (fun _ _ _ _ _ h => h) ?_
                          repeat first | ((with_reducible refine sched_free ?_ ?_ ?_ ?_ (fun wk k1 => ?_) ?_); rotate_left 2; (rfl); (first | exact want_none rfl | exact want_some rfl rfl rfl rfl); (go_simp; first | exact OkX.val | (have c0' := k1.cell r1; have c1' := k1.cell pc; have c2' := k1.cell kc; go_simp; exact OkX.val)); simp only [Act.put, List.setIfInBounds_toArray, List.set_cons_zero, List.set_cons_succ]) | ((with_reducible refine sched_skip ?_ ?_ ?_ ?_); rotate_left; (rfl); (exact want_not rfl rfl rfl rfl rfl); simp only [Act.put, List.setIfInBounds_toArray, List.set_cons_zero, List.set_cons_succ])
                          refine sched_done (fun wz k1 => ?_)
                          have FZ := Lib.hid ((Ext.drew _).trans k1)
                          clear k1
                          have z1 := FZ.out.cell r1
                          obtain ⟨gq2, cq2, g', cc', ev2, z2, hBg', hglt', ⟨cur', hcur'⟩, hfz', z3, z4, hput'⟩ := (HOQ.out.ext FZ.out).put hml (k := kk) (by rw [HCL.out]; exact hlk)
                          have ee := HEV.out.symm.trans ev2
                          injection ee with ee1 ee2 ee3
                          injection ee1 with ee1
                          injection ee1 with ee1
                          subst ee1
                          rw [HCL.out] at z2
                          generalize ((setTo ks[jj] kk n mo ds m)[m].caps[kk]'(by rw [HCL.out]; exact hlk)).1 = o1' at z3
                          generalize ((setTo ks[jj] kk n mo ds m)[m].caps[kk]'(by rw [HCL.out]; exact hlk)).2 = o2' at z4
                          have HP2 := Lib.hid (hput' n mo)
                          have HCUR2 := Lib.hid hcur'
                          have f1 := hfz' (kk * 2)
                          have f2 := hfz' (kk * 2 + 1)
                          have hneR : R ≠ g' := fun e => by
                            have h9 := (FZ.out.block R (Array.getElem?_eq_some_iff.1 HRB.out).1).trans HRB.out
                            rw [e, hcur'] at h9
                            injection h9 with h9
                            injection h9 with _ h9
                            exact absurd h9 (by decide)
                          clear ee2 ee3 ev2 hput' hcur' hfz' pc kc r1 h1 e1 e2 hfz
                          go_wp2
                          go_roundw
                          case rel =>
                            refine ⟨m + 1, vq, by simp, by omega, ?_, ?_, ?_, ?_⟩
                            · rw [HP2.out.2.block R (by have := FZ.out.size; have := (Array.getElem?_eq_some_iff.1 HRB.out).1; omega) (fun e => by injection e with e; exact hneR e), FZ.out.block R (Array.getElem?_eq_some_iff.1 HRB.out).1, HEV.out, setTo_length, HG.out.gk.gi.gd.len, ← HNP.out]
                              exact HRB.out
                            · rw [setTo_yes hmd HEQ.out]; exact HP2.out.1
                            · exact (own_ExtK HKR.out FZ.out).kept HP2.out.2 (.inr (own_other (own_ExtK HKR.out FZ.out) HCUR2.out (by decide)))
                            · exact (HX.out.trans FZ.out).trans' (grown_below HP2.out.2 (HX.out.trans FZ.out).size (fun k e => by injection e with e; rw [← HRR.out, ← e]; exact hBg'))
                          case measure => simp [intOf]; omega
                        · have q1 : (q.p.toList == Kb.toList) = false := ba_ne heq
                          have HNE := Lib.hid (show ds[m].path ≠ ks[jj] from fun e => heq (ba_eq (by rw [HQP.out, e, HKB.out])))
                          clear heq
                          go_wp2
                          refine wp_region_sched Ext ext_way [(0, true), (1, true), (2, true), (3, true), (4, true), (5, true), (6, true), (7, true), (8, true), (9, true), (10, true)] (by kernel_rfl) (by kernel_rfl) (fun _ _ _ _ _ h => h) ?_
                          repeat first | ((with_reducible refine sched_free ?_ ?_ ?_ ?_ (fun wk k1 => ?_) ?_); rotate_left 2; (rfl); (first | exact want_none rfl | exact want_some rfl rfl rfl rfl); (go_simp; first | exact OkX.val | (have c0' := k1.cell r1; have c1' := k1.cell pc; have c2' := k1.cell kc; go_simp; exact OkX.val)); simp only [Act.put, List.setIfInBounds_toArray, List.set_cons_zero, List.set_cons_succ]) | ((with_reducible refine sched_skip ?_ ?_ ?_ ?_); rotate_left; (rfl); (exact want_not rfl rfl rfl rfl rfl); simp only [Act.put, List.setIfInBounds_toArray, List.set_cons_zero, List.set_cons_succ])
                          refine sched_done (fun wz k1 => ?_)
                          have FZ := Lib.hid ((Ext.drew _).trans k1)
                          clear k1
                          go_wp2
                          go_roundw
                          case rel => exact ⟨m + 1, vq, by simp, by omega, by rw [HEV.out, setTo_length, HG.out.gk.gi.gd.len, ← HNP.out]; exact (FZ.out.block R (Array.getElem?_eq_some_iff.1 HRB.out).1).trans HRB.out, by rw [setTo_no hmd HNE.out]; exact HOQ.out.ext FZ.out, own_ExtK HKR.out FZ.out, HX.out.trans FZ.out⟩
                          case measure => simp [intOf]; omega
                      · obtain rfl : m = k := by omega
                        have m1 : ¬ (m : Int) < (m : Int) := by omega
                        have hvl : ∃ A' c', vq = .slice A' m c' := by
                          obtain ⟨A', c', e, _, _⟩ := own_shape hOQ.row
                          rw [setTo_length, hdk] at e
                          exact ⟨A', c', e⟩
                        obtain ⟨A', c', rfl⟩ := hvl
                        have hst : setTo ks[jj] kk n mo ds m = setAll ks[jj] kk n mo ds := by
                          rw [← setTo_all, hdk]
                        rw [hst] at hOQ
                        have hr1 := blk_cell hRb 1 _ rfl
                        have HRB := Lib.hid hRb
                        have HOQ := Lib.hid hOQ
                        have HKR := Lib.hid hkr
                        have HX := Lib.hid hx
                        have HGS := Lib.hid (show GJ nl ps i kk (jj + 1) ((L : Int) - (n : Int)) (setAll ks[jj] kk n mo ds) by
                          have hkd : kidsOf ps[i] ds = ks := by rw [kidsOf_T, HG.out.gk.gi.gd.paths, HKS.out]
                          have h := GJ.step (n := (n : Int)) (mo := mo) HG.out HNO.out hip (by rw [hkd]; exact hjks) hlk hn0 hnL (by rw [hkd, ← HNK.out]; exact HLAST.out) hmo1 hmo2
                          simp only [hkd] at h
                          exact h)
                        clear hst hOQ hRb hkr hx hdk
                        go_wp2
                        go_roundw
                        case rel => exact ⟨jj + 1, (L : Int) - (n : Int), _, _, _, rfl, by simp, by omega, HRB.out, HOQ.out, HGS.out, HKR.out, HX.out⟩
                        case measure => simp [intOf]; omega
                · obtain rfl : jj = nk := by omega
                  have j1 : ¬ (jj : Int) < (jj : Int) := by omega
                  have HGE := Lib.hid (GJ.end HG.out (fun h => by rw [kidsOf_T, HG.out.gk.gi.gd.paths, ← HKS.out]; exact HNK.out))
                  go_wp2
                  go_roundw
                  case rel => exact ⟨kk + 1, _, _, _, by simp, by omega, HRB.out, HOQ.out, HGE.out, HKR.out, HX.out⟩
                  case measure => simp [intOf]; omega
            · obtain rfl : kk = nl := by omega
              have kk1 : ¬ (kk : Int) < (kk : Int) := by omega
              have HGE := Lib.hid (GK.end HG.out)
              go_wp2
              go_roundw
              case rel => exact ⟨i + 1, _, _, _, by simp, by omega, HRB.out, HOQ.out, HGE.out, HX.out⟩
              case measure => simp [intOf]; omega
        · obtain rfl : i = k := by omega
          have i1 : ¬ (i : Int) < (i : Int) := by omega
          have HRES := Lib.hid ((HX.out.block w.heap.size (Array.getElem?_eq_some_iff.1 HR0.out).1).trans HR0.out)
          have HLBX := Lib.hid ((HX.out.block gl (Array.getElem?_eq_some_iff.1 HL2.out).1).trans HL2.out)
          have y0 := blk_cell HRES.out 0 _ rfl
          have y1 := blk_cell HRES.out 1 _ rfl
          have g0 := blk_free HRES.out 0
          have g1 := blk_free HRES.out 1
          have hRw : R ≠ w.heap.size := by have := HRR.out; have := HS2.out; omega
          go_wp2
          refine bodyPost_ret (by simp [results, Tryd.results10, go_sem, y0, y1]; try rfl) rfl ?_
          have hgr : wr.grownBy ((wr.setCell ⟨w.heap.size, 0, none⟩ (.slice (some ⟨gl, 0, none⟩) nl 2)).setCell ⟨w.heap.size, 1, none⟩ (.slice Aq i cq)) (some w.heap.size) :=
            ⟨rfl, rfl, rfl, by simp [World.setCell], fun k _ hk => (Below.heap_setCell _ _ _ _ (fun e => hk (by rw [e]))).trans (Below.heap_setCell _ _ _ _ (fun e => hk (by rw [e])))⟩
          have hdk := HDK.out
          refine ⟨nl, hnl5, hnl4, _, _, ds, qs, R, rfl, by have := HRR.out; have := HS2.out; omega, ?_, ?_, ?_, ?_⟩
          · exact (lab_own w.heap.size gl nl HLBX.out HGL.out hnl4).kept hgr (.inr (own_other (lab_own w.heap.size gl nl HLBX.out HGL.out hnl4) HRES.out (by decide)))
          · have h := HOQ.out.kept hgr HRES.out (by decide) (by decide)
            rw [hdk] at h
            exact h
          · have e : (sh % 5).toNat = y := by have := HY.out; omega
            rw [e, ← HPS.out, ← HNP.out]
            exact HG.out
          · exact ext_set (ext_set (X2.out.trans HX.out) (Nat.le_refl _) _) (Nat.le_refl _) _
end Go.Proofs.YtflbhnckhbcboaaDoor
