/- dispatchlaw5.Make. -/
import Derived.Test.YtigfoghkndoakaaDoorMakeD
import Derived.Test.YtigfoghkndoakaaDoorPutQ
import Derived.Test.YtigfoghkndoakaaDoorWith5
import Derived.Test.YtigfoghkndoakaaDoorSched3
import Derived.Test.YtigfoghkndoakaaDoorSched2
import Derived.Test.YtigfoghkndoakaaDoorFoot
import Derived.Laws.Concat
import Derived.Deep.CutRange
import Derived.Deep.DeepCutAuto
import Derived.Deep.CutBlock
namespace Go.Proofs.YtigfoghkndoakaaDoor
open Go.RowKit

theorem Tryd.infoCapM : (Tryd.prog.info? 38).map (fun i => (i.zero, i.size, i.bytes)) = some (some (.agg #[.int .i64 0, .int .i64 0]), 2, 16) := by kernel_rfl
theorem within_val (a : Int) (n : Nat) (m : Int) (w : World) (hm : m = (n : Int)) (hn : 0 < n ∧ n ≤ 1125899906842625) :
    Calls Tryd.prog 9 #[.int .i64 a, .int .i64 m] w fun e w' => ∃ y : Nat, e = .returned (.int .i64 (y : Int)) ∧ y < n ∧ (y : Int) = a % (n : Int) ∧ w = w' := by
  subst hm
  refine (within_any a n w ⟨by omega, by omega⟩).mono ?_
  rintro e w' ⟨rfl, rfl⟩
  have h0 := Int.emod_nonneg a (show (n : Int) ≠ 0 by omega)
  have h1 := Int.emod_lt_of_pos a (show (0 : Int) < n by omega)
  refine ⟨(a % (n : Int)).toNat, ?_, by omega, by omega, rfl⟩
  rw [Int.toNat_of_nonneg h0]
theorem FootL.cellA {S : Nat → Prop} {w w' : World} (h : FootL S w w') {a : Addr} {v : Value} (hc : w.cell? a = some v) (hb : ¬ S a.block) : w'.cell? a = some v := by
  rw [World.cell?_of_block (h.block a.block (World.block_lt_of_cell? w _ hc) hb)]
  exact hc
theorem ba_appM (a b : ByteArray) : (a ++ b).data.toList = a.data.toList ++ b.data.toList := by
  cases a; cases b; simp
theorem cell_two_newM (w : World) (x y : Value) (t : TypeId) : ∀ j u, [x, y][j]? = some u → (w.alloc (.cells #[x, y] t)).cell? ((⟨w.heap.size, 0, none⟩ : Addr).add j) = some u := by
  intro j u hu
  have hadd : (⟨w.heap.size, 0, none⟩ : Addr).add j = ⟨w.heap.size, j, none⟩ := by unfold Addr.add; split <;> simp_all
  rw [hadd]
  exact bcel (heap_alloc_new w _) j u (by rw [← Array.getElem?_toList]; exact hu)
theorem one2M {a b : Int} : ∀ u ∈ [Value.int .i64 a, .int .i64 b], u.oneCell' = true := by
  intro u hu
  rcases List.mem_cons.1 hu with rfl | hu
  · rfl
  · rw [List.mem_singleton] at hu
    subst hu
    rfl
theorem bset2two {w : World} {b : Nat} {x y : Value} {t : TypeId} (h : w.heap[b]? = some (.cells #[x, y] t (0, 0))) (v u : Value) : ((w.setCell ⟨b, 0, none⟩ v).setCell ⟨b, 1, none⟩ u).heap[b]? = some (.cells #[v, u] t (0, 0)) := bset (bset h 0 v) 1 u
theorem own_baseM {w : World} {B B' : Nat} {e : TypeId} {k : Nat} {v : Value} {n : Nat} {xs : List Value} (h : w.ownsRow B e k v n xs) (hB : B' ≤ B) : w.ownsRow B' e k v n xs := by
  refine ⟨h.1, ?_⟩
  rcases h.2 with hn | ⟨g, cap, cur, h1, h2, h3⟩
  · exact .inl hn
  · exact .inr ⟨g, cap, cur, h1, Nat.le_trans hB h2, h3⟩
theorem OwnQs.baseM {w : World} {B B' : Nat} {v : Value} {ds : List QD} {qs : List QC} (h : OwnQs w B v ds qs) (hB : B' ≤ B) : OwnQs w B' v ds qs :=
  ⟨own_baseM h.row hB, h.len, fun k q hk hq => ⟨(h.each k q hk hq).1, (h.each k q hk hq).2.1, (h.each k q hk hq).2.2.1, own_baseM (h.each k q hk hq).2.2.2 hB⟩, h.apart⟩
theorem lab_ownM {w : World} (B gl nl : Nat) (h : w.heap[gl]? = some (.cells #[.string ⟨#[]⟩, .string ⟨#[103, 112, 117]⟩, .string ⟨#[115, 115, 100]⟩] 9 (0, 0))) (hB : B ≤ gl) (h2 : nl ≤ 3) : w.ownsRow B 9 1 (.slice (some ⟨gl, 0, none⟩) nl 3) nl ((labsM nl).map sv) := by
  refine ⟨by simp [labsM]; omega, .inr ⟨gl, 3, _, rfl, hB, h, h2, by simp [maxLen], rfl, ?_⟩⟩
  rcases nl with _ | _ | _ | _ | nl
  · rfl
  · rfl
  · rfl
  · rfl
  · omega
theorem ext_setM {w w1 : World} {b o : Nat} (h : Ext w w1) (hb : w.heap.size ≤ b) (v : Value) : Ext w (w1.setCell ⟨b, o, none⟩ v) :=
  FootL.ext (S := fun i => i = b) (FootL.setCell _ w1 b o v rfl) h (by rintro i hi; exact Nat.le_trans hb (Nat.le_of_eq hi.symm))
theorem bset3a {w : World} {b : Nat} {x y z : Value} {t : TypeId} (h : w.heap[b]? = some (.cells #[x, y, z] t (0, 0))) (v : Value) : (w.setCell ⟨b, 0, none⟩ v).heap[b]? = some (.cells #[v, y, z] t (0, 0)) := bset h 0 v
theorem bset3b {w : World} {b : Nat} {x y z : Value} {t : TypeId} (h : w.heap[b]? = some (.cells #[x, y, z] t (0, 0))) (v : Value) : (w.setCell ⟨b, 1, none⟩ v).heap[b]? = some (.cells #[x, v, z] t (0, 0)) := bset h 1 v
theorem bset2b {w : World} {b : Nat} {x y : Value} {t : TypeId} (h : w.heap[b]? = some (.cells #[x, y] t (0, 0))) (v : Value) : (w.setCell ⟨b, 1, none⟩ v).heap[b]? = some (.cells #[x, v] t (0, 0)) := bset h 1 v
def MakePost (nl : Nat) (rs : List RQ) (w : World) (e : Ending) (w' : World) : Prop := ∃ vl vq qs, e = .returned (.agg #[vl, vq]) ∧ w'.ownsRow w.heap.size 9 1 vl nl ((labsM nl).map sv) ∧ OwnQs w' w.heap.size vq (makeQ nl (rs.take 16)) qs ∧ Ext w w'

set_option maxRecDepth 100000 in
set_option maxHeartbeats 12800000 in
theorem Make_any (lab : Int) (v : Value) (rs : List RQ) (w : World) (hr : RdRaw w v rs) (hlen : rs.length ≤ 20) :
    Calls Tryd.prog 7 #[.agg #[.int .i64 lab, v]] w fun e w' => ∃ nl : Nat, 1 ≤ nl ∧ nl ≤ 3 ∧ (nl : Int) = 1 + lab % 3 ∧ MakePost nl rs w e w' := by
  obtain ⟨c0, hc, hcz0, hcz1, hcz2⟩ := info_parts Tryd.infoCapM
  obtain ⟨is, hi, hz0, hz1, hz2⟩ := info_parts Tryd.infoStr
  have HRW := Lib.hid hr
  obtain ⟨A, c, rfl, hc1, hc2, hcell, hrs⟩ := hr
  obtain ⟨N, hN⟩ : ∃ N, N = rs.length := ⟨_, rfl⟩
  rw [← hN] at hc1 hlen ⊢
  have HN := Lib.hid hN
  have HC := Lib.hid hcell
  have HRS := Lib.hid hrs
  clear hcell hrs hN
  go_enter Tryd.func7, Tryd.ntmps7
  go_wp2_with fail
  obtain ⟨W2, hW2⟩ : ∃ W2, W2 = ((w.alloc (.cells #[.int .i64 lab, .slice A N c] 24)).alloc (.cells #[.slice none 0 0, .slice none 0 0] 30)).alloc (.cells #[.string ⟨#[]⟩, .string ⟨#[103, 112, 117]⟩, .string ⟨#[115, 115, 100]⟩] 9) := ⟨_, rfl⟩
  rw [← hW2]
  have X2 := Lib.hid (show Ext w W2 by rw [hW2]; exact ((ext_alloc _ _).trans (ext_alloc _ _)).trans (ext_alloc _ _))
  have HRB := Lib.hid (show W2.heap[w.heap.size]? = some (.cells #[.int .i64 lab, .slice A N c] 24 (0, 0)) by rw [hW2]; exact ext_blk ((ext_alloc _ _).trans (ext_alloc _ _)) (heap_alloc_new w _))
  have HRES := Lib.hid (show W2.heap[w.heap.size + 1]? = some (.cells #[.slice none 0 0, .slice none 0 0] 30 (0, 0)) by rw [hW2]; exact ext_blk (ext_alloc _ _) (alloc_at (by simp)))
  have HLB := Lib.hid (show W2.heap[w.heap.size + 1 + 1]? = some (.cells #[.string ⟨#[]⟩, .string ⟨#[103, 112, 117]⟩, .string ⟨#[115, 115, 100]⟩] 9 (0, 0)) by rw [hW2]; exact alloc_at (by simp))
  have HSZ := Lib.hid (show W2.heap.size = w.heap.size + 1 + 1 + 1 by rw [hW2]; simp)
  clear hW2
  (with_reducible refine (within_val lab 3 3 _ rfl (by omega)).mono ?_)
  rintro e w3 ⟨y, rfl, hy3, hy, rfl⟩
  have HY := Lib.hid hy
  have hnl1 : (1 + (y : Int)).toNat = y + 1 := by omega
  have hnl2 : (0 : Int) ≤ 1 + (y : Int) := by omega
  have hnl3 : 1 + (y : Int) ≤ 3 := by omega
  clear hy
  obtain ⟨nl, hnl⟩ : ∃ nl, nl = y + 1 := ⟨_, rfl⟩
  have hn1 : 1 ≤ nl := by omega
  have hn3 : nl ≤ 3 := by omega
  have HNL := Lib.hid (show (nl : Int) = 1 + lab % 3 by have hh : (y : Int) = lab % 3 := HY.out; omega)
  obtain ⟨L, hL⟩ : ∃ L, L = w.heap.size + 1 + 1 := ⟨_, rfl⟩
  have HL2 := Lib.hid (show W2.heap[L]? = some (.cells #[.string ⟨#[]⟩, .string ⟨#[103, 112, 117]⟩, .string ⟨#[115, 115, 100]⟩] 9 (0, 0)) by rw [hL]; exact HLB.out)
  have HWL := Lib.hid (show w.heap.size + 1 < L by omega)
  obtain ⟨R, hR⟩ : ∃ R, R = W2.heap.size := ⟨_, rfl⟩
  have HRR := Lib.hid hR
  have HWR := Lib.hid (show w.heap.size + 1 < R ∧ L < R by have := HSZ.out; omega)
  have HR3 := Lib.hid (show (W2.alloc (.cells #[.slice (some ⟨L, 0, none⟩) nl 3, .slice none 0 0] 30)).heap[R]? = some (.cells #[.slice (some ⟨L, 0, none⟩) nl 3, .slice none 0 0] 30 (0, 0)) by rw [hR]; exact heap_alloc_new W2 _)
  go_wp2
  rw [← hnl, ← hL, ← hR]
  clear hnl hL hR hnl1 hnl2 hnl3 HLB HY hy3
  obtain ⟨M, hM⟩ : ∃ M, M = min N 16 := ⟨_, rfl⟩
  have hMN : M ≤ N := by omega
  have hM16 : M ≤ 16 := by omega
  have HM := Lib.hid (show ∀ k, k < N → k < 16 → k < M by omega)
  have HMT := Lib.hid (show rs.take 16 = rs.take M by
    rw [hM, HN.out]
    rcases Nat.le_total rs.length 16 with h | h
    · rw [Nat.min_eq_left h, List.take_length, List.take_of_length_le h]
    · rw [Nat.min_eq_right h])
  clear hM
  go_loopw [4] (fun i wr => ∃ (k : Nat) (vq : Value) (qs : List QC), i = .int .i64 k ∧ k ≤ M ∧ wr.heap[R]? = some (.cells #[.slice (some ⟨L, 0, none⟩) nl 3, vq] 30 (0, 0)) ∧ OwnQs wr R vq (makeQ nl (rs.take k)) qs ∧ Ext W2 wr) (fun i _ => M - (intOf i).toNat)
  case atStart => exact ⟨0, _, [], rfl, by omega, HR3.out, OwnQs.nil _ _, ext_alloc _ _⟩
  case round =>
    obtain ⟨k, vq, qs, rfl, hk, hRb, hOQ, hx⟩ := hrel
    have HB := Lib.hid hRb
    have HOQ := Lib.hid hOQ
    have HX := Lib.hid hx
    clear hRb hOQ hx
    have hb0 := ext_blk HX.out HRB.out
    have r1 := bcel hb0 1 (.slice A N c) rfl
    have k0 : (0 : Int) ≤ (k : Int) := by omega
    clear hb0
    by_cases hlt : k < M
    · have i1 : (k : Int) < (N : Int) := by omega
      have i2 : (k : Int) < 16 := by omega
      have i3 : decide ((k : Int) < (N : Int)) = true := by simp; omega
      have hkr : k < rs.length := by have := HN.out; omega
      obtain ⟨a, rfl, hb, hcs⟩ := HC.out (by have := HN.out; omega)
      obtain ⟨x, hxx⟩ : ∃ x, x = rs[k] := ⟨_, rfl⟩
      obtain ⟨c1, c2, c3⟩ := hcs k hkr
      rw [← hxx] at c1 c2 c3
      have hrx := HRS.out x (by rw [hxx]; exact List.getElem_mem hkr)
      have HMS := Lib.hid (show makeQ nl (rs.take (k + 1)) = putD (qM nl x) (makeQ nl (rs.take k)) by rw [hxx, List.take_succ_eq_append_getElem hkr, makeQ_snoc])
      have XW := Lib.hid (X2.out.trans HX.out)
      have c1 := XW.out.cell' c1
      have c2 := XW.out.cell' c2
      have c3 := XW.out.cell' c3
      have HNM := Lib.hid (hrx.1.ext XW.out)
      have HCP := Lib.hid (hrx.2.ext XW.out)
      obtain ⟨u, hu⟩ : ∃ u, u = x.user % 1000000 := ⟨_, rfl⟩
      obtain ⟨ux, hux⟩ : ∃ ux, ux = x.user := ⟨_, rfl⟩
      rw [← hux] at c3 hu
      have HU := Lib.hid (show (qM nl x).user = u by rw [hu, hux]; rfl)
      obtain ⟨Q, hQ⟩ : ∃ Q, Q = wr.heap.size := ⟨_, rfl⟩
      have HQR := Lib.hid (show R < Q by rw [hQ]; exact (Array.getElem?_eq_some_iff.1 HB.out).1)
      obtain ⟨WQ, hWQ⟩ : ∃ WQ, WQ = wr.alloc (.cells #[.string ⟨#[114, 111, 111, 116]⟩, .slice none 0 0, .int .i64 u] 36) := ⟨_, rfl⟩
      have HQB := Lib.hid (show WQ.heap[Q]? = some (.cells #[.string ⟨#[114, 111, 111, 116]⟩, .slice none 0 0, .int .i64 u] 36 (0, 0)) by rw [hWQ, hQ]; exact heap_alloc_new wr _)
      have HXQ := Lib.hid (show Ext wr WQ by rw [hWQ]; exact ext_alloc _ _)
      have HQQ := Lib.hid hQ
      clear hrx hcs hxx hux
      go_wp2_with fail
      (with_reducible refine (within_any ux 1000000 _ (by omega)).mono ?_)
      rintro e w5 ⟨rfl, rfl⟩
      rw [← hu]
      clear hu
      go_upto_block 2 with fail
      rw [← hWQ, ← hQ]
      clear hWQ hQ
      go_cut [6] from 35 to 67 (fun s6 wx => ∃ P : ByteArray, P.data.toList = pathM (x.names.take 4) ∧ wx.heap[Q]? = some (.cells #[.string P, .slice none 0 0, .int .i64 u] 36 (0, 0)) ∧ Ext wr wx)
      case first =>
        obtain ⟨NA, NN, nc, hnv, hNN, hn1', hn2', hnm⟩ := ints_open HNM.out
        rw [hnv] at c1
        have HNN := Lib.hid hNN
        have HNI := Lib.hid hnm
        clear hNN hnm hnv
        obtain ⟨MN, hMNe⟩ : ∃ MN, MN = min NN 4 := ⟨_, rfl⟩
        have m1 : MN ≤ NN := by omega
        have m2 : MN ≤ 4 := by omega
        have HMN2 := Lib.hid (show ∀ j, j < NN → j < 4 → j < MN by omega)
        have HT4 := Lib.hid (show x.names.take 4 = x.names.take MN by
          rw [hMNe, HNN.out]
          rcases Nat.le_total x.names.length 4 with h | h
          · rw [Nat.min_eq_left h, List.take_length, List.take_of_length_le h]
          · rw [Nat.min_eq_right h])
        clear hMNe
        have hSQ : wr.heap.size ≤ Q := by have := HQQ.out; omega
        go_wp2_with fail
        go_loopw [6] (fun i wx => ∃ (j : Nat) (P : ByteArray), i = .int .i64 j ∧ j ≤ MN ∧ P.data.toList = pathM (x.names.take j) ∧ wx.heap[Q]? = some (.cells #[.string P, .slice none 0 0, .int .i64 u] 36 (0, 0)) ∧ Ext wr wx) (fun i _ => MN - (intOf i).toNat)
        case atStart => exact ⟨0, _, rfl, by omega, rfl, HQB.out, HXQ.out⟩
        case round =>
          obtain ⟨j, P, rfl, hj, hP, hQb, hx⟩ := hrel
          have HP := Lib.hid hP
          have HQJ := Lib.hid hQb
          have HXJ := Lib.hid hx
          have hPs : (P.size : Int) ≤ 20 := by
            have h1 := pathM_len (x.names.take j)
            rw [List.length_take] at h1
            rw [ba_size, HP.out]
            omega
          clear hP hQb hx
          have r1' := HXJ.out.cell r1
          have c1' := HXJ.out.cell' c1
          have j0 : (0 : Int) ≤ (j : Int) := by omega
          by_cases hlj : j < MN
          · have j1 : (j : Int) < (NN : Int) := by omega
            have j2 : (j : Int) < 4 := by omega
            have j3 : decide ((j : Int) < (NN : Int)) = true := by simp; omega
            obtain ⟨na, rfl, hnb, hni⟩ := HNI.out (by omega)
            have hjl : j < x.names.length := by have := HNN.out; omega
            have nz := HXJ.out.cell' (hni j hjl)
            obtain ⟨z, hz⟩ : ∃ z, z = x.names[j] := ⟨_, rfl⟩
            rw [← hz] at nz
            have hnb' : na.block < Q := by have := HQQ.out; omega
            obtain ⟨y4, hy4⟩ : ∃ y4 : Nat, (y4 : Int) = z % 4 := ⟨(z % 4).toNat, by omega⟩
            have y40 : (0 : Int) ≤ (y4 : Int) := by omega
            have y44 : (y4 : Int) < 4 := by omega
            have hwi := fun W => (hy4 ▸ within_any z 4 W (by omega) : Calls Tryd.prog 9 #[.int .i64 z, .int .i64 4] W fun e w' => e = .returned (.int .i64 (y4 : Int)) ∧ W = w')
            have HWI := Lib.hid hwi
            have HPM := Lib.hid (show pathM (x.names.take (j + 1)) = pathM (x.names.take j) ++ 46 :: nameT y4 by rw [List.take_succ_eq_append_getElem hjl, pathM_snoc, ← hz, ← hy4]; rfl)
            clear hwi hy4 hz hni
            obtain ⟨T, hT1, hT2⟩ : ∃ T : ByteArray, (#[Value.string ⟨#[97]⟩, .string ⟨#[98]⟩, .string ⟨#[99, 45, 49]⟩, .string ⟨#[57]⟩] : Array Value)[y4]? = some (.string T) ∧ T.data.toList = nameT y4 := by
              have : y4 < 4 := by omega
              rcases y4 with _ | _ | _ | _ | y4
              · exact ⟨_, rfl, rfl⟩
              · exact ⟨_, rfl, rfl⟩
              · exact ⟨_, rfl, rfl⟩
              · exact ⟨_, rfl, rfl⟩
              · omega
            have HT1 := Lib.hid hT1
            have HT2 := Lib.hid hT2
            have hTs : (T.size : Int) ≤ 3 := by have := nameT_len y4; rw [ba_size, hT2]; omega
            clear hT1 hT2
            have HQN := Lib.hid (show (P ++ ⟨#[46]⟩ ++ T).data.toList = pathM (x.names.take (j + 1)) by rw [ba_appM, ba_appM, HT2.out, HP.out, HPM.out, List.append_assoc]; rfl)
            have hwQ : w.heap.size ≠ Q := by have := HQR.out; have := HWR.out; omega
            have haQ : (a.add (k * 3)).block ≠ Q := by rw [add_block]; have := HQR.out; have := HWR.out; omega
            have hnQ : (na.add j).block ≠ Q := by rw [add_block]; omega
            go_wp2
            refine wp_region_tree (FootL fun b => b = Q) (FootL_way _) (.free 0 (.free 4 (.free 5 (.free 6 (.free 7 (.free 8 (.free 9 (.free 10 (.free 11 (.free 12 (.free 13 (.two 1 3 (.free 2 (.step 3 (.free 14 (.free 15 (.free 16 (.free 17 (.step 18 .done)))))) ) (.free 14 (.free 15 (.step 1 (.free 2 (.free 16 (.free 17 (.step 18 .done))))))))))))))))))) (by kernel_rfl) (by kernel_rfl) (fun _ _ _ _ _ h => h) ?_
            repeat first | ((with_reducible refine tree_free ?_ ?_ ?_ ?_ (fun wk k1 => ?_) ?_); rotate_left 2; (rfl); (first | exact want_none rfl | exact want_some rfl rfl rfl rfl); (go_simp; first | exact OkX.val | (have y1 := k1.cell r1' hwQ; have y2 := k1.cellA c1' haQ; have y3 := k1.cellA nz hnQ; go_simp; exact OkX.val) | (refine OkX.eqv (OkX.same (HWI.out _)) ?_; exact rfl)); simp only [Act.put, List.setIfInBounds_toArray, List.set_cons_zero, List.set_cons_succ]) | ((with_reducible refine tree_skip ?_ ?_ ?_ ?_); rotate_left; (rfl); (exact want_not rfl rfl rfl rfl rfl); simp only [Act.put, List.setIfInBounds_toArray, List.set_cons_zero, List.set_cons_succ])
            ((with_reducible refine tree_two ?_ ?_ ?_ ?_ ?_ ?_ (fun wk k1 => ?_) (fun wk k1 => ?_)); rotate_left 2; (rfl); (first | exact want_none rfl | exact want_some rfl rfl rfl rfl); (rfl); (first | exact want_none rfl | exact want_some rfl rfl rfl rfl))
            · have E0 := Lib.hid (HXJ.out.trans ((Ext.drew _).trans k1))
              have q1 := bcel (ext_blk ((Ext.drew _).trans k1) HQJ.out) 0 (.string P) rfl
              have hqa := Lib.hid (ext_blk ((Ext.drew _).trans k1) HQJ.out)
              clear k1
              go_simp
              refine ⟨FootL.of_ext (Ext.refl _), ?_⟩
              try simp only [Act.put, List.setIfInBounds_toArray, List.set_cons_zero, List.set_cons_succ]
              clear q1
              repeat first | ((with_reducible refine tree_free ?_ ?_ ?_ ?_ (fun wk k1 => ?_) ?_); rotate_left 2; (rfl); (first | exact want_none rfl | exact want_some rfl rfl rfl rfl); (go_simp; first | exact OkX.val | (rw [if_neg (by omega)]; exact OkX.val)); simp only [Act.put, List.setIfInBounds_toArray, List.set_cons_zero, List.set_cons_succ]) | ((with_reducible refine tree_skip ?_ ?_ ?_ ?_); rotate_left; (rfl); (exact want_not rfl rfl rfl rfl rfl); simp only [Act.put, List.setIfInBounds_toArray, List.set_cons_zero, List.set_cons_succ])
              ((with_reducible refine tree_step ?_ ?_ ?_ (fun wk k1 => ?_)); rotate_left; (rfl); (first | exact want_none rfl | exact want_some rfl rfl rfl rfl))
              have E1 := Lib.hid (E0.out.trans k1)
              have hqb := Lib.hid (ext_blk k1 hqa.out)
              clear k1
              go_simp
              refine ⟨FootL.of_ext (ext_alloc _ _), ?_⟩
              try simp only [Act.put, List.setIfInBounds_toArray, List.set_cons_zero, List.set_cons_succ]
              have HTB := Lib.hid (heap_alloc_new wk (.cells #[.string ⟨#[97]⟩, .string ⟨#[98]⟩, .string ⟨#[99, 45, 49]⟩, .string ⟨#[57]⟩] 9 (0, 0)))
              have EA := Lib.hid (E1.out.trans (ext_alloc wk (.cells #[.string ⟨#[97]⟩, .string ⟨#[98]⟩, .string ⟨#[99, 45, 49]⟩, .string ⟨#[57]⟩] 9 (0, 0))))
              have hqc := Lib.hid (ext_blk (ext_alloc wk (.cells #[.string ⟨#[97]⟩, .string ⟨#[98]⟩, .string ⟨#[99, 45, 49]⟩, .string ⟨#[57]⟩] 9 (0, 0))) hqb.out)
              have hTQ : wk.heap.size ≠ Q := by have := (Array.getElem?_eq_some_iff.1 hqb.out).1; omega
              generalize wk.heap.size = t at HTB hTQ ⊢
              have tc := bcel HTB.out y4 (.string T) HT1.out
              repeat first | ((with_reducible refine tree_free ?_ ?_ ?_ ?_ (fun wk k1 => ?_) ?_); rotate_left 2; (rfl); (first | exact want_none rfl | exact want_some rfl rfl rfl rfl); (go_simp; first | exact OkX.val | (rw [if_neg (by omega)]; exact OkX.val) | (have tt := k1.cell tc hTQ; go_simp; exact OkX.val)); simp only [Act.put, List.setIfInBounds_toArray, List.set_cons_zero, List.set_cons_succ]) | ((with_reducible refine tree_skip ?_ ?_ ?_ ?_); rotate_left; (rfl); (exact want_not rfl rfl rfl rfl rfl); simp only [Act.put, List.setIfInBounds_toArray, List.set_cons_zero, List.set_cons_succ])
              ((with_reducible refine tree_step ?_ ?_ ?_ (fun wk k1 => ?_)); rotate_left; (rfl); (first | exact want_none rfl | exact want_some rfl rfl rfl rfl))
              have E2 := Lib.hid (EA.out.trans k1)
              have hqd := ext_blk k1 hqc.out
              have q1 := bcel hqd 0 (.string P) rfl
              have q2 := bfre hqd 0
              clear k1
              go_simp
              refine ⟨FootL.setCell _ _ Q 0 _ rfl, ?_⟩
              try simp only [Act.put, List.setIfInBounds_toArray, List.set_cons_zero, List.set_cons_succ]
              refine tree_done (fun wz k1 => ?_)
              have HQE := Lib.hid (ext_blk k1 (bset3a hqd _))
              have HXE := Lib.hid ((ext_setM (o := 0) E2.out hSQ _).trans k1)
              clear k1 q1 q2 hqd tc
              go_wp2
              go_roundw
              case rel => exact ⟨j + 1, _, by simp, by omega, HQN.out, HQE.out, HXE.out⟩
              case measure => simp [intOf]; omega
            · have E0 := Lib.hid (HXJ.out.trans ((Ext.drew _).trans k1))
              have hqa := Lib.hid (ext_blk ((Ext.drew _).trans k1) HQJ.out)
              clear k1
              go_simp
              refine ⟨FootL.of_ext (ext_alloc _ _), ?_⟩
              try simp only [Act.put, List.setIfInBounds_toArray, List.set_cons_zero, List.set_cons_succ]
              have HTB := Lib.hid (heap_alloc_new wk (.cells #[.string ⟨#[97]⟩, .string ⟨#[98]⟩, .string ⟨#[99, 45, 49]⟩, .string ⟨#[57]⟩] 9 (0, 0)))
              have EA := Lib.hid (E0.out.trans (ext_alloc wk (.cells #[.string ⟨#[97]⟩, .string ⟨#[98]⟩, .string ⟨#[99, 45, 49]⟩, .string ⟨#[57]⟩] 9 (0, 0))))
              have hqc := Lib.hid (ext_blk (ext_alloc wk (.cells #[.string ⟨#[97]⟩, .string ⟨#[98]⟩, .string ⟨#[99, 45, 49]⟩, .string ⟨#[57]⟩] 9 (0, 0))) hqa.out)
              have hTQ : wk.heap.size ≠ Q := by have := (Array.getElem?_eq_some_iff.1 hqa.out).1; omega
              generalize wk.heap.size = t at HTB hTQ ⊢
              have tc := bcel HTB.out y4 (.string T) HT1.out
              repeat first | ((with_reducible refine tree_free ?_ ?_ ?_ ?_ (fun wk k1 => ?_) ?_); rotate_left 2; (rfl); (first | exact want_none rfl | exact want_some rfl rfl rfl rfl); (go_simp; first | exact OkX.val | (have tt := k1.cell tc hTQ; go_simp; exact OkX.val)); simp only [Act.put, List.setIfInBounds_toArray, List.set_cons_zero, List.set_cons_succ]) | ((with_reducible refine tree_skip ?_ ?_ ?_ ?_); rotate_left; (rfl); (exact want_not rfl rfl rfl rfl rfl); simp only [Act.put, List.setIfInBounds_toArray, List.set_cons_zero, List.set_cons_succ])
              ((with_reducible refine tree_step ?_ ?_ ?_ (fun wk k1 => ?_)); rotate_left; (rfl); (first | exact want_none rfl | exact want_some rfl rfl rfl rfl))
              have E1 := Lib.hid (EA.out.trans k1)
              have hqd := Lib.hid (ext_blk k1 hqc.out)
              have q1 := bcel hqd.out 0 (.string P) rfl
              clear k1 tc
              go_simp
              refine ⟨FootL.of_ext (Ext.refl _), ?_⟩
              try simp only [Act.put, List.setIfInBounds_toArray, List.set_cons_zero, List.set_cons_succ]
              clear q1
              repeat first | ((with_reducible refine tree_free ?_ ?_ ?_ ?_ (fun wk k1 => ?_) ?_); rotate_left 2; (rfl); (first | exact want_none rfl | exact want_some rfl rfl rfl rfl); (go_simp; first | exact OkX.val | (rw [if_neg (by omega)]; exact OkX.val)); simp only [Act.put, List.setIfInBounds_toArray, List.set_cons_zero, List.set_cons_succ]) | ((with_reducible refine tree_skip ?_ ?_ ?_ ?_); rotate_left; (rfl); (exact want_not rfl rfl rfl rfl rfl); simp only [Act.put, List.setIfInBounds_toArray, List.set_cons_zero, List.set_cons_succ])
              ((with_reducible refine tree_step ?_ ?_ ?_ (fun wk k1 => ?_)); rotate_left; (rfl); (first | exact want_none rfl | exact want_some rfl rfl rfl rfl))
              have E2 := Lib.hid (E1.out.trans k1)
              have hqe := ext_blk k1 hqd.out
              have q1 := bcel hqe 0 (.string P) rfl
              have q2 := bfre hqe 0
              clear k1
              go_simp
              refine ⟨FootL.setCell _ _ Q 0 _ rfl, ?_⟩
              try simp only [Act.put, List.setIfInBounds_toArray, List.set_cons_zero, List.set_cons_succ]
              refine tree_done (fun wz k1 => ?_)
              have HQE := Lib.hid (ext_blk k1 (bset3a hqe _))
              have HXE := Lib.hid ((ext_setM (o := 0) E2.out hSQ _).trans k1)
              clear k1 q1 q2 hqe
              go_wp2
              go_roundw
              case rel => exact ⟨j + 1, _, by simp, by omega, HQN.out, HQE.out, HXE.out⟩
              case measure => simp [intOf]; omega
          · obtain rfl : j = MN := by omega
            have HPF := Lib.hid (show P.data.toList = pathM (x.names.take 4) by rw [HT4.out]; exact HP.out)
            have hh : ¬ (j : Int) < (NN : Int) ∨ ((j : Int) < (NN : Int) ∧ ¬ (j : Int) < 4) := by
              by_cases h1 : j < NN
              · by_cases h2 : j < 4
                · have := HMN2.out j h1 h2; omega
                · exact .inr ⟨by omega, by omega⟩
              · exact .inl (by omega)
            rcases hh with i1 | ⟨i1, i2⟩
            all_goals (
              go_wp2_with fail
              go_meet
              case rel => exact ⟨P, HPF.out, HQJ.out, HXJ.out⟩)
      case rest =>
        obtain ⟨P, hP, hq, hx⟩ := hcut
        have HP := Lib.hid hP
        have HQ1 := Lib.hid hq
        have HX1 := Lib.hid hx
        clear hP hq hx
        go_upto_block 4 with fail
        clear HQB HXQ
        go_cut [7, 8] from 68 to 113 (fun s7 s8 wx => ∃ (Av : Option Addr) (cv : Nat), wx.heap[Q]? = some (.cells #[.string P, .slice Av nl cv, .int .i64 u] 36 (0, 0)) ∧ wx.ownsRow (Q + 1) 38 2 (.slice Av nl cv) nl (capCells ((List.range nl).map (capM x))) ∧ Ext wr wx)
        case first =>
          obtain ⟨CA, cc, hcv, hcn1, hcn2, hcc⟩ := HCP.out
          rw [hcv] at c2
          have HCC := Lib.hid hcc
          clear hcv hcc
          obtain ⟨XN, hXN⟩ : ∃ XN, XN = x.n := ⟨_, rfl⟩
          rw [← hXN] at c2 hcn1
          have HXN := Lib.hid hXN
          clear hXN
          have hSQ : wr.heap.size ≤ Q := by have := HQQ.out; omega
          have hWQ : w.heap.size < wr.heap.size := by have := HWR.out; have := (Array.getElem?_eq_some_iff.1 HB.out).1; omega
          go_wp2_with fail
          go_loopw [7] (fun i wx => ∃ (j : Nat) (Av : Option Addr) (cv : Nat), i = .int .i64 j ∧ j ≤ nl ∧ wx.heap[Q]? = some (.cells #[.string P, .slice Av j cv, .int .i64 u] 36 (0, 0)) ∧ wx.ownsRow (Q + 1) 38 2 (.slice Av j cv) j (capCells ((List.range j).map (capM x))) ∧ Ext wr wx) (fun i _ => nl - (intOf i).toNat)
          case atStart => exact ⟨0, none, 0, rfl, by omega, HQ1.out, World.ownsRow_nil _ _ _ 2, HX1.out⟩
          case round =>
            obtain ⟨j, Av, cv, rfl, hj, hQb, ho, hx⟩ := hrel
            have HQJ := Lib.hid hQb
            have HO := Lib.hid ho
            have HXJ := Lib.hid hx
            clear hQb ho hx
            have j0 : (0 : Int) ≤ (j : Int) := by omega
            have rL := bcel (ext_blk HXJ.out HB.out) 0 (.slice (some ⟨L, 0, none⟩) nl 3) rfl
            by_cases hlj : j < nl
            · have j1 : (j : Int) < (nl : Int) := by omega
              have r1' := HXJ.out.cell r1
              have c2' := HXJ.out.cell' c2
              obtain ⟨X, hX⟩ : ∃ X, X = wr.heap.size := ⟨_, rfl⟩
              obtain ⟨WX, hWX⟩ : ∃ WX, WX = wr.alloc (.cells #[.int .i64 10000, .int .i64 10000] 38) := ⟨_, rfl⟩
              have HXB := Lib.hid (show WX.heap[X]? = some (.cells #[.int .i64 10000, .int .i64 10000] 38 (0, 0)) by rw [hWX, hX]; exact heap_alloc_new wr _)
              have HXX := Lib.hid (show Ext wr WX by rw [hWX]; exact ext_alloc _ _)
              have hQX : Q < X := by rw [hX]; exact (Array.getElem?_eq_some_iff.1 HQJ.out).1
              have hXw : wr.heap.size ≤ X := by omega
              have rr1 := HXX.out.cell r1'
              have cc2 := HXX.out.cell' c2'
              clear r1' c2'
              go_upto_region 14 with fail
              rw [← hWX, ← hX]
              clear hWX hX
              go_cut [84] from 76 to 84 (fun s84 wx => (∃ b : Bool, s84 = .bool b ∧ (b = true ↔ j < XN)) ∧ wx = WX)
              case first =>
                by_cases hjn : j < XN
                · have n1 : (j : Int) < (XN : Int) := by omega
                  have n2 : decide ((j : Int) < (XN : Int)) = true := by simp; omega
                  go_wp2
                  go_meet
                  case rel => exact ⟨⟨_, rfl, by simp [hjn]⟩, rfl⟩
                · have n1 : ¬ (j : Int) < (XN : Int) := by omega
                  have n2 : decide ((j : Int) < (XN : Int)) = false := by simp; omega
                  go_wp2
                  go_meet
                  case rel => exact ⟨⟨_, rfl, by simp [hjn]⟩, rfl⟩
              case rest =>
              obtain ⟨⟨b, rfl, hbN⟩, rfl⟩ := hcut
              have HBN := Lib.hid hbN
              clear hbN
              go_upto_if 84 with fail
              go_cut [] from 85 to 107 (fun wy => wy.heap[X]? = some (.cells #[.int .i64 (capM x j).1, .int .i64 (capM x j).2] 38 (0, 0)) ∧ Ext wr wy)
              case first =>
                cases b with
                | true =>
                  have hjn : j < XN := HBN.out.1 rfl
                  obtain ⟨ca, rfl, hcb, hci⟩ := HCC.out (by have := HXN.out; omega)
                  have g1 := (HXJ.out.trans HXX.out).cell' (hci j (by have := HXN.out; omega) 0 (by omega))
                  have g2 := (HXJ.out.trans HXX.out).cell' (hci j (by have := HXN.out; omega) 1 (by omega))
                  have ad : ca.add (j * 2 + 1) = ⟨(ca.add (j * 2)).block, (ca.add (j * 2)).off + 1, none⟩ := by rw [← Go.Deep.add_add]; generalize ca.add (j * 2) = z; unfold Addr.add; rw [if_neg (by omega)]
                  rw [ad] at g2
                  rw [Nat.add_zero] at g1
                  have HM := Lib.hid (show capM x j = (x.f j 0 % 10001, x.f j 1 % 10001) by unfold capM; rw [if_pos (by have := HXN.out; omega)])
                  generalize x.f j 0 = v1 at g1 HM
                  generalize x.f j 1 = v2 at g2 HM
                  obtain ⟨z1, hz1⟩ : ∃ z1, v1 % 10001 = z1 := ⟨_, rfl⟩
                  obtain ⟨z2, hz2⟩ : ∃ z2, v2 % 10001 = z2 := ⟨_, rfl⟩
                  have hwi1 := fun W => (hz1 ▸ within_any v1 10001 W (by omega) : Calls Tryd.prog 9 #[.int .i64 v1, .int .i64 10001] W fun e w' => e = .returned (.int .i64 z1) ∧ W = w')
                  have hwi2 := fun W => (hz2 ▸ within_any v2 10001 W (by omega) : Calls Tryd.prog 9 #[.int .i64 v2, .int .i64 10001] W fun e w' => e = .returned (.int .i64 z2) ∧ W = w')
                  have HW1 := Lib.hid hwi1
                  have HW2 := Lib.hid hwi2
                  rw [hz1, hz2] at HM
                  clear hwi1 hwi2 hz1 hz2 ad hci
                  have hwX : w.heap.size ≠ X := by omega
                  have haX : (⟨(a.add (k * 3)).block, (a.add (k * 3)).off + 1, none⟩ : Addr).block ≠ X := by show (a.add (k * 3)).block ≠ X; rw [add_block]; omega
                  have hcX : (ca.add (j * 2)).block ≠ X := by rw [add_block]; omega
                  have hcX' : (⟨(ca.add (j * 2)).block, (ca.add (j * 2)).off + 1, none⟩ : Addr).block ≠ X := hcX
                  go_wp2
                  refine wp_region_sched (FootL fun b => b = X) (FootL_way _) [(0, true), (1, true), (2, true), (3, true), (4, true), (5, true), (6, true), (7, true), (8, true), (9, true), (10, true), (11, true), (12, true), (13, true), (14, true), (15, true), (16, true), (17, true), (18, true), (19, true), (20, true), (21, true), (22, true), (23, false)] (by kernel_rfl) (by kernel_rfl) (fun _ _ _ _ _ h => h) ?_
                  repeat first | ((with_reducible refine sched_free ?_ ?_ ?_ ?_ (fun wk k1 => ?_) ?_); rotate_left 2; (rfl); (first | exact want_none rfl | exact want_some rfl rfl rfl rfl); (go_simp; first | exact OkX.val | (have y1 := k1.cell rr1 hwX; have y2 := k1.cellA cc2 haX; have y3 := k1.cellA g1 hcX; have y4 := k1.cellA g2 hcX'; go_simp; exact OkX.val) | ((with_reducible refine OkX.eqv (OkX.same (HW1.out _)) ?_); exact rfl) | ((with_reducible refine OkX.eqv (OkX.same (HW2.out _)) ?_); exact rfl)); simp only [Act.put, List.setIfInBounds_toArray, List.set_cons_zero, List.set_cons_succ]) | ((with_reducible refine sched_skip ?_ ?_ ?_ ?_); rotate_left; (rfl); (exact want_not rfl rfl rfl rfl rfl); simp only [Act.put, List.setIfInBounds_toArray, List.set_cons_zero, List.set_cons_succ])
                  ((with_reducible refine sched_step ?_ ?_ ?_ (fun wk k1 => ?_)); rotate_left; (rfl); (first | exact want_none rfl | exact want_some rfl rfl rfl rfl))
                  have E2 := Lib.hid (HXX.out.trans ((Ext.drew _).trans k1))
                  have xb := ext_blk ((Ext.drew _).trans k1) HXB.out
                  have q0 := bcel xb 0 (.int .i64 10000) rfl
                  have q1 := bcel xb 1 (.int .i64 10000) rfl
                  have f0 := bfre xb 0
                  have f1 := bfre xb 1
                  clear k1
                  go_simp
                  refine ⟨(FootL_way _).trans (FootL.setCell _ _ X 0 _ rfl) (FootL.setCell _ _ X 1 _ rfl), ?_⟩
                  try simp only [Act.put, List.setIfInBounds_toArray, List.set_cons_zero, List.set_cons_succ]
                  refine sched_done (fun wz k1 => ?_)
                  have HXE := Lib.hid (ext_blk k1 (bset2two xb _ _))
                  have HWE := Lib.hid ((ext_setM (o := 1) (ext_setM (o := 0) E2.out hXw _) hXw _).trans k1)
                  clear k1 q0 q1 f0 f1 xb
                  go_wp2
                  go_meet
                  case rel => exact ⟨by rw [HM.out]; exact HXE.out, HWE.out⟩
                | false =>
                  have hjn : ¬ j < XN := fun h => by have := HBN.out.2 h; cases this
                  have HM := Lib.hid (show capM x j = (10000, 10000) by unfold capM; rw [if_neg (by have := HXN.out; omega)])
                  go_wp2
                  go_meet
                  case rel => exact ⟨by rw [HM.out]; exact HXB.out, HXX.out⟩
              case rest =>
                obtain ⟨hxb, hxw⟩ := hcut
                have HSN := Lib.hid (show capCells ((List.range (j + 1)).map (capM x)) = capCells ((List.range j).map (capM x)) ++ [.int .i64 (capM x j).1, .int .i64 (capM x j).2] by rw [List.range_succ, List.map_append]; exact capCells_snoc _ _ _)
                generalize (capM x j).1 = p1 at hxb HSN
                generalize (capM x j).2 = p2 at hxb HSN
                have HXC := Lib.hid hxb
                have HXW := Lib.hid hxw
                clear hxb hxw
                have HOC := Lib.hid (own_ExtK HO.out HXW.out)
                have HQC := Lib.hid (ext_blk HXW.out HQJ.out)
                have q1 := bcel HQC.out 1 (.slice Av j cv) rfl
                have f1 := bfre HQC.out 1
                have x0 := bcel HXC.out 0 (.int .i64 p1) rfl
                have x1 := bcel HXC.out 1 (.int .i64 p2) rfl
                go_wp2_with (at_builtin; go_loud (refine wpList_append_own_at _ rfl (.tmp 109) (.tmp 111) 34 rfl (Q + 1) 38 c0 _ 2 16 Tryd.underlying34 hc hcz0 hcz1 hcz2 rfl (by decide) _ j (capCells ((List.range j).map (capM x))) rfl (HOC.out.alloc _) ⟨_, 0, none⟩ 1 1 [.int .i64 p1, .int .i64 p2] rfl rfl (cell_two_newM _ _ _ _) one2M ?c3 ?c4 ?c5 ?_))
                case c3 => simp [maxLen]; omega
                case c4 => omega
                case c5 =>
                  have := (Array.getElem?_eq_some_iff.1 HQC.out).1
                  simp; omega
                intro v' w5 ho5 hg5 _ hat5
                have HQ5 := Lib.hid (bapp (ext_alloc _ _) hg5 HQC.out (fun e => by have := (HOC.out.lt Q e).1; omega))
                have HO5 := Lib.hid (show w5.ownsRow (Q + 1) 38 2 v' (j + 1) (capCells ((List.range (j + 1)).map (capM x))) by rw [HSN.out]; exact ho5)
                have HX5 := Lib.hid (((HXJ.out.trans HXW.out).trans (ext_alloc _ _)).trans' (grown_below hg5 (by have := (HXJ.out.trans HXW.out).size; simp; omega) (fun g e => Nat.le_trans (Nat.le_succ_of_le hSQ) (HOC.out.lt g e).1)))
                have q5 := bcel HQ5.out 1 (.slice Av j cv) rfl
                have f5 := bfre HQ5.out 1
                obtain ⟨A5, c5, rfl, _, _⟩ := own_shape ho5
                clear ho5 hg5 hat5 q1 f1 x0 x1 rL
                go_wp2
                go_roundw
                case rel =>
                  refine ⟨j + 1, A5, c5, by simp, by omega, bset3b HQ5.out _, ?_, ext_setM HX5.out hSQ _⟩
                  exact HO5.out.kept (bgrown _ Q 1 _) (.inr fun e => by have := (HO5.out.lt Q e).1; omega)
                case measure => simp [intOf]; omega
            · obtain rfl : j = nl := by omega
              have j1 : ¬ (j : Int) < (j : Int) := by omega
              go_wp2_with fail
              go_meet
              case rel => exact ⟨Av, cv, HQJ.out, HO.out, HXJ.out⟩
        case rest =>
          obtain ⟨Av, cv, hq, ho, hx⟩ := hcut
          have HQ2 := Lib.hid hq
          have HO2 := Lib.hid ho
          have HX2 := Lib.hid hx
          clear hq ho hx HQ1 HX1 HNM HCP c1 c2 c3 r1
          obtain ⟨Aq, cq, rfl, hcq1, hcq2⟩ := own_shape HOQ.out.row
          have HB2 := Lib.hid (ext_blk HX2.out HB.out)
          have HOK := Lib.hid (HOQ.out.ext HX2.out)
          have HLEN := Lib.hid (show (makeQ nl (rs.take k)).length ≤ 100 by have h := makeQ_len nl (rs.take k); rw [List.length_take] at h; omega)
          have HHF := Lib.hid (show ∀ g, cb ⟨P, Av, nl, cv, u⟩ = some g → ∀ (i : Nat) (qi : QC), qs[i]? = some qi → cb qi ≠ some g by
            intro g hg i qi hqi e
            have h1 := (HO2.out.lt g hg).1
            have hil : i < (makeQ nl (rs.take k)).length := by rw [← HOQ.out.len]; exact (List.getElem?_eq_some_iff.1 hqi).1
            have h2 := ((HOQ.out.each i qi hil hqi).2.2.2.lt g e).2
            have := HQQ.out
            omega)
          have HO1 := Lib.hid (show OwnQ1 _ R ⟨P, Av, nl, cv, u⟩ (qM nl x) from ⟨HP.out, HU.out.symm, by simp [qM], own_baseM HO2.out (by have := HQR.out; omega)⟩)
          have HRW2 := Lib.hid ((Array.getElem?_eq_some_iff.1 HB2.out).1)
          obtain ⟨ds, hds⟩ : ∃ ds, ds = makeQ nl (rs.take k) := ⟨_, rfl⟩
          rw [← hds] at HOK HLEN HMS HB2 HB hcq1
          have b1 := bcel HB2.out 1 (.slice Aq ds.length cq) rfl
          have q0 := bcel HQ2.out 0 (.string P) rfl
          have q1 := bcel HQ2.out 1 (.slice Av nl cv) rfl
          have q2 := bcel HQ2.out 2 (.int .i64 u) rfl
          clear hds HOQ
          obtain ⟨DL, hDL⟩ : ∃ DL, DL = ds.length := ⟨_, rfl⟩
          rw [← hDL] at HOK HB2 HB hcq1 b1
          clear hDL
          go_wp2_with fail
          (with_reducible refine (put_any R _ ds qs ⟨P, Av, nl, cv, u⟩ (qM nl x) _ HOK.out HO1.out HHF.out HLEN.out (Nat.le_of_lt HRW2.out)).mono ?_)
          rintro e w5 ⟨v5, qs5, rfl, hO5, _, hx5⟩
          have HB5 := Lib.hid (ext_blk hx5 HB2.out)
          have HX5 := Lib.hid ((HX.out.trans HX2.out).trans hx5)
          rw [← HMS.out] at hO5
          obtain ⟨A5, c5, rfl, _, _⟩ := own_shape hO5.row
          have HO5 := Lib.hid hO5
          generalize (makeQ nl (rs.take (k + 1))).length = D5 at HO5 ⊢
          have b5 := bcel HB5.out 1 (.slice Aq DL cq) rfl
          have f5 := bfre HB5.out 1
          clear hO5 hx5 b1 q0 q1 q2
          go_wp2
          go_roundw
          case rel =>
            refine ⟨k + 1, _, qs5, by simp, by omega, bset2b HB5.out _, ?_, ?_⟩
            · exact HO5.out.kept (bgrown _ R 1 _) HB5.out (by decide) (by decide)
            · exact ext_setM HX5.out (by rw [HRR.out]; exact Nat.le_refl _) _
          case measure => simp [intOf]; omega
    · obtain rfl : k = M := by omega
      have hh : ¬ (k : Int) < (N : Int) ∨ ((k : Int) < (N : Int) ∧ ¬ (k : Int) < 16) := by
        by_cases h1 : k < N
        · by_cases h2 : k < 16
          · have := HM.out k h1 h2; omega
          · exact .inr ⟨by omega, by omega⟩
        · exact .inl (by omega)
      obtain ⟨Aq, cq, rfl, hcq1, hcq2⟩ := own_shape HOQ.out.row
      have HRB2 := Lib.hid (ext_blk HX.out HRES.out)
      have HLBX := Lib.hid (ext_blk HX.out HL2.out)
      have HOF := Lib.hid (show OwnQs _ R _ (makeQ nl (rs.take 16)) qs by rw [HMT.out]; exact HOQ.out)
      clear HOQ
      rw [← HMT.out] at HOF HB
      generalize hDL : (makeQ nl (rs.take 16)).length = DL at HOF HB
      clear hDL
      have z0 := bcel HB.out 0 (.slice (some ⟨L, 0, none⟩) nl 3) rfl
      have z1 := bcel HB.out 1 (.slice Aq DL cq) rfl
      have y0 := bcel HRB2.out 0 (.slice none 0 0) rfl
      have y1 := bcel HRB2.out 1 (.slice none 0 0) rfl
      have g0 := bfre HRB2.out 0
      have g1 := bfre HRB2.out 1
      have hRw : R ≠ w.heap.size + 1 := by have := HWR.out; omega
      rcases hh with i1 | ⟨i1, i2⟩
      all_goals (
        go_wp2
        refine bodyPost_ret (by simp [results, Tryd.results7, go_sem, y0, y1]; try rfl) rfl ?_
        have hgr : wr.grownBy ((wr.setCell ⟨w.heap.size + 1, 0, none⟩ (.slice (some ⟨L, 0, none⟩) nl 3)).setCell ⟨w.heap.size + 1, 1, none⟩ (.slice Aq DL cq)) (some (w.heap.size + 1)) :=
          ⟨rfl, rfl, rfl, by simp [World.setCell], fun k _ hk => (Below.heap_setCell _ _ _ _ (fun e => hk (by rw [e]))).trans (Below.heap_setCell _ _ _ _ (fun e => hk (by rw [e])))⟩
        refine ⟨nl, hn1, hn3, HNL.out, _, _, qs, rfl, ?_, ?_, ?_⟩
        · exact (lab_ownM w.heap.size L nl HLBX.out (by have := HWL.out; omega) hn3).kept hgr (.inr (own_other (lab_ownM w.heap.size L nl HLBX.out (by have := HWL.out; omega) hn3) HRB2.out (by decide)))
        · exact (HOF.out.kept hgr HRB2.out (by decide) (by decide)).baseM (by have := HWR.out; omega)
        · exact ext_set (ext_set (X2.out.trans HX.out) (by omega) _) (by omega) _)
end Go.Proofs.YtigfoghkndoakaaDoor
