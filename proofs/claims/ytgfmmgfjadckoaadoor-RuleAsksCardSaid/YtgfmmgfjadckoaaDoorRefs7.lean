/- dispatchref6: Find, Leaf. -/
import Derived.Test.YtgfmmgfjadckoaaDoorRefs6
namespace Go.Proofs.YtgfmmgfjadckoaaDoor
open Go.RowKit

theorem blk_set' {w : World} {b : Nat} {cs : Array Value} {t : TypeId} (h : w.heap[b]? = some (.cells cs t (0, 0))) (j : Nat) (v : Value) : (w.setCell ⟨b, j, none⟩ v).heap[b]? = some (.cells (cs.setIfInBounds j v) t (0, 0)) := by
  rw [heap_setCell_same w b j _ _ _ h]
theorem blk_app' {w V w5 : World} {row : Option Nat} {Q : Nat} {o : Obj} (hV : Ext w V) (hg : V.grownBy w5 row) (hb : w.heap[Q]? = some o) (hne : row ≠ some Q) : w5.heap[Q]? = some o := by
  have hlt := (Array.getElem?_eq_some_iff.1 hb).1
  rw [hg.block Q (Nat.lt_of_lt_of_le hlt hV.size) (fun e => hne e.symm), hV.block Q hlt]
  exact hb

set_option maxRecDepth 100000 in
set_option maxHeartbeats 3200000 in
theorem rFind_any (ds : List QD) (vl vq : Value) (S : ByteArray) (w : World) (hq : QAt w vq ds) (hlen : ds.length ≤ 1000) (hcp : ∀ q ∈ ds, 1 ≤ q.caps.length ∧ q.caps.length ≤ 1000) :
    Calls Tryd.prog 17 #[.agg #[vl, vq], .string S] w (FindPost S.data.toList ds w) := by
  obtain ⟨c0, hc, hcz0, hcz1, hcz2⟩ := info_parts Tryd.infoCapF
  obtain ⟨A, N, c, rfl, hN, hc1, hc2, hcell⟩ := hq.open
  have HC := Lib.hid hcell
  have HN := Lib.hid hN
  have HCP := Lib.hid hcp
  have hN1 : N ≤ 1000 := by omega
  obtain ⟨W0, hW0⟩ : ∃ W0, W0 = (w.alloc (.cells #[vl, .slice A N c] 25)).alloc (.cells #[.string ⟨#[]⟩, .slice none 0 0, .int .i64 0] 33) := ⟨_, rfl⟩
  have X0 := Lib.hid (show Ext w W0 by rw [hW0]; exact (ext_alloc _ _).trans (ext_alloc _ _))
  have b1 : W0.cell? ⟨w.heap.size, 1, none⟩ = some (.slice A N c) := by rw [hW0]; simp [go_sem]
  have HRB := Lib.hid (show W0.heap[w.heap.size + 1]? = some (.cells #[.string ⟨#[]⟩, .slice none 0 0, .int .i64 0] 33 (0, 0)) by
    rw [hW0]
    have h := heap_alloc_new (w.alloc (.cells #[vl, .slice A N c] 25)) (.cells #[.string ⟨#[]⟩, .slice none 0 0, .int .i64 0] 33 (0, 0))
    rwa [show (w.alloc (.cells #[vl, .slice A N c] 25)).heap.size = w.heap.size + 1 by simp] at h)
  clear hcell hN hq hcp
  go_enter Tryd.func17, Tryd.ntmps17
  go_wp2
  rw [← hW0]
  clear hW0
  go_loopw [6] (fun i wr => ∃ (k : Nat), i = .int .i64 k ∧ k ≤ N ∧ (∀ q ∈ ds.take k, q.path ≠ S.data.toList) ∧ Ext W0 wr) (fun i _ => N - (intOf i).toNat)
  case atStart => exact ⟨0, rfl, by omega, by simp, Ext.refl _⟩
  case round =>
    obtain ⟨k, rfl, hk, hno, hx⟩ := hrel
    have HX := Lib.hid hx
    have HNO := Lib.hid hno
    have k0 : (0 : Int) ≤ (k : Int) := by omega
    have b1r := hx.cell b1
    have HRB2 := Lib.hid ((hx.block (w.heap.size + 1) (Array.getElem?_eq_some_iff.1 HRB.out).1).trans HRB.out)
    clear hx hno
    by_cases hlt : k < N
    · have k1' : (k : Int) < (N : Int) := by omega
      have hkl : k < ds.length := by have := HN.out; omega
      obtain ⟨g, rfl, hg, hqc⟩ := HC.out (by omega)
      obtain ⟨P, Ac, cc, h1, h2, h3, h4, h5⟩ := (hqc k hkl).ex
      have e0 := (X0.out.trans HX.out).cell h1
      have e1 := (X0.out.trans HX.out).cell h2
      have e2 := (X0.out.trans HX.out).cell h3
      have HPP := Lib.hid h4
      have H5 := Lib.hid (h5.ext (X0.out.trans HX.out))
      obtain ⟨nc, hnc⟩ : ∃ nc, nc = ds[k].caps.length := ⟨_, rfl⟩
      obtain ⟨uu, huu⟩ : ∃ uu, uu = ds[k].user := ⟨_, rfl⟩
      rw [← hnc] at e1 H5
      rw [← huu] at e2
      have hn1 : 1 ≤ nc ∧ nc ≤ 1000 := by rw [hnc]; exact HCP.out _ (List.getElem_mem hkl)
      have HNC := Lib.hid hnc
      have HUU := Lib.hid huu
      clear hqc h1 h2 h3 h4 h5 hnc huu hg
      by_cases hPS : P = S
      · have q1 : (P.toList == S.toList) = true := by rw [hPS]; simp
        have HKP := Lib.hid (show ds[k].path = S.data.toList by rw [← HPP.out, hPS])
        clear hPS
        obtain ⟨A', c', ev, hcc1, hcc2, hcl, hccell⟩ := H5.out
        injection ev with ev1 ev2 ev3
        subst ev1 ev3
        obtain ⟨a, rfl, hab, hacs⟩ := hccell (by omega)
        obtain ⟨WQ, hWQ⟩ : ∃ WQ, WQ = wr.alloc (.cells #[.string P, .slice (some a) nc cc, .int .i64 uu] 33) := ⟨_, rfl⟩
        have XQ := Lib.hid (show Ext wr WQ by rw [hWQ]; exact ext_alloc _ _)
        have HQB := Lib.hid (show WQ.heap[wr.heap.size]? = some (.cells #[.string P, .slice (some a) nc cc, .int .i64 uu] 33 (0, 0)) by rw [hWQ]; exact heap_alloc_new wr _)
        have HCS := Lib.hid (show ∀ (j : Nat) (u : Value), (capCells ds[k].caps)[j]? = some u → (WQ.alloc (.cells #[] 41)).cell? (a.add j) = some u from fun j u hu =>
          (Below.cell (XQ.out.trans (ext_alloc WQ _)) (p := a.add j) (by rw [add_block]; exact hab)).trans (hacs j u hu))
        have HL := Lib.hid hcl
        have HO := Lib.hid (own_emptyK WQ WQ.heap.size (Nat.le_refl _))
        have d1 := (ext_alloc WQ (.cells #[] 41)).cell (blk_cell' HQB.out 1 _ rfl)
        have hbR : wr.heap.size ≠ w.heap.size + 1 := by
          have := (Array.getElem?_eq_some_iff.1 HRB2.out).1
          omega
        obtain ⟨b, hb⟩ : ∃ b, b = wr.heap.size := ⟨_, rfl⟩
        have HBS := Lib.hid hb
        rw [← hb] at HQB d1 hbR
        clear hccell hacs hab ev2 hcl
        go_upto_region 6 with fail
        rw [← hWQ, ← hb]
        clear hWQ hb e0 e1 e2 b1r
        go_wp2_with (at_builtin; go_loud (refine wpList_append_own_at _ rfl (.tmp 28) (.tmp 30) 31 rfl WQ.heap.size 41 c0 _ 2 16 Tryd.underlying31 hc hcz0 hcz1 hcz2 rfl (by decide) _ 0 [] rfl HO.out a nc cc (capCells ds[k].caps) rfl HL.out HCS.out (caps_one _) ?c3 ?c4 ?c5 ?_))
        case c3 => simp [maxLen]; omega
        case c4 => omega
        case c5 => simp
        intro v' w3 ho3 hg3 _ _
        have hblt : b < WQ.heap.size := (Array.getElem?_eq_some_iff.1 HQB.out).1
        have HQ3 := Lib.hid (blk_app' (ext_alloc WQ _) hg3 HQB.out (fun e => by simp [Value.ownBlock] at e; omega))
        have HR3 := Lib.hid (blk_app' (XQ.out.trans (ext_alloc WQ _)) hg3 HRB2.out (fun e => by
          have := (Array.getElem?_eq_some_iff.1 HRB2.out).1
          have := XQ.out.size
          simp [Value.ownBlock] at e; omega))
        have HE3 := Lib.hid ((((X0.out.trans HX.out).trans XQ.out).trans (ext_alloc WQ _)).trans' (grown_below hg3 (by have := ((X0.out.trans HX.out).trans XQ.out).size; simp; omega) (fun k hk => by have := ((X0.out.trans HX.out).trans XQ.out).size; simp [Value.ownBlock] at hk; omega)))
        obtain ⟨A3, c3, rfl, _, _⟩ := own_shape ho3
        have f1 := blk_cell' HQ3.out 1 _ rfl
        have ff1 := blk_free' HQ3.out 1
        obtain ⟨W4, hW4⟩ : ∃ W4, W4 = w3.setCell ⟨b, 1, none⟩ (.slice A3 nc c3) := ⟨_, rfl⟩
        have HQ4 := Lib.hid (show W4.heap[b]? = some (.cells #[.string P, .slice A3 nc c3, .int .i64 uu] 33 (0, 0)) by rw [hW4, blk_set' HQ3.out]; rfl)
        have HR4 := Lib.hid (show W4.heap[w.heap.size + 1]? = some (.cells #[.string ⟨#[]⟩, .slice none 0 0, .int .i64 0] 33 (0, 0)) by
          rw [hW4, heap_setCell_other w3 ⟨b, 1, none⟩ (w.heap.size + 1) _ (fun e => hbR e.symm)]; exact HR3.out)
        have hbw : w.heap.size ≤ b := by have := (X0.out.trans HX.out).size; have := HBS.out; omega
        have HE4 := Lib.hid (show Ext w W4 by rw [hW4]; exact ext_set HE3.out hbw _)
        clear ho3 hg3
        go_upto_region 7 with fail
        rw [← hW4]
        clear hW4 f1 ff1 d1
        have y0 := blk_cell' HR4.out 0 _ rfl
        have y1 := blk_cell' HR4.out 1 _ rfl
        have y2 := blk_cell' HR4.out 2 _ rfl
        have g := blk_free' HR4.out
        have g0 := g 0
        have g1 := g 1
        have g2 := g 2
        have z0 := blk_cell' HQ4.out 0 _ rfl
        have z1 := blk_cell' HQ4.out 1 _ rfl
        have z2 := blk_cell' HQ4.out 2 _ rfl
        have HL2 := Lib.hid (has_yes hkl HKP.out)
        clear g
        go_wp2
        refine bodyPost_ret (by simp [results, Tryd.results17, go_sem, y0, y1, y2]; try rfl) rfl ?_
        unfold FindPost
        rw [HL2.out]
        exact ⟨P, _, nc, c3, uu, rfl, ext_set (ext_set (ext_set HE4.out (by omega) _) (by omega) _) (by omega) _, .inr ⟨k, hkl, HKP.out, by rw [HPP.out, HKP.out], HNC.out, HUU.out⟩⟩
      · have q1 : (P.toList == S.toList) = false := ba_ne hPS
        have HK := Lib.hid (show ∀ q ∈ ds.take (k + 1), q.path ≠ S.data.toList by
          rw [List.take_succ_eq_append_getElem hkl]
          intro q hq
          rcases List.mem_append.1 hq with h | h
          · exact HNO.out q h
          · simp at h
            subst h
            intro e
            exact hPS (ba_eq (by rw [HPP.out, e])))
        clear hPS
        go_wp2
        go_roundw
        case rel => exact ⟨k + 1, by simp, by omega, HK.out, HX.out⟩
        case measure => simp [intOf]; omega
    · have k1' : ¬ (k : Int) < (N : Int) := by omega
      have HL := Lib.hid (show hasB S.data.toList ds = false from has_no (by have := HNO.out; rwa [List.take_of_length_le (by have := HN.out; omega)] at this))
      have y0 := blk_cell' HRB2.out 0 _ rfl
      have y1 := blk_cell' HRB2.out 1 _ rfl
      have y2 := blk_cell' HRB2.out 2 _ rfl
      have g := blk_free' HRB2.out
      have g0 := g 0
      have g1 := g 1
      have g2 := g 2
      clear g
      go_wp2
      refine bodyPost_ret (by simp [results, Tryd.results17, go_sem, y0, y1, y2]; try rfl) rfl ?_
      unfold FindPost
      rw [HL.out]
      exact ⟨_, _, _, _, _, rfl, ext_set (ext_set (ext_set (X0.out.trans HX.out) (by omega) _) (by omega) _) (by omega) _, .inl ⟨rfl, rfl, rfl, rfl⟩⟩
end Go.Proofs.YtgfmmgfjadckoaaDoor
