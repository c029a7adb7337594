/- conf.reader.labels. -/
import Derived.Test.YtigfoghkndoakaaDoorRd5
import Derived.Deep.RegionLaw
import Derived.Laws.EntriesVeiled
namespace Go.Proofs.YtigfoghkndoakaaDoor
open Go.RowKit


theorem heap_new (W : World) (g : Nat) (o : Obj) (h : g = W.heap.size) : (W.alloc o).heap[g]? = some o := by subst h; exact World.alloc_heap_new W o
theorem grown_set (w : World) (b o : Nat) (v : Value) : w.grownBy (w.setCell ⟨b, o, none⟩ v) (some b) :=
  ⟨rfl, rfl, rfl, by simp, fun k _ hne => heap_setCell_other w ⟨b, o, none⟩ k v (fun e => hne (by rw [e]))⟩
theorem splice_lbl (n : Nat) (l : List Value) (z : Value) (h : l.length = n - 1) (hn : 0 < n) : splice (List.replicate n z) 1 l = z :: l := by
  obtain ⟨m, rfl⟩ : ∃ m, n = m + 1 := ⟨n - 1, by omega⟩
  unfold splice
  rw [h]
  simp [List.replicate_succ]
  omega
theorem step0_word {ws : List Tx} (h : ws.head? ≠ some wLabels) : step .none ws = (6, .none) := by
  unfold step; rw [if_pos (show CD.none.labels = [] from rfl), if_pos h]
theorem step0_many {ws : List Tx} (h : ws.head? = some wLabels) (h3 : 3 < ws.length) : step .none ws = (4, .none) := by
  unfold step; rw [if_pos (show CD.none.labels = [] from rfl), if_neg (by simp [h]), if_pos h3]
theorem step0_ok {ws : List Tx} (h : ws.head? = some wLabels) (h3 : ¬ 3 < ws.length) : step .none ws = (0, ⟨[] :: ws.tail, []⟩) := by
  unfold step; rw [if_pos (show CD.none.labels = [] from rfl), if_neg (by simp [h]), if_neg h3]; rfl

set_option maxRecDepth 100000 in
set_option maxHeartbeats 1600000 in
theorem labels_any (R B : Nat) (v : Value) (ws : List Tx) (w : World) (hr : Rd w v (ws.map sv)) (hne : ws ≠ []) (hR : RdrAt R B w .none) (hvR : v.ownBlock ≠ some R) :
    Calls Tryd.prog 32 #[.pointer (some ⟨R, 0, none⟩), v] w (StepPost R B .none ws w) := by
  obtain ⟨i0, hi, hz0, hz1, hz2⟩ := info_parts Tryd.infoStr
  have HR0 := Lib.hid hr
  have RA := Lib.hid hR
  have hRB := hR.lt
  have hBw := hR.le
  obtain ⟨vl, vq, hR0, hl0, hq0⟩ := hR.ex
  obtain ⟨A, N, c, rfl, hN, hc1, hc2, hcell⟩ := strs_open hr
  have hN0 : 0 < N := by
    rw [hN]; exact List.length_pos_iff.2 hne
  obtain ⟨a, rfl, hb, hcs⟩ := hcell hN0
  have c0 := hcs 0 (by omega)
  have HCS := Lib.hid hcs
  rw [show a.add 0 = a from by unfold Addr.add; simp] at c0
  obtain ⟨x, hx⟩ : ∃ x, x = ws[0]'(by omega) := ⟨_, rfl⟩
  have hhd : ws.head? = some x := by rw [List.head?_eq_getElem?, List.getElem?_eq_getElem (show 0 < ws.length by omega), hx]
  rw [← hx] at c0
  obtain ⟨S, hS⟩ : ∃ S : ByteArray, S = ⟨x.toArray⟩ := ⟨_, rfl⟩
  rw [← hS] at c0
  have hSL : S.toList = x := by rw [hS, ByteArray.toList_eq]
  have HN := Lib.hid hN
  have hN1 : (1 : Int) ≤ (N : Int) := by omega
  have hN1' : (0 : Int) < (N : Int) := by omega
  clear hr hR hcell hcs hx hS hne
  by_cases hw : x = wLabels
  · have hcmp : S.toList = [108, 97, 98, 101, 108, 115] := by rw [hSL, hw]; rfl
    have hh : ws.head? = some wLabels := by rw [hhd, hw]
    clear hSL hw hhd
    by_cases h3 : (3 : Int) < (N : Int)
    · have HS := Lib.hid (step0_many hh (by rw [← HN.out]; omega))
      clear hN hR0 hl0 hq0
      go_enter Tryd.func32, Tryd.ntmps32
      go_wp2
      go_ret
      unfold StepPost
      rw [HS.out]
      exact ⟨rfl, RA.out, Fr.ext (Ext.refl _) (by obtain ⟨_, _, h, _⟩ := RA.out.ex; exact Nat.le_of_lt (Array.getElem?_eq_some_iff.1 h).1)⟩
    · have HS := Lib.hid (step0_ok hh (by rw [← HN.out]; omega))
      have hmk : ∀ W : World, (Instr.makeSlice 27 (.int .i64 (N : Int)) (.int .i64 (N : Int))).run Tryd.prog W = .ok (.slice (some ⟨W.heap.size, 0, none⟩) N N) (W.alloc (.cells (madeCells #[.string ⟨#[]⟩] N) 9)) := by
        intro W
        have := run_make (P := Tryd.prog) W 27 9 i0 (.string ⟨#[]⟩) Tryd.underlying27 hi hz0 .i64 .i64 (N : Int) (N : Int) (by omega) (by omega) (by rw [hz2]; omega) (by omega)
        rw [hz1] at this
        simpa [Value.cells] using this
      have r0 := cell_of_row w R 0 _ _ _ hR0
      have r1 := cell_of_row w R 1 _ _ _ hR0
      have r2 := cell_of_row w R 2 _ _ _ hR0
      have rf := fun o => frozen_of_row w R o _ _ hR0
      simp at r0 r1 r2
      have rz := (Array.getElem?_eq_some_iff.1 hR0).1
      have HR := Lib.hid hR0
      have Q0 := Lib.hid hq0
      clear hN hl0 hq0 hR0
      have sl1 : ∀ (W : World) (kl : IntKind), (Instr.slice 27 (.slice (some ⟨w.heap.size, 0, none⟩) N N) (some (.int kl 1)) none none).run Tryd.prog W = .ok (.slice (subA (some ⟨w.heap.size, 0, none⟩) 1 N) (N - 1) (N - 1)) W := fun W kl => sl_l (l := 1) Tryd.underlying27 hi hz1 (by omega) W kl
      have sl2 : ∀ (W : World) (kl : IntKind), (Instr.slice 27 (.slice (some a) N c) (some (.int kl 1)) none none).run Tryd.prog W = .ok (.slice (subA (some a) 1 c) (N - 1) (c - 1)) W := fun W kl => sl_l (l := 1) Tryd.underlying27 hi hz1 (by omega) W kl
      go_enter Tryd.func32, Tryd.ntmps32
      go_wp2
      refine at_world (fun W0 hW0 => ?_)
      have g0 : W0.cell? ⟨R, 0, none⟩ = some (.slice (some ⟨w.heap.size, 0, none⟩) N N) := by rw [hW0]; simp [go_sem, r0, rz]
      have HG := Lib.hid (show W0.heap[w.heap.size]? = some (.cells (List.replicate N (Value.string ⟨#[]⟩)).toArray 9 (0, 0)) by
        rw [hW0, heap_new _ _ _ (by simp)]
        congr 2
        rw [← Array.toList_inj, toList_madeCells_one])
      have HR1 := Lib.hid (show W0.heap[R]? = some (.cells #[.slice (some ⟨w.heap.size, 0, none⟩) N N, vq, .func (.func (takeFn .none)) #[.pointer (some ⟨R, 0, none⟩)] #[]] 64 (0, 0)) by
        rw [hW0, (ext_alloc _ _).block R (by simp; omega), heap_setCell_same w R 0 _ _ _ HR.out]; rfl)
      have hgr : w.grownBy W0 (some R) := by
        rw [hW0]
        exact World.grownBy.trans (grown_set w R 0 _) (World.grownBy_alloc _ _ _)
      have hrd : Rd W0 (.slice (subA (some a) 1 c) (N - 1) (c - 1)) (ws.tail.map sv) := by
        have := (HR0.out.grown hgr (fun g e e' => by injection e with e; subst e; exact hvR e')).subl (l := 1) (by omega)
        rwa [← List.map_drop, List.drop_one] at this
      have hqs : QsAt W0 B vq [] := Q0.out.low hgr (by omega)
      have HQS := Lib.hid hqs
      have htl : (ws.tail.map sv).length = N - 1 := by simp [← HN.out]
      have hsz : (Tryd.prog.info? 9).map (·.size) = some 1 := by rw [hi]; simp [hz1]
      have HSRC := Lib.hid (show ∀ W' : World, W'.heap = W0.heap → 0 < (ws.tail.map sv).length → subA (some (⟨w.heap.size, 0, none⟩ : Addr)) 1 N = some ⟨w.heap.size, 1, none⟩ ∧ ∃ ad, subA (some a) 1 c = some ad ∧ ∀ j v, (ws.tail.map sv)[j]? = some v → W'.cell? (ad.add j) = some v by
        intro W' hW' hpos
        refine ⟨?_, ?_⟩
        · unfold subA; rw [if_neg (by omega)]; rfl
        · obtain ⟨A', c', e, h1, h2, h3⟩ := hrd
          injection e with e1 e2 e3
          subst e1
          obtain ⟨ad, h4, h5, h6⟩ := h3 hpos
          refine ⟨ad, h4, fun j v hv => ?_⟩
          have := h6 j v hv
          simpa [World.cell?, hW'] using this)
      have hsp : splice (List.replicate N (Value.string ⟨#[]⟩)) 1 (ws.tail.map sv) = ([] :: ws.tail).map sv := splice_lbl N _ _ htl hN0
      have HSP := Lib.hid hsp
      have HTL := Lib.hid htl
      have h1s : ∀ v ∈ ws.tail.map sv, v.oneCell' = true := by intro v hv; simp only [List.mem_map] at hv; obtain ⟨_, _, rfl⟩ := hv; rfl
      have H1S := Lib.hid h1s
      have R5 := Lib.hid hW0
      have HGR := Lib.hid hgr
      clear hW0 hgr hrd hqs htl hsp h1s r0 r1 r2 rf c0
      go_region_law (refine step_copy_splice rfl (.tmp 24) (.tmp 26) 27 27 rfl 9 Tryd.underlying27 hsz _ _ (N - 1) (N - 1) (N - 1) (c - 1) rfl rfl w.heap.size 1 (List.replicate N (Value.string ⟨#[]⟩)) 9 HG.out (ws.tail.map sv) (by rw [HTL.out]; simp) (HSRC.out _ rfl) (by rw [HTL.out]; simp; omega) H1S.out w.heap.size W0 ((Below.refl _ _).drew) (Nat.le_refl _) ?_; intro w4 hg4 hb4)
      have hR4 : w4.heap[R]? = _ := (hb4.block R (by omega)).trans HR1.out
      have r4 := cell_of_row w4 R 2 _ _ _ hR4
      have rf := fun o => frozen_of_row w4 R o _ _ hR4
      simp at r4
      have hg4r : w.grownBy w4 (some R) := ⟨hb4.os.trans HGR.out.os, hb4.tape.trans HGR.out.tape, hb4.output.trans HGR.out.output, Nat.le_trans HGR.out.size hb4.size, fun k hk hne => (hb4.block k hk).trans (HGR.out.block k hk hne)⟩
      have F4 := Lib.hid (show Fr R B w w4 ∧ R ≤ w4.heap.size from ⟨Fr.of_grown hg4r (Nat.le_of_lt rz), Nat.le_trans (Nat.le_of_lt rz) hg4r.size⟩)
      have HR4 := Lib.hid hR4
      have O4 := Lib.hid (show w4.ownsRow B 9 1 (.slice (some ⟨w.heap.size, 0, none⟩) N N) N (([] :: ws.tail).map sv) from by
        have h2 := hg4.out
        rw [HSP.out] at h2
        have hl : (([] :: ws.tail).map sv).length = N := by simp only [List.map_cons, List.length_cons, HTL.out]; omega
        exact ⟨by rw [hl]; omega, .inr ⟨w.heap.size, N, _, rfl, by omega, h2, Nat.le_refl _, by simp [maxLen]; omega, by simp only [List.size_toArray, hl]; omega, by simp only [Nat.mul_one]; exact List.take_of_length_le (by rw [hl]; omega)⟩⟩)
      have Q4 := Lib.hid (Q0.out.low (R := R) hg4r (by omega))
      clear hg4r
      clear hg4 hb4 hR4
      go_wp2
      go_ret
      unfold StepPost
      rw [HS.out]
      refine ⟨rfl, ⟨⟨.slice (some ⟨w.heap.size, 0, none⟩) N N, vq, ?_, ?_, ?_⟩, hRB, by have := F4.out.1.size; simp; omega⟩, F4.out.1.set _ F4.out.2⟩
      · rw [heap_setCell_same w4 R 2 _ _ _ HR4.out]
        simp [takeFn]
      · have hlen : (([] :: ws.tail) : List Tx).length = N := by have := HTL.out; simp at this ⊢; omega
        show World.ownsRow _ _ _ 1 _ (([] :: ws.tail) : List Tx).length _
        rw [hlen]
        exact O4.out.kept (grown_set w4 R 2 _) (.inr fun e => by have := (O4.out.lt R e).1; omega)
      · exact Q4.out.low (R := R) (grown_set w4 R 2 _) (by omega)
  · have hcmp : (S.toList == [108, 97, 98, 101, 108, 115]) = false := by rw [hSL, beq_eq_false_iff_ne]; exact hw
    have HS := Lib.hid (step0_word (ws := ws) (by rw [hhd]; intro e; injection e with e; exact hw e))
    clear hSL hw hhd hN hR0 hl0 hq0
    go_enter Tryd.func32, Tryd.ntmps32
    go_wp2
    go_ret
    unfold StepPost
    rw [HS.out]
    exact ⟨rfl, RA.out, Fr.ext (Ext.refl _) (by obtain ⟨_, _, h, _⟩ := RA.out.ex; exact Nat.le_of_lt (Array.getElem?_eq_some_iff.1 h).1)⟩
end Go.Proofs.YtigfoghkndoakaaDoor
