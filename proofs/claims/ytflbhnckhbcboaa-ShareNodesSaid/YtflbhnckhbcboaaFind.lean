/- rule.Find. -/
import Derived.Test.YtflbhnckhbcboaaIndex
import Derived.Test.YtflbhnckhbcboaaOwnC
import Derived.Test.YtflbhnckhbcboaaSched
import Derived.WalkSpells
import Derived.Deep.CutRange
namespace Go.Proofs.Ytflbhnckhbcboaa
open Go.RowKit

theorem Try.infoCapF : (Try.prog.info? 42).map (fun i => (i.zero, i.size, i.bytes)) = some (some (.agg #[.int .i64 0, .int .i64 0]), 2, 16) := by kernel_rfl
theorem blk_cell' {w : World} {b : Nat} {cs : Array Value} {t : TypeId} (h : w.heap[b]? = some (.cells cs t (0, 0))) (j : Nat) (v : Value) (hv : cs[j]? = some v) : w.cell? ⟨b, j, none⟩ = some v := by
  rw [cell_of_row w b j cs t (0, 0) h, hv]
theorem blk_free' {w : World} {b : Nat} {cs : Array Value} {t : TypeId} (h : w.heap[b]? = some (.cells cs t (0, 0))) (j : Nat) : w.frozen? ⟨b, j, none⟩ = false := by
  simp [World.frozen?, h]
theorem own_emptyK (W : World) (B : Nat) (h : B ≤ W.heap.size) : (W.alloc (.cells #[] 42)).ownsRow B 42 2 (.slice (some ⟨W.heap.size, 0, none⟩) 0 0) 0 [] :=
  ⟨rfl, .inr ⟨W.heap.size, 0, #[], rfl, h, heap_alloc_new W _, Nat.le_refl _, by simp [maxLen], by simp, by simp⟩⟩
theorem caps_one (cs : List (Int × Int)) : ∀ u ∈ capCells cs, u.oneCell' = true := by
  intro u hu
  unfold capCells at hu
  rw [List.mem_flatMap] at hu
  obtain ⟨p, _, hu⟩ := hu
  simp at hu
  rcases hu with rfl | rfl <;> rfl

theorem capClone_any (A : Option Addr) (n c : Nat) (cs : List (Int × Int)) (w : World) (h : RdK 2 w (.slice A n c) n (capCells cs)) (h1 : 1 ≤ n) (h2 : n ≤ 1000) :
    Calls Try.prog 24 #[.slice A n c] w fun e w' => ∃ A' c', e = .returned (.slice A' n c') ∧ w'.ownsRow w.heap.size 42 2 (.slice A' n c') n (capCells cs) ∧ Ext w w' := by
  obtain ⟨c0, hc, hcz0, hcz1, hcz2⟩ := info_parts Try.infoCapF
  obtain ⟨A', c', ev, hc1, hc2, hl, hcell⟩ := h
  injection ev with e1 e2 e3
  subst e1 e3
  obtain ⟨a, rfl, hb, hcs⟩ := hcell (by omega)
  have hn := fun (W : World) (n c n' c' : Nat) => Lib.run_eql_slice_nil (P := Try.prog) W 38 42 (some a) n c n' c' Try.underlying38
  have HO := Lib.hid (own_emptyK w w.heap.size (Nat.le_refl _))
  have HCS := Lib.hid (show ∀ (j : Nat) (u : Value), (capCells cs)[j]? = some u → (w.alloc (.cells #[] 42)).cell? (a.add j) = some u from fun j u hu => (Below.cell (ext_alloc w _) (p := a.add j) (by rw [add_block]; exact hb)).trans (hcs j u hu))
  have HL := Lib.hid hl
  clear hcell hcs hb hl e2
  go_enter Try.func24, Try.ntmps24
  go_wp2_with (at_builtin; go_loud (refine wpList_append_own_at _ rfl (.tmp 5) (.tmp 6) 38 rfl w.heap.size 42 c0 _ 2 16 Try.underlying38 hc hcz0 hcz1 hcz2 rfl (by decide) _ 0 [] rfl HO.out a n c (capCells cs) rfl HL.out HCS.out (caps_one cs) ?c3 ?c4 ?c5 ?_))
  case c3 => simp [maxLen]; omega
  case c4 => omega
  case c5 => simp
  intro v' w3 ho3 hg3 _ hat3
  have HE := Lib.hid ((ext_alloc w (.cells #[] 42)).trans' (grown_below hg3 (by simp) (fun k hk => by simp [Value.ownBlock] at hk; omega)))
  have HO3 := Lib.hid ho3
  obtain ⟨A3, c3, rfl, _, _⟩ := own_shape ho3
  clear ho3 hg3 hat3
  go_wp2
  go_ret
  exact ⟨_, _, rfl, HO3.out, HE.out⟩

/-- Only block R may turn. -/
def LR (R : Nat) (a b : World) : Prop := a.grownBy b (some R)
theorem LR.ext {R : Nat} {a b : World} (h : Ext a b) : LR R a b := grown_of_ext h _
theorem LR_way (R : Nat) : Way (LR R) := ⟨fun h => LR.ext h, fun {a b c} h k => ⟨k.os.trans h.os, k.tape.trans h.tape, k.output.trans h.output, Nat.le_trans h.size k.size, fun i hi hne => (k.block i (Nat.lt_of_lt_of_le hi h.size) hne).trans (h.block i hi hne)⟩⟩
theorem lr_cell {R : Nat} {W wk : World} (h : LR R W wk) {b o : Nat} {v : Value} (hc : W.cell? ⟨b, o, none⟩ = some v) (hb : b ≠ R) : wk.cell? ⟨b, o, none⟩ = some v := by
  rw [World.cell?_of_block (h.block b (World.block_lt_of_cell? W _ hc) (fun e => by injection e with e; exact hb e))]
  exact hc

def FindPost (p : Tx) (ds : List QD) (w : World) (e : Ending) (w' : World) : Prop := ∃ (P : ByteArray) (A : Option Addr) (n c : Nat) (u : Int), e = .returned (.tuple #[.agg #[.string P, .slice A n c, .int .i64 u], .bool (hasB p ds)]) ∧ Ext w w' ∧
  ((hasB p ds = false ∧ P = ⟨#[]⟩ ∧ n = 0 ∧ u = 0) ∨ ∃ k, ∃ h : k < ds.length, ds[k].path = p ∧ P.data.toList = p ∧ n = ds[k].caps.length ∧ u = ds[k].user)

set_option maxRecDepth 100000 in
set_option maxHeartbeats 3200000 in
theorem Find_any (ds : List QD) (vl vq : Value) (S : ByteArray) (w : World) (hq : QAt w vq ds) (hlen : ds.length ≤ 1000) (hp : ∀ q ∈ ds, q.path.length ≤ 1000000000) (hcp : ∀ q ∈ ds, 1 ≤ q.caps.length ∧ q.caps.length ≤ 1000) :
    Calls Try.prog 17 #[.agg #[vl, vq], .string S] w (FindPost S.data.toList ds w) := by
  obtain ⟨A, N, c, rfl, hN, hc1, hc2, hcell⟩ := hq.open
  have HC := Lib.hid hcell
  have HN := Lib.hid hN
  have HQ := Lib.hid hq
  have HP := Lib.hid hp
  have HCP := Lib.hid hcp
  obtain ⟨W0, hW0⟩ : ∃ W0, W0 = (w.alloc (.cells #[vl, .slice A N c] 29)).alloc (.cells #[.string ⟨#[]⟩, .slice none 0 0, .int .i64 0] 40) := ⟨_, rfl⟩
  have X0 := Lib.hid (show Ext w W0 by rw [hW0]; exact (ext_alloc _ _).trans (ext_alloc _ _))
  have b0 : W0.cell? ⟨w.heap.size, 0, none⟩ = some vl := by rw [hW0]; simp [go_sem]
  have b1 : W0.cell? ⟨w.heap.size, 1, none⟩ = some (.slice A N c) := by rw [hW0]; simp [go_sem]
  have HRB := Lib.hid (show W0.heap[w.heap.size + 1]? = some (.cells #[.string ⟨#[]⟩, .slice none 0 0, .int .i64 0] 40 (0, 0)) by
    rw [hW0]
    have h := heap_alloc_new (w.alloc (.cells #[vl, .slice A N c] 29)) (.cells #[.string ⟨#[]⟩, .slice none 0 0, .int .i64 0] 40 (0, 0))
    rwa [show (w.alloc (.cells #[vl, .slice A N c] 29)).heap.size = w.heap.size + 1 by simp] at h)
  clear hcell hN hq hp hcp
  go_enter Try.func17, Try.ntmps17
  go_wp2_with fail
  rw [← hW0]
  clear hW0
  (with_reducible refine (index_any ds vl _ S W0 (HQ.out.ext X0.out) hlen).mono ?_)
  rintro e w2 ⟨r, rfl, hr, hx2⟩
  have X2 := Lib.hid (X0.out.trans hx2)
  have HR := Lib.hid hr
  have HRB2 := Lib.hid ((hx2.block (w.heap.size + 1) (Array.getElem?_eq_some_iff.1 HRB.out).1).trans HRB.out)
  have b1 := hx2.cell b1
  clear hx2 hr b0
  by_cases hneg : r < 0
  · have HL := Lib.hid (show hasB S.data.toList ds = false by
      rcases HR.out with ⟨_, h⟩ | ⟨k, h, e, _⟩
      · exact has_no h
      · omega)
    have y0 := blk_cell' HRB2.out 0 _ rfl
    have y1 := blk_cell' HRB2.out 1 _ rfl
    have y2 := blk_cell' HRB2.out 2 _ rfl
    have g := blk_free' HRB2.out
    have g0 := g 0
    have g1 := g 1
    have g2 := g 2
    clear g
    go_wp2
    refine bodyPost_ret (by simp [results, Try.results17, go_sem, y0, y1, y2]; try rfl) rfl ?_
    unfold FindPost
    rw [HL.out]
    exact ⟨_, _, _, _, _, rfl, ext_set (ext_set (ext_set X2.out (by omega) _) (by omega) _) (by omega) _, .inl ⟨rfl, rfl, rfl, rfl⟩⟩
  · obtain ⟨k, hk, rfl, hkp⟩ : ∃ k : Nat, ∃ h : k < ds.length, r = (k : Int) ∧ ds[k].path = S.data.toList := by
      rcases HR.out with ⟨e, _⟩ | h
      · omega
      · exact h
    have HL := Lib.hid (has_yes hk hkp)
    have HKP := Lib.hid hkp
    have k0 : (0 : Int) ≤ (k : Int) := by omega
    have k1 : (k : Int) < (N : Int) := by have := HN.out; omega
    obtain ⟨g, rfl, hg, hqc⟩ := HC.out (by have := HN.out; omega)
    obtain ⟨P, Ac, cc, h1, h2, h3, h4, h5⟩ := (hqc k hk).ex
    have c0 := X2.out.cell h1
    have c1 := X2.out.cell h2
    have c2 := X2.out.cell h3
    have HPP := Lib.hid h4
    obtain ⟨nc, hnc⟩ : ∃ nc, nc = ds[k].caps.length := ⟨_, rfl⟩
    obtain ⟨uu, huu⟩ : ∃ uu, uu = ds[k].user := ⟨_, rfl⟩
    rw [← hnc] at c1 h5
    rw [← huu] at c2
    have hn1 : 1 ≤ nc ∧ nc ≤ 1000 := by rw [hnc]; exact HCP.out _ (List.getElem_mem hk)
    have hPs : P.size ≤ 1000000000000 := by
      have := HP.out _ (List.getElem_mem hk)
      rw [ba_size, h4]; omega
    have H5 := Lib.hid (h5.ext X2.out)
    have HNC := Lib.hid hnc
    have HUU := Lib.hid huu
    clear hqc h1 h2 h3 h4 h5 hkp hnc huu hneg hg
    obtain ⟨W3, hW3⟩ : ∃ W3, W3 = w2.alloc (.cells #[.string P, .slice Ac nc cc, .int .i64 uu] 40) := ⟨_, rfl⟩
    have X3 := Lib.hid (show Ext w2 W3 by rw [hW3]; exact ext_alloc _ _)
    have HQB := Lib.hid (show W3.heap[w2.heap.size]? = some (.cells #[.string P, .slice Ac nc cc, .int .i64 uu] 40 (0, 0)) by rw [hW3]; exact heap_alloc_new w2 _)
    have d0 := blk_cell' HQB.out 0 _ rfl
    have d1 := blk_cell' HQB.out 1 _ rfl
    have d2 := blk_cell' HQB.out 2 _ rfl
    go_upto_region 5 with fail
    rw [← hW3]
    clear hW3 c0 c1 c2
    have hRne : w2.heap.size ≠ w.heap.size + 1 := by
      have := (Array.getElem?_eq_some_iff.1 HRB2.out).1
      omega
    have HRB3 := Lib.hid ((X3.out.block (w.heap.size + 1) (Array.getElem?_eq_some_iff.1 HRB2.out).1).trans HRB2.out)
    refine wp_region_sched (LR (w.heap.size + 1)) (LR_way _) [(0, true), (1, true), (3, true), (4, true), (6, true), (7, true), (2, false), (5, false), (8, true), (9, false), (10, true)] (by kernel_rfl) (by kernel_rfl) (fun _ _ _ _ _ h => h) ?_
    repeat first | ((with_reducible refine sched_free ?_ ?_ ?_ ?_ (fun wk k1 => ?_) ?_); rotate_left 2; (rfl); (first | exact want_none rfl | exact want_some rfl rfl rfl rfl); (go_simp; first | exact OkX.val | (have c0' := lr_cell k1 d0 hRne; have c1' := lr_cell k1 d1 hRne; have c2' := lr_cell k1 d2 hRne; go_simp; exact OkX.val)); simp only [Act.put, List.setIfInBounds_toArray, List.set_cons_zero, List.set_cons_succ]) | ((with_reducible refine sched_skip ?_ ?_ ?_ ?_); rotate_left; (rfl); (exact want_not rfl rfl rfl rfl rfl); simp only [Act.put, List.setIfInBounds_toArray, List.set_cons_zero, List.set_cons_succ])
    ((with_reducible refine sched_step ?_ ?_ ?_ (fun wk k1 => ?_)); rotate_left; (rfl); (first | exact want_none rfl | exact want_some rfl rfl rfl rfl))
    have E0 := Lib.hid ((Ext.drew _).trans k1)
    clear k1
    go_simp
    (with_reducible refine (Clone_any P _ hPs).mono ?_)
    rintro e wa ⟨rfl, hxa⟩
    refine ⟨LR.ext hxa, ?_⟩
    try simp only [Act.put, List.setIfInBounds_toArray, List.set_cons_zero, List.set_cons_succ]
    have E1 := Lib.hid (E0.out.trans hxa)
    clear hxa
    repeat first | ((with_reducible refine sched_free ?_ ?_ ?_ ?_ (fun wk k1 => ?_) ?_); rotate_left 2; (rfl); (first | exact want_none rfl | exact want_some rfl rfl rfl rfl); (go_simp; first | exact OkX.val); simp only [Act.put, List.setIfInBounds_toArray, List.set_cons_zero, List.set_cons_succ]) | ((with_reducible refine sched_skip ?_ ?_ ?_ ?_); rotate_left; (rfl); (exact want_not rfl rfl rfl rfl rfl); simp only [Act.put, List.setIfInBounds_toArray, List.set_cons_zero, List.set_cons_succ])
    ((with_reducible refine sched_step ?_ ?_ ?_ (fun wk k1 => ?_)); rotate_left; (rfl); (first | exact want_none rfl | exact want_some rfl rfl rfl rfl))
    have E2 := Lib.hid (E1.out.trans k1)
    clear k1
    go_simp
    (with_reducible refine (capClone_any Ac nc cc ds[k].caps _ (H5.out.ext (X3.out.trans E2.out)) hn1.1 hn1.2).mono ?_)
    rintro e wb ⟨A', c', rfl, _, hxb⟩
    refine ⟨LR.ext hxb, ?_⟩
    try simp only [Act.put, List.setIfInBounds_toArray, List.set_cons_zero, List.set_cons_succ]
    have E3 := Lib.hid (E2.out.trans hxb)
    clear hxb
    repeat first | ((with_reducible refine sched_free ?_ ?_ ?_ ?_ (fun wk k1 => ?_) ?_); rotate_left 2; (rfl); (first | exact want_none rfl | exact want_some rfl rfl rfl rfl); (go_simp; first | exact OkX.val); simp only [Act.put, List.setIfInBounds_toArray, List.set_cons_zero, List.set_cons_succ]) | ((with_reducible refine sched_skip ?_ ?_ ?_ ?_); rotate_left; (rfl); (exact want_not rfl rfl rfl rfl rfl); simp only [Act.put, List.setIfInBounds_toArray, List.set_cons_zero, List.set_cons_succ])
    ((with_reducible refine sched_step ?_ ?_ ?_ (fun wk k1 => ?_)); rotate_left; (rfl); (first | exact want_none rfl | exact want_some rfl rfl rfl rfl))
    have E4 := Lib.hid (E3.out.trans k1)
    have HRB4 := Lib.hid ((E4.out.block (w.heap.size + 1) (Array.getElem?_eq_some_iff.1 HRB3.out).1).trans HRB3.out)
    clear k1
    have y0 := blk_cell' HRB4.out 0 _ rfl
    have y1 := blk_cell' HRB4.out 1 _ rfl
    have y2 := blk_cell' HRB4.out 2 _ rfl
    have g := blk_free' HRB4.out
    have g0 := g 0
    have g1 := g 1
    have g2 := g 2
    clear g
    go_simp
    obtain ⟨W5, hW5⟩ : ∃ W5, W5 = (((wk.setCell ⟨w.heap.size + 1, 0, none⟩ (.string P)).setCell ⟨w.heap.size + 1, 1, none⟩ (.slice A' nc c')).setCell ⟨w.heap.size + 1, 2, none⟩ (.int .i64 uu)) := ⟨_, rfl⟩
    rw [← hW5]
    have HRB5 := Lib.hid (show W5.heap[w.heap.size + 1]? = some (.cells #[.string P, .slice A' nc c', .int .i64 uu] 40 (0, 0)) by
      rw [hW5, heap_setCell_same _ _ 2 _ _ _ (by rw [heap_setCell_same _ _ 1 _ _ _ (by rw [heap_setCell_same _ _ 0 _ _ _ HRB4.out])])]
      rfl)
    have HG5 := Lib.hid (show wk.grownBy W5 (some (w.heap.size + 1)) by
      rw [hW5]
      exact ⟨rfl, rfl, rfl, by simp [World.setCell], fun k _ hk => ((Below.heap_setCell _ _ _ _ (fun e => hk (by rw [e]))).trans (Below.heap_setCell _ _ _ _ (fun e => hk (by rw [e])))).trans (Below.heap_setCell _ _ _ _ (fun e => hk (by rw [e])))⟩)
    have HX5 := Lib.hid ((X2.out.trans (X3.out.trans E4.out)).trans' (grown_below HG5.out (X2.out.trans (X3.out.trans E4.out)).size (fun k e => by injection e with e; omega)))
    clear hW5 y0 y1 y2 g0 g1 g2
    refine ⟨HG5.out, ?_⟩
    try simp only [Act.put, List.setIfInBounds_toArray, List.set_cons_zero, List.set_cons_succ]
    repeat first | ((with_reducible refine sched_free ?_ ?_ ?_ ?_ (fun wk k1 => ?_) ?_); rotate_left 2; (rfl); (first | exact want_none rfl | exact want_some rfl rfl rfl rfl); (go_simp; first | exact OkX.val); simp only [Act.put, List.setIfInBounds_toArray, List.set_cons_zero, List.set_cons_succ]) | ((with_reducible refine sched_skip ?_ ?_ ?_ ?_); rotate_left; (rfl); (exact want_not rfl rfl rfl rfl rfl); simp only [Act.put, List.setIfInBounds_toArray, List.set_cons_zero, List.set_cons_succ])
    refine sched_done (fun wz k1 => ?_)
    have y0 := k1.cell (blk_cell' HRB5.out 0 _ rfl)
    have y1 := k1.cell (blk_cell' HRB5.out 1 _ rfl)
    have y2 := k1.cell (blk_cell' HRB5.out 2 _ rfl)
    have HX6 := Lib.hid (HX5.out.trans k1)
    clear k1
    go_wp2
    refine bodyPost_ret (by simp [results, Try.results17, go_sem, y0, y1, y2]; try rfl) rfl ?_
    unfold FindPost
    rw [HL.out]
    exact ⟨P, A', nc, c', uu, rfl, HX6.out, .inr ⟨k, hk, HKP.out, by rw [HPP.out, HKP.out], HNC.out, HUU.out⟩⟩
end Go.Proofs.Ytflbhnckhbcboaa
