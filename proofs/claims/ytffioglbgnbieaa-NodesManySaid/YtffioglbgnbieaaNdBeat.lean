/- nodes.Beat. -/
import Derived.Test.YtffioglbgnbieaaNdReg
namespace Go.Proofs.Ytffioglbgnbieaa
open Go.RowKit

def beatN (ds : List ND) (id nw x : Int) : List ND := ds.modify (idxN ds id) (fun d => ⟨d.id, d.label, d.rack, d.mem, d.cores, nw, x, d.up⟩)
def beatD (D : StD) (id x nw : Int) (E : Int) : StD := if E = 0 then { D with nodes := beatN D.nodes id nw x } else D
theorem ncells_modify : ∀ (ds : List ND) (k : Nat) (a b : Int), k < ds.length → ncells (ds.modify k (fun d => ⟨d.id, d.label, d.rack, d.mem, d.cores, a, b, d.up⟩)) = ((ncells ds).set (k * 8 + 5) (.int .i64 a)).set (k * 8 + 6) (.int .i64 b)
  | [], k, _, _, h => by simp at h
  | d :: ds, 0, _, _, _ => rfl
  | d :: ds, k + 1, a, b, h => by
    have ih := ncells_modify ds k a b (by simpa using h)
    rw [List.modify_succ_cons]
    show nenc d ++ ncells (ds.modify k _) = ((nenc d ++ ncells ds).set ((k + 1) * 8 + 5) _).set ((k + 1) * 8 + 6) _
    rw [ih, show (k + 1) * 8 = k * 8 + 1 + 1 + 1 + 1 + 1 + 1 + 1 + 1 by omega]
    rfl
theorem beatN_len (ds : List ND) (id nw x : Int) : (beatN ds id nw x).length = ds.length := by unfold beatN; rw [List.length_modify]

/-- The row of nodes turns: all else stays. -/
theorem StOwn.turn {w w' : World} {B R : Nat} {s : SV} {D : StD} (h : StOwn w B s D) (x : w.grownBy w' (some R)) (hR : s.vn.ownBlock = some R) :
    w'.ownsRow B 9 1 s.vl D.labels.length (strVs D.labels) ∧ QsAt w' B s.vq D.queues ∧ w'.ownsRow B 73 14 s.va 0 [] ∧ w'.ownsRow B 77 9 s.vc D.nc D.xc ∧ w'.ownsRow B 80 3 s.vs D.ns D.xs ∧ w'.ownsRow B 83 6 s.vp D.np D.xp ∧ ∀ R, s.vn.ownBlock = some R → QFar w' B R s.vq D.queues := by
  have k : ∀ {e : TypeId} {k n : Nat} {v : Value} {xs : List Value} (h1 : w.ownsRow B e k v n xs), e ≠ 44 → w'.ownsRow B e k v n xs := fun h1 he => h1.kept x (by
    rcases own_ne h1 h.nodes he with h2 | h2
    · exact .inl h2
    · rw [hR] at h2; exact .inr h2)
  refine ⟨k h.labs (by decide), ((h.far R hR).grown x (.inr (.inl rfl))).qs, k h.apps (by decide), k h.conts (by decide), k h.slots (by decide), k h.plans (by decide), fun T hT => ?_⟩
  obtain rfl : R = T := by rw [hR] at hT; injection hT
  exact (h.far R hR).grown x (.inr (.inl rfl))
theorem own_other {w : World} {B e e' k n R : Nat} {v : Value} {xs : List Value} {cur : Array Value} {f : Nat × Nat} (h : w.ownsRow B e k v n xs) (hR : w.heap[R]? = some (.cells cur e' f)) (he : e ≠ e') : v.ownBlock ≠ some R := by
  rcases h.2 with ⟨rfl, h0⟩ | ⟨g, cap, cur', rfl, _, hg, _⟩
  · intro e1; cases e1
  · intro e1
    simp [Value.ownBlock] at e1
    subst e1
    rw [hg] at hR
    injection hR with hR
    injection hR with _ h2
    exact he h2

set_option maxRecDepth 100000 in
set_option maxHeartbeats 6400000 in
theorem Beat_any (s : SV) (D : StD) (id x : Int) (w : World) (h : StRd w s D) (hok : StOk D) (hx1 : x ≤ 9223372036854775807) (hb0 : 0 ≤ (getN D.nodes id).beat) :
    Calls Try.prog 11 #[s.val, .int .i64 id, .int .i64 x] w (RegPost s.now s.ep s.sq (beatE D.nodes id x) (beatD D id x s.now (beatE D.nodes id x)) w) := by
  have HF := Lib.hid (fun W (x : Ext w W) => frState_any s D W (h.ext x) hok)
  have HK := Lib.hid (fun W (y : Ext w W) => checkBeat_any s D.nodes id x W (h.nodes.ext y) hok.nodes hx1 hb0)
  have HE0 := Lib.hid (show beatE D.nodes id x = 0 → idxN D.nodes id < D.nodes.length from fun he => by
    unfold beatE errBeat at he
    cases hh : hasN D.nodes id with
    | false => rw [hh] at he; simp at he
    | true => unfold hasN at hh; simpa using hh)
  have hnl := hok.nodes
  obtain ⟨E, hE⟩ : ∃ E, E = beatE D.nodes id x := ⟨_, rfl⟩
  rw [← hE] at HK HE0 ⊢
  obtain ⟨vl, vq, vn, va, vc, vs, vp, nw, ep, sq⟩ := s
  simp only [SV.val] at HF HK ⊢
  have HN := Lib.hid hnl
  clear h hok hnl hE hb0 hx1
  go_enter Try.func11, Try.ntmps11
  go_upto_region 1 with fail
  refine at_world (fun W0 hW0 => ?_)
  obtain ⟨B, hB⟩ : ∃ B, B = w.heap.size := ⟨_, rfl⟩
  have HB := Lib.hid (show w.heap.size ≤ B by omega)
  have X0 := Lib.hid (show Ext w W0 by rw [hW0]; exact (ext_alloc _ _).trans (ext_alloc _ _))
  have H1 := Lib.hid (show W0.heap[B]? = some (.cells #[vl, vq, vn, va, vc, vs, vp, .int .i64 nw, .int .i64 ep, .int .i64 sq] 34 (0, 0)) by rw [hW0, hB]; exact ext_blk (ext_alloc _ _) (heap_alloc_new w _))
  have H3 := Lib.hid (show W0.heap[B + 1]? = some (.cells #[.slice none 0 0, .slice none 0 0, .slice none 0 0, .slice none 0 0, .slice none 0 0, .slice none 0 0, .slice none 0 0, .int .i64 0, .int .i64 0, .int .i64 0] 34 (0, 0)) by rw [hW0, hB]; exact alloc_at (by simp))
  rw [← hB]
  clear hW0 hB
  have HS3 := Lib.hid (show B + 1 < W0.heap.size from (Array.getElem?_eq_some_iff.1 H3.out).1)
  go_cut [8, 9] from 11 to 16 (fun s6 s7 wx => RegMid W0 (B + 2) nw ep sq E D s6 s7 wx)
  case first =>
    have s0 := bcel H1.out 0 (vl) rfl
    have s1 := bcel H1.out 1 (vq) rfl
    have s2 := bcel H1.out 2 (vn) rfl
    have s3 := bcel H1.out 3 (va) rfl
    have s4 := bcel H1.out 4 (vc) rfl
    have s5 := bcel H1.out 5 (vs) rfl
    have s6 := bcel H1.out 6 (vp) rfl
    have s7 := bcel H1.out 7 (.int .i64 nw) rfl
    have s8 := bcel H1.out 8 (.int .i64 ep) rfl
    have s9 := bcel H1.out 9 (.int .i64 sq) rfl
    refine wp_region_tree (LBelow W0.heap.size) (LBelow_way _) (.free 0 (.free 2 (.free 3 (.free 4 (.two 1 6 (.free 5 (.step 6 (.step 7 (.free 8 .done)))) (.step 1 (.free 5 (.step 7 (.free 8 .done))))))))) (by kernel_rfl) (by kernel_rfl) (fun _ _ _ _ _ h => h) ?_
    repeat first | ((with_reducible refine tree_free ?_ ?_ ?_ ?_ (fun wk k1 => ?_) ?_); rotate_left 2; (rfl); (first | exact want_none rfl | exact want_some rfl rfl rfl rfl); (go_simp; first | exact OkX.val | (have kk := LBelow.ext k1; have y0 := kk.cell s0; have y1 := kk.cell s1; have y2 := kk.cell s2; have y3 := kk.cell s3; have y4 := kk.cell s4; have y5 := kk.cell s5; have y6 := kk.cell s6; have y7 := kk.cell s7; have y8 := kk.cell s8; have y9 := kk.cell s9; go_simp; exact OkX.val)); simp only [Act.put, List.setIfInBounds_toArray, List.set_cons_zero, List.set_cons_succ]) | ((with_reducible refine tree_skip ?_ ?_ ?_ ?_); rotate_left; (rfl); (exact want_not rfl rfl rfl rfl rfl); simp only [Act.put, List.setIfInBounds_toArray, List.set_cons_zero, List.set_cons_succ])
    clear s0 s1 s2 s3 s4 s5 s6 s7 s8 s9
    ((with_reducible refine tree_two ?_ ?_ ?_ ?_ ?_ ?_ (fun wk k1 => ?_) (fun wk k1 => ?_)); rotate_left 2; (rfl); (first | exact want_none rfl | exact want_some rfl rfl rfl rfl); (rfl); (first | exact want_none rfl | exact want_some rfl rfl rfl rfl))
    · have EC := Lib.hid ((Ext.drew _).trans k1)
      clear k1
      go_simp
      (with_reducible refine (HF.out _ (X0.out.trans EC.out)).mono ?_)
      unfold StPost
      rintro e wf ⟨s', e1, e2, e3, rfl, ho, hxf⟩
      refine ⟨(LBelow_way _).ext hxf, ?_⟩
      try simp only [Act.put, List.setIfInBounds_toArray, List.set_cons_zero, List.set_cons_succ]
      obtain ⟨A0, c0, A1, c1, A2, c2, A3, c3, A4, c4, A5, c5, A6, c6, es⟩ := ho.shape
      rw [e1, e2, e3] at es
      subst es
      clear e1 e2 e3
      simp only [SV.val]
      have E1 := Lib.hid (EC.out.trans hxf)
      have HBB := Lib.hid (show B + 2 ≤ wk.heap.size by have := HS3.out; have := EC.out.size; omega)
      have HO := Lib.hid ho
      clear ho hxf EC
      repeat first | ((with_reducible refine tree_free ?_ ?_ ?_ ?_ (fun wk k1 => ?_) ?_); rotate_left 2; (rfl); (first | exact want_none rfl | exact want_some rfl rfl rfl rfl); (go_simp; first | exact OkX.val | ((with_reducible refine OkX.eqv (OkX.call (HK.out _ (X0.out.trans (k1.on E1.out)))) ?_); exact rfl)); simp only [Act.put, List.setIfInBounds_toArray, List.set_cons_zero, List.set_cons_succ]) | ((with_reducible refine tree_skip ?_ ?_ ?_ ?_); rotate_left; (rfl); (exact want_not rfl rfl rfl rfl rfl); simp only [Act.put, List.setIfInBounds_toArray, List.set_cons_zero, List.set_cons_succ])
      ((with_reducible refine tree_step ?_ ?_ ?_ (fun wk k1 => ?_)); rotate_left; (rfl); (first | exact want_none rfl | exact want_some rfl rfl rfl rfl))
      have E1' := Lib.hid (E1.out.trans k1)
      have HO' := Lib.hid (HO.out.ext k1)
      clear k1 HO
      go_simp
      refine ⟨(LBelow_way _).ext (ext_alloc _ _), ?_⟩
      try simp only [Act.put, List.setIfInBounds_toArray, List.set_cons_zero, List.set_cons_succ]
      have HT := Lib.hid (heap_alloc_new wk (.cells #[.slice none 0 0, .slice none 0 0, .slice none 0 0, .slice none 0 0, .slice none 0 0, .slice none 0 0, .slice none 0 0, .int .i64 0, .int .i64 0, .int .i64 0] 34 (0, 0)))
      have E2 := Lib.hid (E1'.out.trans (ext_alloc wk (.cells #[.slice none 0 0, .slice none 0 0, .slice none 0 0, .slice none 0 0, .slice none 0 0, .slice none 0 0, .slice none 0 0, .int .i64 0, .int .i64 0, .int .i64 0] 34 (0, 0))))
      have HU := Lib.hid ((HO'.out.surv_high (Nat.le_refl _)).ext (ext_alloc wk (.cells #[.slice none 0 0, .slice none 0 0, .slice none 0 0, .slice none 0 0, .slice none 0 0, .slice none 0 0, .slice none 0 0, .int .i64 0, .int .i64 0, .int .i64 0] 34 (0, 0))))
      obtain ⟨T, hT⟩ : ∃ T, T = wk.heap.size := ⟨_, rfl⟩
      have HTB := Lib.hid (show W0.heap.size ≤ T ∧ True from ⟨by rw [hT]; exact E1'.out.size, trivial⟩)
      rw [← hT] at HT HU ⊢
      clear hT HO' E1'
      ((with_reducible refine tree_step ?_ ?_ ?_ (fun wk k1 => ?_)); rotate_left; (rfl); (first | exact want_none rfl | exact want_some rfl rfl rfl rfl))
      have hb2 := ext_blk k1 HT.out
      have E3 := Lib.hid (E2.out.trans k1)
      have HU3 := Lib.hid (HU.out.ext k1)
      clear k1
      have d0 := bcel hb2 0 (.slice none 0 0) rfl
      have d1 := bcel hb2 1 (.slice none 0 0) rfl
      have d2 := bcel hb2 2 (.slice none 0 0) rfl
      have d3 := bcel hb2 3 (.slice none 0 0) rfl
      have d4 := bcel hb2 4 (.slice none 0 0) rfl
      have d5 := bcel hb2 5 (.slice none 0 0) rfl
      have d6 := bcel hb2 6 (.slice none 0 0) rfl
      have d7 := bcel hb2 7 (.int .i64 0) rfl
      have d8 := bcel hb2 8 (.int .i64 0) rfl
      have d9 := bcel hb2 9 (.int .i64 0) rfl
      have fd := fun j => bfre hb2 j
      go_simp
      have hgr := grown10 wk T (.slice A0 D.labels.length c0) (.slice A1 D.queues.length c1) (.slice A2 D.nodes.length c2) (.slice A3 0 c3) (.slice A4 D.nc c4) (.slice A5 D.ns c5) (.slice A6 D.np c6) (.int .i64 nw) (.int .i64 ep) (.int .i64 sq)
      refine ⟨fun _ => grown_below hgr E3.out.size (fun k hk => by injection hk with hk; have := HTB.out.1; omega), ?_⟩
      try simp only [Act.put, List.setIfInBounds_toArray, List.set_cons_zero, List.set_cons_succ]
      have hb9 := bset10 hb2 (.slice A0 D.labels.length c0) (.slice A1 D.queues.length c1) (.slice A2 D.nodes.length c2) (.slice A3 0 c3) (.slice A4 D.nc c4) (.slice A5 D.ns c5) (.slice A6 D.np c6) (.int .i64 nw) (.int .i64 ep) (.int .i64 sq)
      obtain ⟨W7, hW7⟩ : ∃ W7, W7 = ((((((((((wk.setCell ⟨T, 0, none⟩ (.slice A0 D.labels.length c0)).setCell ⟨T, 1, none⟩ (.slice A1 D.queues.length c1)).setCell ⟨T, 2, none⟩ (.slice A2 D.nodes.length c2)).setCell ⟨T, 3, none⟩ (.slice A3 0 c3)).setCell ⟨T, 4, none⟩ (.slice A4 D.nc c4)).setCell ⟨T, 5, none⟩ (.slice A5 D.ns c5)).setCell ⟨T, 6, none⟩ (.slice A6 D.np c6)).setCell ⟨T, 7, none⟩ (.int .i64 nw)).setCell ⟨T, 8, none⟩ (.int .i64 ep)).setCell ⟨T, 9, none⟩ (.int .i64 sq)) := ⟨_, rfl⟩
      rw [← hW7] at hgr hb9 ⊢
      clear hW7 hb2 fd d0 d1 d2 d3 d4 d5 d6 d7 d8 d9
      repeat first | ((with_reducible refine tree_free ?_ ?_ ?_ ?_ (fun wk k1 => ?_) ?_); rotate_left 2; (rfl); (first | exact want_none rfl | exact want_some rfl rfl rfl rfl); (go_simp; first | exact OkX.val); simp only [Act.put, List.setIfInBounds_toArray, List.set_cons_zero, List.set_cons_succ]) | ((with_reducible refine tree_skip ?_ ?_ ?_ ?_); rotate_left; (rfl); (exact want_not rfl rfl rfl rfl rfl); simp only [Act.put, List.setIfInBounds_toArray, List.set_cons_zero, List.set_cons_succ])
      refine tree_done (fun wz k1 => ?_)
      have hfin := Lib.hid (show RegMid W0 (B + 2) nw ep sq E D (.pointer (some ⟨T, 0, none⟩)) (.int .i64 E) wz from
        ⟨T, ⟨.slice A0 D.labels.length c0, .slice A1 D.queues.length c1, .slice A2 D.nodes.length c2, .slice A3 0 c3, .slice A4 D.nc c4, .slice A5 D.ns c5, .slice A6 D.np c6, nw, ep, sq⟩, _, rfl, rfl, HTB.out.1, rfl, rfl, rfl, ext_blk k1 hb9, HBB.out, fun W W' x g => ⟨(HU3.out wk W' (Ext.refl _) (hgr.trans (((grown_of_ext (k1.trans x) _)).trans g))).1, fun R hR => (HU3.out wk W' (Ext.refl _) (hgr.trans (((grown_of_ext (k1.trans x) _)).trans g))).2 R (Nat.le_trans (Nat.le_trans hgr.size k1.size) hR)⟩, (ext_grown E3.out hgr HTB.out.1).trans k1⟩)
      clear k1
      go_wp2
      go_meet
      case rel => exact hfin.out
    · have E0 := Lib.hid ((Ext.drew _).trans k1)
      clear k1
      go_simp
      refine ⟨(LBelow_way _).ext (ext_alloc _ _), ?_⟩
      try simp only [Act.put, List.setIfInBounds_toArray, List.set_cons_zero, List.set_cons_succ]
      have HT' := Lib.hid (heap_alloc_new wk (.cells #[.slice none 0 0, .slice none 0 0, .slice none 0 0, .slice none 0 0, .slice none 0 0, .slice none 0 0, .slice none 0 0, .int .i64 0, .int .i64 0, .int .i64 0] 34 (0, 0)))
      have E2' := Lib.hid (E0.out.trans (ext_alloc wk (.cells #[.slice none 0 0, .slice none 0 0, .slice none 0 0, .slice none 0 0, .slice none 0 0, .slice none 0 0, .slice none 0 0, .int .i64 0, .int .i64 0, .int .i64 0] 34 (0, 0))))
      obtain ⟨T, hT⟩ : ∃ T, T = wk.heap.size := ⟨_, rfl⟩
      have HTB := Lib.hid (show W0.heap.size ≤ T ∧ True from ⟨by rw [hT]; exact E0.out.size, trivial⟩)
      rw [← hT] at HT' ⊢
      clear hT
      ((with_reducible refine tree_step ?_ ?_ ?_ (fun wk k1 => ?_)); rotate_left; (rfl); (first | exact want_none rfl | exact want_some rfl rfl rfl rfl))
      have EC := Lib.hid (E2'.out.trans k1)
      have HT'' := Lib.hid (ext_blk k1 HT'.out)
      clear k1
      go_simp
      (with_reducible refine (HF.out _ (X0.out.trans EC.out)).mono ?_)
      unfold StPost
      rintro e wf ⟨s', e1, e2, e3, rfl, ho, hxf⟩
      refine ⟨(LBelow_way _).ext hxf, ?_⟩
      try simp only [Act.put, List.setIfInBounds_toArray, List.set_cons_zero, List.set_cons_succ]
      obtain ⟨A0, c0, A1, c1, A2, c2, A3, c3, A4, c4, A5, c5, A6, c6, es⟩ := ho.shape
      rw [e1, e2, e3] at es
      subst es
      clear e1 e2 e3
      simp only [SV.val]
      have E1 := Lib.hid (EC.out.trans hxf)
      have HBB := Lib.hid (show B + 2 ≤ wk.heap.size by have := HS3.out; have := EC.out.size; omega)
      have HT := Lib.hid (ext_blk hxf HT''.out)
      have HU := Lib.hid (ho.surv_low (show T < wk.heap.size from (Array.getElem?_eq_some_iff.1 HT''.out).1))
      have E2 := Lib.hid E1.out
      clear ho hxf EC HT' HT''
      repeat first | ((with_reducible refine tree_free ?_ ?_ ?_ ?_ (fun wk k1 => ?_) ?_); rotate_left 2; (rfl); (first | exact want_none rfl | exact want_some rfl rfl rfl rfl); (go_simp; first | exact OkX.val | ((with_reducible refine OkX.eqv (OkX.call (HK.out _ (X0.out.trans (k1.on E1.out)))) ?_); exact rfl)); simp only [Act.put, List.setIfInBounds_toArray, List.set_cons_zero, List.set_cons_succ]) | ((with_reducible refine tree_skip ?_ ?_ ?_ ?_); rotate_left; (rfl); (exact want_not rfl rfl rfl rfl rfl); simp only [Act.put, List.setIfInBounds_toArray, List.set_cons_zero, List.set_cons_succ])
      ((with_reducible refine tree_step ?_ ?_ ?_ (fun wk k1 => ?_)); rotate_left; (rfl); (first | exact want_none rfl | exact want_some rfl rfl rfl rfl))
      have hb2 := ext_blk k1 HT.out
      have E3 := Lib.hid (E2.out.trans k1)
      have HU3 := Lib.hid (HU.out.ext k1)
      clear k1
      have d0 := bcel hb2 0 (.slice none 0 0) rfl
      have d1 := bcel hb2 1 (.slice none 0 0) rfl
      have d2 := bcel hb2 2 (.slice none 0 0) rfl
      have d3 := bcel hb2 3 (.slice none 0 0) rfl
      have d4 := bcel hb2 4 (.slice none 0 0) rfl
      have d5 := bcel hb2 5 (.slice none 0 0) rfl
      have d6 := bcel hb2 6 (.slice none 0 0) rfl
      have d7 := bcel hb2 7 (.int .i64 0) rfl
      have d8 := bcel hb2 8 (.int .i64 0) rfl
      have d9 := bcel hb2 9 (.int .i64 0) rfl
      have fd := fun j => bfre hb2 j
      go_simp
      have hgr := grown10 wk T (.slice A0 D.labels.length c0) (.slice A1 D.queues.length c1) (.slice A2 D.nodes.length c2) (.slice A3 0 c3) (.slice A4 D.nc c4) (.slice A5 D.ns c5) (.slice A6 D.np c6) (.int .i64 nw) (.int .i64 ep) (.int .i64 sq)
      refine ⟨fun _ => grown_below hgr E3.out.size (fun k hk => by injection hk with hk; have := HTB.out.1; omega), ?_⟩
      try simp only [Act.put, List.setIfInBounds_toArray, List.set_cons_zero, List.set_cons_succ]
      have hb9 := bset10 hb2 (.slice A0 D.labels.length c0) (.slice A1 D.queues.length c1) (.slice A2 D.nodes.length c2) (.slice A3 0 c3) (.slice A4 D.nc c4) (.slice A5 D.ns c5) (.slice A6 D.np c6) (.int .i64 nw) (.int .i64 ep) (.int .i64 sq)
      obtain ⟨W7, hW7⟩ : ∃ W7, W7 = ((((((((((wk.setCell ⟨T, 0, none⟩ (.slice A0 D.labels.length c0)).setCell ⟨T, 1, none⟩ (.slice A1 D.queues.length c1)).setCell ⟨T, 2, none⟩ (.slice A2 D.nodes.length c2)).setCell ⟨T, 3, none⟩ (.slice A3 0 c3)).setCell ⟨T, 4, none⟩ (.slice A4 D.nc c4)).setCell ⟨T, 5, none⟩ (.slice A5 D.ns c5)).setCell ⟨T, 6, none⟩ (.slice A6 D.np c6)).setCell ⟨T, 7, none⟩ (.int .i64 nw)).setCell ⟨T, 8, none⟩ (.int .i64 ep)).setCell ⟨T, 9, none⟩ (.int .i64 sq)) := ⟨_, rfl⟩
      rw [← hW7] at hgr hb9 ⊢
      clear hW7 hb2 fd d0 d1 d2 d3 d4 d5 d6 d7 d8 d9
      repeat first | ((with_reducible refine tree_free ?_ ?_ ?_ ?_ (fun wk k1 => ?_) ?_); rotate_left 2; (rfl); (first | exact want_none rfl | exact want_some rfl rfl rfl rfl); (go_simp; first | exact OkX.val); simp only [Act.put, List.setIfInBounds_toArray, List.set_cons_zero, List.set_cons_succ]) | ((with_reducible refine tree_skip ?_ ?_ ?_ ?_); rotate_left; (rfl); (exact want_not rfl rfl rfl rfl rfl); simp only [Act.put, List.setIfInBounds_toArray, List.set_cons_zero, List.set_cons_succ])
      refine tree_done (fun wz k1 => ?_)
      have hfin := Lib.hid (show RegMid W0 (B + 2) nw ep sq E D (.pointer (some ⟨T, 0, none⟩)) (.int .i64 E) wz from
        ⟨T, ⟨.slice A0 D.labels.length c0, .slice A1 D.queues.length c1, .slice A2 D.nodes.length c2, .slice A3 0 c3, .slice A4 D.nc c4, .slice A5 D.ns c5, .slice A6 D.np c6, nw, ep, sq⟩, _, rfl, rfl, HTB.out.1, rfl, rfl, rfl, ext_blk k1 hb9, HBB.out, fun W W' x g => ⟨(HU3.out wk W' (Ext.refl _) (hgr.trans (((grown_of_ext (k1.trans x) _)).trans g))).1, fun R hR => (HU3.out wk W' (Ext.refl _) (hgr.trans (((grown_of_ext (k1.trans x) _)).trans g))).2 R (Nat.le_trans (Nat.le_trans hgr.size k1.size) hR)⟩, (ext_grown E3.out hgr HTB.out.1).trans k1⟩)
      clear k1
      go_wp2
      go_meet
      case rel => exact hfin.out
  case rest =>
  obtain ⟨T, s', b, rfl, rfl, hT, e1, e2, e3, hTb, hb, hsv, hx⟩ := hcut
  obtain ⟨A0, c0, A1, c1, A2, c2, A3, c3, A4, c4, A5, c5, A6, c6, es⟩ := (hsv.now (Ext.refl _)).shape
  rw [e1, e2, e3] at es
  subst es
  have HT := Lib.hid hT
  have HTB := Lib.hid (show wc.heap[T]? = some (.cells #[.slice A0 D.labels.length c0, .slice A1 D.queues.length c1, .slice A2 D.nodes.length c2, .slice A3 0 c3, .slice A4 D.nc c4, .slice A5 D.ns c5, .slice A6 D.np c6, .int .i64 nw, .int .i64 ep, .int .i64 sq] 34 (0, 0)) from hTb)
  have HBB := Lib.hid hb
  have HSV := Lib.hid hsv
  have HX := Lib.hid hx
  clear e1 e2 e3 hT hTb hb hsv hx
  have HTN := Lib.hid (show T ≠ B + 1 by have := HT.out; have := HS3.out; omega)
  by_cases hE : E = 0
  · subst hE
    have HD := Lib.hid (show beatD D id x nw 0 = { D with nodes := beatN D.nodes id nw x } from rfl)
    have hk := HE0.out rfl
    obtain ⟨k, hkk⟩ : ∃ k, k = idxN D.nodes id := ⟨_, rfl⟩
    rw [← hkk] at hk
    have HBN := Lib.hid (show ncells (beatN D.nodes id nw x) = ((ncells D.nodes).set (k * 8 + 5) (.int .i64 nw)).set (k * 8 + 6) (.int .i64 x) by unfold beatN; rw [← hkk]; exact ncells_modify _ _ _ _ hk)
    have HF1 := Lib.hid (fun W (y : Ext wc W) => first_any 20 id _ (isOf_means id) (.slice A2 D.nodes.length c2) D.nodes W (Hd.of_own (HSV.out.now y).nodes) HN.out)
    rw [show D.nodes.findIdx (fun d => id == d.id) = k from hkk.symm] at HF1
    obtain ⟨G, hA2, hG1, hG2, hG3, hG4⟩ := own_head (HSV.out.now (Ext.refl _)).nodes (by omega)
    subst hA2
    have q5 := hG4 (k * 8 + 5) (.int .i64 D.nodes[k].seen) (flat_get nenc 8 (fun _ => rfl) D.nodes k 5 hk (by omega))
    have q6 := hG4 (k * 8 + 6) (.int .i64 D.nodes[k].beat) (flat_get nenc 8 (fun _ => rfl) D.nodes k 6 hk (by omega))
    obtain ⟨x5, hx5⟩ : ∃ y, y = D.nodes[k].seen := ⟨_, rfl⟩
    obtain ⟨x6, hx6⟩ : ∃ y, y = D.nodes[k].beat := ⟨_, rfl⟩
    rw [← hx5] at q5
    rw [← hx6] at q6
    have HGG := Lib.hid (show B + 2 ≤ G by have := HBB.out; omega)
    have HGW := Lib.hid (show w.heap.size ≤ G by have := HBB.out; have := HB.out; omega)
    have HKL := Lib.hid hk
    obtain ⟨NN, hNN⟩ : ∃ n, n = D.nodes.length := ⟨_, rfl⟩
    have k0 : (0 : Int) ≤ (k : Int) := by omega
    have k1' : (k : Int) < (NN : Int) := by omega
    rw [← hNN] at HF1 HTB
    have HNN := Lib.hid hNN
    have a2 := bcel HTB.out 2 (.slice (some ⟨G, 0, none⟩) NN c2) rfl
    have HQ5 := Lib.hid q5
    have HQ6 := Lib.hid q6
    clear hkk hG1 hG2 hG3 hG4 hx5 hx6 hk hNN q5 q6
    go_wp2
    refine wp_region_sched Ext ext_way [(0, true), (1, true), (2, true), (3, true), (4, true), (5, true), (6, true), (7, true), (8, true)] (by kernel_rfl) (by kernel_rfl) (fun _ _ _ _ _ h => h) ?_
    repeat first | ((with_reducible refine sched_free ?_ ?_ ?_ ?_ (fun wk k1 => ?_) ?_); rotate_left 2; (rfl); (first | exact want_none rfl | exact want_some rfl rfl rfl rfl); (go_simp; first | exact OkX.val | (have y2 := k1.cell ((Ext.drew _).cell a2); go_simp; exact OkX.val) | ((with_reducible refine OkX.eqv (OkX.call (HF1.out _ ((Ext.drew _).trans k1))) ?_); exact rfl)); simp only [Act.put, List.setIfInBounds_toArray, List.set_cons_zero, List.set_cons_succ]) | ((with_reducible refine sched_skip ?_ ?_ ?_ ?_); rotate_left; (rfl); (exact want_not rfl rfl rfl rfl rfl); simp only [Act.put, List.setIfInBounds_toArray, List.set_cons_zero, List.set_cons_succ])
    refine sched_done (fun w3 k1 => ?_)
    have E3 := Lib.hid ((Ext.drew wc).trans k1)
    have HTB3 := Lib.hid (ext_blk E3.out HTB.out)
    clear k1 a2
    have HSV3 := Lib.hid (HSV.out.ext E3.out)
    have HX3 := Lib.hid (HX.out.trans E3.out)
    have b7 := bcel (ext_blk HX3.out H1.out) 7 (.int .i64 nw) rfl
    have HO3 := Lib.hid (HSV3.out.now (Ext.refl _))
    have q5 := E3.out.cell HQ5.out
    have q6 := E3.out.cell HQ6.out
    obtain ⟨G', hG', _, _, fq, _⟩ := own_head HO3.out.nodes (by have := HKL.out; omega)
    simp only [Option.some.injEq, Addr.mk.injEq, and_true] at hG'
    subst hG'
    go_upto_region 5 with fail
    refine at_world (fun W4 hW4 => ?_)
    have hg4 := (bgrown w3 G (k * 8 + 5) (.int .i64 nw)).trans (bgrown (w3.setCell ⟨G, k * 8 + 5, none⟩ (.int .i64 nw)) G (k * 8 + 6) (.int .i64 x))
    have hn4 := ((HO3.out.nodes.stored (k * 8 + 5) (.int .i64 nw)).1.stored (k * 8 + 6) (.int .i64 x)).1
    rw [← hW4] at hg4 hn4
    have HGT := Lib.hid (show G ≠ T from fun e => by
      have h2 := HTB3.out
      rw [← e] at h2
      exact own_other HO3.out.nodes h2 (by decide) rfl)
    have HT4 := Lib.hid (show W4.heap[T]? = some (.cells #[.slice A0 D.labels.length c0, .slice A1 D.queues.length c1, .slice (some ⟨G, 0, none⟩) NN c2, .slice A3 0 c3, .slice A4 D.nc c4, .slice A5 D.ns c5, .slice A6 D.np c6, .int .i64 nw, .int .i64 ep, .int .i64 sq] 34 (0, 0)) from (hg4.block T (Array.getElem?_eq_some_iff.1 HTB3.out).1 (fun e => by injection e with e; exact HGT.out e.symm)).trans HTB3.out)
    have HO4 := Lib.hid (HO3.out.turn hg4 rfl)
    have HN4 := Lib.hid hn4
    have X4 := Lib.hid (ext_grown (X0.out.trans HX3.out) hg4 HGW.out)
    have HR4 := Lib.hid (show W4.heap[B + 1]? = _ from (hg4.block (B + 1) (Nat.lt_of_lt_of_le HS3.out HX3.out.size) (fun e => by injection e with e; have := HGG.out; omega)).trans (ext_blk HX3.out H3.out))
    clear hW4 hg4 hn4 q5 q6 fq b7
    have g0 := bcel HT4.out 0 (.slice A0 D.labels.length c0) rfl
    have g1 := bcel HT4.out 1 (.slice A1 D.queues.length c1) rfl
    have g2 := bcel HT4.out 2 (.slice (some ⟨G, 0, none⟩) NN c2) rfl
    have g3 := bcel HT4.out 3 (.slice A3 0 c3) rfl
    have g4 := bcel HT4.out 4 (.slice A4 D.nc c4) rfl
    have g5 := bcel HT4.out 5 (.slice A5 D.ns c5) rfl
    have g6 := bcel HT4.out 6 (.slice A6 D.np c6) rfl
    have g7 := bcel HT4.out 7 (.int .i64 nw) rfl
    have g8 := bcel HT4.out 8 (.int .i64 ep) rfl
    have g9 := bcel HT4.out 9 (.int .i64 sq) rfl
    have d0 := bcel HR4.out 0 (.slice none 0 0) rfl
    have d1 := bcel HR4.out 1 (.slice none 0 0) rfl
    have d2 := bcel HR4.out 2 (.slice none 0 0) rfl
    have d3 := bcel HR4.out 3 (.slice none 0 0) rfl
    have d4 := bcel HR4.out 4 (.slice none 0 0) rfl
    have d5 := bcel HR4.out 5 (.slice none 0 0) rfl
    have d6 := bcel HR4.out 6 (.slice none 0 0) rfl
    have d7 := bcel HR4.out 7 (.int .i64 0) rfl
    have d8 := bcel HR4.out 8 (.int .i64 0) rfl
    have d9 := bcel HR4.out 9 (.int .i64 0) rfl
    have fd := fun j => bfre HR4.out j
    go_wp2
    refine at_worldQ (fun W9 hW9 => ?_)
    have hb9 := bset10 HR4.out (.slice A0 D.labels.length c0) (.slice A1 D.queues.length c1) (.slice (some ⟨G, 0, none⟩) NN c2) (.slice A3 0 c3) (.slice A4 D.nc c4) (.slice A5 D.ns c5) (.slice A6 D.np c6) (.int .i64 nw) (.int .i64 ep) (.int .i64 sq)
    have hgr := grown10 W4 (B + 1) (.slice A0 D.labels.length c0) (.slice A1 D.queues.length c1) (.slice (some ⟨G, 0, none⟩) NN c2) (.slice A3 0 c3) (.slice A4 D.nc c4) (.slice A5 D.ns c5) (.slice A6 D.np c6) (.int .i64 nw) (.int .i64 ep) (.int .i64 sq)
    rw [← hW9] at hb9 hgr
    have HB9 := Lib.hid hb9
    have HGR := Lib.hid hgr
    clear hb9 hgr hW9 g0 d0 g1 d1 g2 d2 g3 d3 g4 d4 g5 d5 g6 d6 g7 d7 g8 d8 g9 d9 fd
    have g0 := bcel HB9.out 0 (.slice A0 D.labels.length c0) rfl
    have g1 := bcel HB9.out 1 (.slice A1 D.queues.length c1) rfl
    have g2 := bcel HB9.out 2 (.slice (some ⟨G, 0, none⟩) NN c2) rfl
    have g3 := bcel HB9.out 3 (.slice A3 0 c3) rfl
    have g4 := bcel HB9.out 4 (.slice A4 D.nc c4) rfl
    have g5 := bcel HB9.out 5 (.slice A5 D.ns c5) rfl
    have g6 := bcel HB9.out 6 (.slice A6 D.np c6) rfl
    have g7 := bcel HB9.out 7 (.int .i64 nw) rfl
    have g8 := bcel HB9.out 8 (.int .i64 ep) rfl
    have g9 := bcel HB9.out 9 (.int .i64 sq) rfl
    refine bodyPost_ret (by simp [results, Try.results11, go_sem, g0, g1, g2, g3, g4, g5, g6, g7, g8, g9]; try rfl) rfl ?_
    refine ⟨⟨.slice A0 D.labels.length c0, .slice A1 D.queues.length c1, .slice (some ⟨G, 0, none⟩) NN c2, .slice A3 0 c3, .slice A4 D.nc c4, .slice A5 D.ns c5, .slice A6 D.np c6, nw, ep, sq⟩, rfl, rfl, rfl, rfl, ?_, ext_grown X4.out HGR.out (by have := HB.out; omega)⟩
    rw [HD.out]
    have ho := HO4.out
    have h9 : StOwn W4 (B + 2) ⟨.slice A0 D.labels.length c0, .slice A1 D.queues.length c1, .slice (some ⟨G, 0, none⟩) NN c2, .slice A3 0 c3, .slice A4 D.nc c4, .slice A5 D.ns c5, .slice A6 D.np c6, nw, ep, sq⟩ { D with nodes := beatN D.nodes id nw x } :=
      ⟨own_base ho.1 HBB.out, ho.2.1.base HBB.out, by
        show World.ownsRow _ _ _ _ _ (beatN D.nodes id nw x).length (ncells (beatN D.nodes id nw x))
        rw [beatN_len, HBN.out, HNN.out]
        exact own_base HN4.out HBB.out, own_base ho.2.2.1 HBB.out, own_base ho.2.2.2.1 HBB.out, own_base ho.2.2.2.2.1 HBB.out, own_base ho.2.2.2.2.2.1 HBB.out, fun R hR => (ho.2.2.2.2.2.2 R hR).base HBB.out⟩
    exact (h9.low HGR.out (by omega)).base (by have := HB.out; omega)
  · have hE2 : (E == 0) = false := by simpa using hE
    have HD := Lib.hid (show beatD D id x nw E = D by unfold beatD; rw [if_neg hE])
    have g0 := bcel HTB.out 0 (.slice A0 D.labels.length c0) rfl
    have g1 := bcel HTB.out 1 (.slice A1 D.queues.length c1) rfl
    have g2 := bcel HTB.out 2 (.slice A2 D.nodes.length c2) rfl
    have g3 := bcel HTB.out 3 (.slice A3 0 c3) rfl
    have g4 := bcel HTB.out 4 (.slice A4 D.nc c4) rfl
    have g5 := bcel HTB.out 5 (.slice A5 D.ns c5) rfl
    have g6 := bcel HTB.out 6 (.slice A6 D.np c6) rfl
    have g7 := bcel HTB.out 7 (.int .i64 nw) rfl
    have g8 := bcel HTB.out 8 (.int .i64 ep) rfl
    have g9 := bcel HTB.out 9 (.int .i64 sq) rfl
    have hr := ext_blk HX.out H3.out
    have d0 := bcel hr 0 (.slice none 0 0) rfl
    have d1 := bcel hr 1 (.slice none 0 0) rfl
    have d2 := bcel hr 2 (.slice none 0 0) rfl
    have d3 := bcel hr 3 (.slice none 0 0) rfl
    have d4 := bcel hr 4 (.slice none 0 0) rfl
    have d5 := bcel hr 5 (.slice none 0 0) rfl
    have d6 := bcel hr 6 (.slice none 0 0) rfl
    have d7 := bcel hr 7 (.int .i64 0) rfl
    have d8 := bcel hr 8 (.int .i64 0) rfl
    have d9 := bcel hr 9 (.int .i64 0) rfl
    have fd := fun j => bfre hr j
    have HRR := Lib.hid hr
    clear hr
    go_wp2
    refine at_worldQ (fun W9 hW9 => ?_)
    have hb9 := bset10 HRR.out (.slice A0 D.labels.length c0) (.slice A1 D.queues.length c1) (.slice A2 D.nodes.length c2) (.slice A3 0 c3) (.slice A4 D.nc c4) (.slice A5 D.ns c5) (.slice A6 D.np c6) (.int .i64 nw) (.int .i64 ep) (.int .i64 sq)
    have hgr := grown10 wc (B + 1) (.slice A0 D.labels.length c0) (.slice A1 D.queues.length c1) (.slice A2 D.nodes.length c2) (.slice A3 0 c3) (.slice A4 D.nc c4) (.slice A5 D.ns c5) (.slice A6 D.np c6) (.int .i64 nw) (.int .i64 ep) (.int .i64 sq)
    rw [← hW9] at hb9 hgr
    have HB9 := Lib.hid hb9
    have HGR := Lib.hid hgr
    clear hb9 hgr hW9 HRR g0 d0 g1 d1 g2 d2 g3 d3 g4 d4 g5 d5 g6 d6 g7 d7 g8 d8 g9 d9 fd
    have g0 := bcel HB9.out 0 (.slice A0 D.labels.length c0) rfl
    have g1 := bcel HB9.out 1 (.slice A1 D.queues.length c1) rfl
    have g2 := bcel HB9.out 2 (.slice A2 D.nodes.length c2) rfl
    have g3 := bcel HB9.out 3 (.slice A3 0 c3) rfl
    have g4 := bcel HB9.out 4 (.slice A4 D.nc c4) rfl
    have g5 := bcel HB9.out 5 (.slice A5 D.ns c5) rfl
    have g6 := bcel HB9.out 6 (.slice A6 D.np c6) rfl
    have g7 := bcel HB9.out 7 (.int .i64 nw) rfl
    have g8 := bcel HB9.out 8 (.int .i64 ep) rfl
    have g9 := bcel HB9.out 9 (.int .i64 sq) rfl
    refine bodyPost_ret (by simp [results, Try.results11, go_sem, g0, g1, g2, g3, g4, g5, g6, g7, g8, g9]; try rfl) rfl ?_
    refine ⟨⟨.slice A0 D.labels.length c0, .slice A1 D.queues.length c1, .slice A2 D.nodes.length c2, .slice A3 0 c3, .slice A4 D.nc c4, .slice A5 D.ns c5, .slice A6 D.np c6, nw, ep, sq⟩, rfl, rfl, rfl, rfl, ?_, ext_grown (X0.out.trans HX.out) HGR.out (by have := HB.out; omega)⟩
    rw [HD.out]
    exact (((HSV.out.now (Ext.refl _)).base HBB.out).low HGR.out (by omega)).base (by have := HB.out; omega)
end Go.Proofs.Ytffioglbgnbieaa
