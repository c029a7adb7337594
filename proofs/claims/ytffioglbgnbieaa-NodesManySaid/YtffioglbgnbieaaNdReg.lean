/- nodes.Register. -/
import Derived.Test.YtffioglbgnbieaaFrSt
import Derived.Deep.CutBlock
namespace Go.Proofs.Ytffioglbgnbieaa
open Go.RowKit

theorem LBelow.on {W wf wk : World} (h : LBelow W.heap.size wf wk) (x : Ext W wf) : Ext W wk := x.trans' (h x.size)
/-- Whatever is laid behind it, and whatever turns in block T, it stays. -/
def Surv (w : World) (T B : Nat) (s : SV) (D : StD) : Prop := ∀ W W', Ext w W → W.grownBy W' (some T) → StOwn W' B s D ∧ ∀ R, w.heap.size ≤ R → QFar W' B R s.vq D.queues
theorem QsAt.high {w w1 w2 : World} {B T : Nat} {v : Value} {ds : List QD} (h : QsAt w B v ds) (hT : w.heap.size ≤ T) (x : Ext w w1) (g : w1.grownBy w2 (some T)) : QsAt w2 B v ds := by
  obtain ⟨qs, h1, h2, h3⟩ := h
  refine ⟨qs, (own_ExtK h1 x).kept g (.inr (fun e => by have := (h1.lt T e).2; omega)), h2, fun k hk => ?_⟩
  obtain ⟨q, h4, h5, h6⟩ := h3 k hk
  exact ⟨q, h4, ⟨h5.1, h5.2.1, (h5.2.2.ext x).grown g (fun r e e' => by injection e with e; subst e; have := (h6 _ e').2.2; omega)⟩, fun r hr => ⟨(h6 r hr).1, (h6 r hr).2.1, by have := (h6 r hr).2.2; have := x.size; have := g.size; omega⟩⟩
theorem QFar.high {w w1 w2 : World} {B R T : Nat} {v : Value} {ds : List QD} (h : QFar w B R v ds) (hT : w.heap.size ≤ T) (x : Ext w w1) (g : w1.grownBy w2 (some T)) : QFar w2 B R v ds := by
  obtain ⟨h0, qs, h1, h2, h3⟩ := h
  refine ⟨h0, qs, (own_ExtK h1 x).kept g (.inr (fun e => by have := (h1.lt T e).2; omega)), h2, fun k hk => ?_⟩
  obtain ⟨q, h4, h5, h6⟩ := h3 k hk
  exact ⟨q, h4, ⟨h5.1, h5.2.1, (h5.2.2.ext x).grown g (fun r e e' => by injection e with e; subst e; have := (h6 _ e').2.2.1; omega)⟩, fun r hr => ⟨(h6 r hr).1, (h6 r hr).2.1, by have := (h6 r hr).2.2.1; have := x.size; have := g.size; omega, (h6 r hr).2.2.2⟩⟩
theorem StOwn.surv_high {w : World} {B T : Nat} {s : SV} {D : StD} (h : StOwn w B s D) (hT : w.heap.size ≤ T) : Surv w T B s D := fun _ _ x g =>
  have k : ∀ {e : TypeId} {k n : Nat} {v : Value} {xs : List Value} (h1 : w.ownsRow B e k v n xs), _ := fun h1 => (own_ExtK h1 x).kept g (.inr (fun e => by have := (h1.lt T e).2; omega))
  have f : ∀ R, QFar w B R s.vq D.queues → _ := fun R hf => hf.high hT x g
  ⟨⟨k h.labs, h.queues.high hT x g, k h.nodes, k h.apps, k h.conts, k h.slots, k h.plans, fun R hR => f R (h.far R hR)⟩, fun R hR => f R (h.queues.far hR)⟩
theorem StOwn.surv_low {w : World} {B T : Nat} {s : SV} {D : StD} (h : StOwn w B s D) (hT : T < B) : Surv w T B s D := fun _ _ x g => ⟨(h.ext x).low g hT, fun R hR => ((h.queues.far hR).ext x).grown g (.inl hT)⟩
theorem Surv.ext {w w1 : World} {T B : Nat} {s : SV} {D : StD} (h : Surv w T B s D) (x : Ext w w1) : Surv w1 T B s D := fun W W' x1 g => ⟨(h W W' (x.trans x1) g).1, fun R hR => (h W W' (x.trans x1) g).2 R (Nat.le_trans x.size hR)⟩
theorem Surv.grown {w w1 w2 : World} {T B : Nat} {s : SV} {D : StD} (h : Surv w T B s D) (x : Ext w w1) (g : w1.grownBy w2 (some T)) : StOwn w2 B s D := (h w1 w2 x g).1
theorem Surv.now {w w1 : World} {T B : Nat} {s : SV} {D : StD} (h : Surv w T B s D) (x : Ext w w1) : StOwn w1 B s D := (h w1 w1 x (World.grownBy.refl _ _)).1

/-- A list of nodes behind put lies in a block of its own. -/
theorem own_put {w : World} {B g : Nat} {xs : List ND} (h : w.heap[g]? = some (.cells (ncells xs).toArray 44 (0, 0))) (hb : B ≤ g) (hl : xs.length ≤ 1000000) : w.ownsRow B 44 8 (.slice (some ⟨g, 0, none⟩) xs.length xs.length) xs.length (ncells xs) :=
  ⟨ncells_len xs, .inr ⟨g, xs.length, _, rfl, hb, h, Nat.le_refl _, by simp [maxLen]; omega, by simp [ncells_len], by rw [← ncells_len]; simp⟩⟩

def regD (D : StD) (d : ND) (nw : Int) (E : Int) : StD := if E = 0 then { D with nodes := putN D.nodes ⟨d.id, d.label, d.rack, d.mem, d.cores, nw, 0, true⟩ } else D
/-- A state that is copied, and what is wrong. -/
def RegMid (W0 : World) (B : Nat) (nw ep sq E : Int) (D : StD) (s6 s7 : Value) (wx : World) : Prop := ∃ (T : Nat) (s' : SV) (b : Nat), s6 = .pointer (some ⟨T, 0, none⟩) ∧ s7 = .int .i64 E ∧ W0.heap.size ≤ T ∧ s'.now = nw ∧ s'.ep = ep ∧ s'.sq = sq ∧ wx.heap[T]? = some (.cells (scells s') 34 (0, 0)) ∧ B ≤ b ∧ Surv wx T b s' D ∧ Ext W0 wx
def RegPost (nw ep sq E : Int) (D : StD) (w : World) (e : Ending) (w' : World) : Prop := ∃ s : SV, s.now = nw ∧ s.ep = ep ∧ s.sq = sq ∧ e = .returned (.tuple #[s.val, .int .i64 E]) ∧ StOwn w' w.heap.size s D ∧ Ext w w'
theorem putN_len (ds : List ND) (d : ND) : (putN ds d).length ≤ ds.length + 1 := by
  have hi := List.findIdx_le_length (p := fun x => decide (d.id ≤ x.id)) (xs := ds)
  have hij : ds.findIdx (fun x => decide (d.id ≤ x.id)) ≤ ds.findIdx (fun x => decide (d.id < x.id)) := by
    rcases Nat.lt_or_ge (ds.findIdx (fun x => decide (d.id < x.id))) (ds.findIdx (fun x => decide (d.id ≤ x.id))) with h | h
    · obtain ⟨hk, hf⟩ := fidx_lt h
      have ht := List.findIdx_getElem (p := fun x : ND => decide (d.id < x.id)) (xs := ds) (w := hk)
      simp at hf ht
      omega
    · exact h
  unfold putN
  rw [List.length_append, List.length_cons, List.length_take, List.length_drop]
  omega

theorem StOwn.shape {w : World} {B : Nat} {s : SV} {D : StD} (h : StOwn w B s D) : ∃ A0 c0 A1 c1 A2 c2 A3 c3 A4 c4 A5 c5 A6 c6, s = ⟨.slice A0 D.labels.length c0, .slice A1 D.queues.length c1, .slice A2 D.nodes.length c2, .slice A3 0 c3, .slice A4 D.nc c4, .slice A5 D.ns c5, .slice A6 D.np c6, s.now, s.ep, s.sq⟩ := by
  obtain ⟨vl, vq, vn, va, vc, vs, vp, nw, ep, sq⟩ := s
  obtain ⟨A0, c0, e0, _⟩ := own_shape h.labs
  obtain ⟨A1, c1, e1⟩ := h.queues.shape
  obtain ⟨A2, c2, e2, _⟩ := own_shape h.nodes
  obtain ⟨A3, c3, e3, _⟩ := own_shape h.apps
  obtain ⟨A4, c4, e4, _⟩ := own_shape h.conts
  obtain ⟨A5, c5, e5, _⟩ := own_shape h.slots
  obtain ⟨A6, c6, e6, _⟩ := own_shape h.plans
  dsimp only at e0 e1 e2 e3 e4 e5 e6
  subst e0 e1 e2 e3 e4 e5 e6
  exact ⟨A0, c0, A1, c1, A2, c2, A3, c3, A4, c4, A5, c5, A6, c6, rfl⟩

set_option maxRecDepth 100000 in
set_option maxHeartbeats 6400000 in
theorem Register_any (s : SV) (D : StD) (d : ND) (w : World) (h : StRd w s D) (hok : StOk D) (hmx : D.nodes.length ≤ 500) :
    Calls Try.prog 10 #[s.val, nodeV d] w (RegPost s.now s.ep s.sq (newE D.nodes D.labels.length d) (regD D d s.now (newE D.nodes D.labels.length d)) w) := by
  have HF := Lib.hid (fun W (x : Ext w W) => frState_any s D W (h.ext x) hok)
  have hvl : ∃ A c, s.vl = .slice A D.labels.length c := by obtain ⟨A, c, e, _⟩ := h.labs; exact ⟨A, c, e⟩
  obtain ⟨Al, cl, hvl⟩ := hvl
  have HK := Lib.hid (fun W (x : Ext w W) => checkNew_any s D.nodes d Al D.labels.length cl W (h.nodes.ext x) hok.nodes hvl hok.labs.1)
  have HP := Lib.hid (fun W (x : Ext w W) => put_any D.nodes s.vn ⟨d.id, d.label, d.rack, d.mem, d.cores, s.now, 0, true⟩ W (h.nodes.ext x) hok.nodes)
  obtain ⟨E, hE⟩ : ∃ E, E = newE D.nodes D.labels.length d := ⟨_, rfl⟩
  rw [← hE] at HK ⊢
  obtain ⟨vl, vq, vn, va, vc, vs, vp, nw, ep, sq⟩ := s
  simp only [SV.val, nodeV] at HF HK HP ⊢
  have HN := Lib.hid hmx
  clear h hok hmx hvl hE
  go_enter Try.func10, Try.ntmps10
  go_upto_region 1 with fail
  refine at_world (fun W0 hW0 => ?_)
  obtain ⟨B, hB⟩ : ∃ B, B = w.heap.size := ⟨_, rfl⟩
  have HB := Lib.hid (show w.heap.size ≤ B by omega)
  have X0 := Lib.hid (show Ext w W0 by rw [hW0]; exact ((ext_alloc _ _).trans (ext_alloc _ _)).trans (ext_alloc _ _))
  have H1 := Lib.hid (show W0.heap[B]? = some (.cells #[vl, vq, vn, va, vc, vs, vp, .int .i64 nw, .int .i64 ep, .int .i64 sq] 34 (0, 0)) by rw [hW0, hB]; exact ext_blk ((ext_alloc _ _).trans (ext_alloc _ _)) (heap_alloc_new w _))
  have H2 := Lib.hid (show W0.heap[B + 1]? = some (.cells #[.int .i64 d.id, .int .i64 d.label, .int .i64 d.rack, .int .i64 d.mem, .int .i64 d.cores, .int .i64 d.seen, .int .i64 d.beat, .bool d.up] 44 (0, 0)) by rw [hW0, hB]; exact ext_blk (ext_alloc _ _) (alloc_at (by simp)))
  have H3 := Lib.hid (show W0.heap[B + 1 + 1]? = some (.cells #[.slice none 0 0, .slice none 0 0, .slice none 0 0, .slice none 0 0, .slice none 0 0, .slice none 0 0, .slice none 0 0, .int .i64 0, .int .i64 0, .int .i64 0] 34 (0, 0)) by rw [hW0, hB]; exact alloc_at (by simp))
  rw [← hB]
  clear hW0 hB
  have HS3 := Lib.hid (show B + 1 + 1 < W0.heap.size from (Array.getElem?_eq_some_iff.1 H3.out).1)
  go_cut [6, 7] from 8 to 12 (fun s6 s7 wx => RegMid W0 (B + 3) nw ep sq E D s6 s7 wx)
  case first =>
    have s0 := bcel H1.out 0 (vl) rfl
    have s1 := bcel H1.out 1 (vq) rfl
    have s2 := bcel H1.out 2 (vn) rfl
    have s3 := bcel H1.out 3 (va) rfl
    have s4 := bcel H1.out 4 (vc) rfl
    have s5 := bcel H1.out 5 (vs) rfl
    have s6 := bcel H1.out 6 (vp) rfl
    have s7 := bcel H1.out 7 (.int .i64 nw) rfl
    have s8 := bcel H1.out 8 (.int .i64 ep) rfl
    have s9 := bcel H1.out 9 (.int .i64 sq) rfl
    have n0 := bcel H2.out 0 (.int .i64 d.id) rfl
    have n1 := bcel H2.out 1 (.int .i64 d.label) rfl
    have n2 := bcel H2.out 2 (.int .i64 d.rack) rfl
    have n3 := bcel H2.out 3 (.int .i64 d.mem) rfl
    have n4 := bcel H2.out 4 (.int .i64 d.cores) rfl
    have n5 := bcel H2.out 5 (.int .i64 d.seen) rfl
    have n6 := bcel H2.out 6 (.int .i64 d.beat) rfl
    have n7 := bcel H2.out 7 (.bool d.up) rfl
    refine wp_region_tree (LBelow W0.heap.size) (LBelow_way _) (.free 0 (.free 2 (.free 3 (.two 1 5 (.free 4 (.step 5 (.step 6 (.free 7 .done)))) (.step 1 (.free 4 (.step 6 (.free 7 .done)))))))) (by kernel_rfl) (by kernel_rfl) (fun _ _ _ _ _ h => h) ?_
    repeat first | ((with_reducible refine tree_free ?_ ?_ ?_ ?_ (fun wk k1 => ?_) ?_); rotate_left 2; (rfl); (first | exact want_none rfl | exact want_some rfl rfl rfl rfl); (go_simp; first | exact OkX.val | (have kk := LBelow.ext k1; have y0 := kk.cell s0; have y1 := kk.cell s1; have y2 := kk.cell s2; have y3 := kk.cell s3; have y4 := kk.cell s4; have y5 := kk.cell s5; have y6 := kk.cell s6; have y7 := kk.cell s7; have y8 := kk.cell s8; have y9 := kk.cell s9; have x0 := kk.cell n0; have x1 := kk.cell n1; have x2 := kk.cell n2; have x3 := kk.cell n3; have x4 := kk.cell n4; have x5 := kk.cell n5; have x6 := kk.cell n6; have x7 := kk.cell n7; go_simp; exact OkX.val)); simp only [Act.put, List.setIfInBounds_toArray, List.set_cons_zero, List.set_cons_succ]) | ((with_reducible refine tree_skip ?_ ?_ ?_ ?_); rotate_left; (rfl); (exact want_not rfl rfl rfl rfl rfl); simp only [Act.put, List.setIfInBounds_toArray, List.set_cons_zero, List.set_cons_succ])
    clear s0 s1 s2 s3 s4 s5 s6 s7 s8 s9 n0 n1 n2 n3 n4 n5 n6 n7
    ((with_reducible refine tree_two ?_ ?_ ?_ ?_ ?_ ?_ (fun wk k1 => ?_) (fun wk k1 => ?_)); rotate_left 2; (rfl); (first | exact want_none rfl | exact want_some rfl rfl rfl rfl); (rfl); (first | exact want_none rfl | exact want_some rfl rfl rfl rfl))
    · have EC := Lib.hid ((Ext.drew _).trans k1)
      clear k1
      go_simp
      (with_reducible refine (HF.out _ (X0.out.trans EC.out)).mono ?_)
      unfold StPost
      rintro e wf ⟨s', e1, e2, e3, rfl, ho, hxf⟩
      refine ⟨(LBelow_way _).ext hxf, ?_⟩
      try simp only [Act.put, List.setIfInBounds_toArray, List.set_cons_zero, List.set_cons_succ]
      obtain ⟨A0, c0, A1, c1, A2, c2, A3, c3, A4, c4, A5, c5, A6, c6, es⟩ := ho.shape
      rw [e1, e2, e3] at es
      subst es
      clear e1 e2 e3
      simp only [SV.val]
      have E1 := Lib.hid (EC.out.trans hxf)
      have HBB := Lib.hid (show B + 3 ≤ wk.heap.size by have := HS3.out; have := EC.out.size; omega)
      have HO := Lib.hid ho
      clear ho hxf EC
      repeat first | ((with_reducible refine tree_free ?_ ?_ ?_ ?_ (fun wk k1 => ?_) ?_); rotate_left 2; (rfl); (first | exact want_none rfl | exact want_some rfl rfl rfl rfl); (go_simp; first | exact OkX.val | ((with_reducible refine OkX.eqv (OkX.call (HK.out _ (X0.out.trans (k1.on E1.out)))) ?_); exact rfl)); simp only [Act.put, List.setIfInBounds_toArray, List.set_cons_zero, List.set_cons_succ]) | ((with_reducible refine tree_skip ?_ ?_ ?_ ?_); rotate_left; (rfl); (exact want_not rfl rfl rfl rfl rfl); simp only [Act.put, List.setIfInBounds_toArray, List.set_cons_zero, List.set_cons_succ])
      ((with_reducible refine tree_step ?_ ?_ ?_ (fun wk k1 => ?_)); rotate_left; (rfl); (first | exact want_none rfl | exact want_some rfl rfl rfl rfl))
      have E1' := Lib.hid (E1.out.trans k1)
      have HO' := Lib.hid (HO.out.ext k1)
      clear k1 HO
      go_simp
      refine ⟨(LBelow_way _).ext (ext_alloc _ _), ?_⟩
      try simp only [Act.put, List.setIfInBounds_toArray, List.set_cons_zero, List.set_cons_succ]
      have HT := Lib.hid (heap_alloc_new wk (.cells #[.slice none 0 0, .slice none 0 0, .slice none 0 0, .slice none 0 0, .slice none 0 0, .slice none 0 0, .slice none 0 0, .int .i64 0, .int .i64 0, .int .i64 0] 34 (0, 0)))
      have E2 := Lib.hid (E1'.out.trans (ext_alloc wk (.cells #[.slice none 0 0, .slice none 0 0, .slice none 0 0, .slice none 0 0, .slice none 0 0, .slice none 0 0, .slice none 0 0, .int .i64 0, .int .i64 0, .int .i64 0] 34 (0, 0))))
      have HU := Lib.hid ((HO'.out.surv_high (Nat.le_refl _)).ext (ext_alloc wk (.cells #[.slice none 0 0, .slice none 0 0, .slice none 0 0, .slice none 0 0, .slice none 0 0, .slice none 0 0, .slice none 0 0, .int .i64 0, .int .i64 0, .int .i64 0] 34 (0, 0))))
      obtain ⟨T, hT⟩ : ∃ T, T = wk.heap.size := ⟨_, rfl⟩
      have HTB := Lib.hid (show W0.heap.size ≤ T ∧ True from ⟨by rw [hT]; exact E1'.out.size, trivial⟩)
      rw [← hT] at HT HU ⊢
      clear hT HO' E1'
      ((with_reducible refine tree_step ?_ ?_ ?_ (fun wk k1 => ?_)); rotate_left; (rfl); (first | exact want_none rfl | exact want_some rfl rfl rfl rfl))
      have hb2 := ext_blk k1 HT.out
      have E3 := Lib.hid (E2.out.trans k1)
      have HU3 := Lib.hid (HU.out.ext k1)
      clear k1
      have d0 := bcel hb2 0 (.slice none 0 0) rfl
      have d1 := bcel hb2 1 (.slice none 0 0) rfl
      have d2 := bcel hb2 2 (.slice none 0 0) rfl
      have d3 := bcel hb2 3 (.slice none 0 0) rfl
      have d4 := bcel hb2 4 (.slice none 0 0) rfl
      have d5 := bcel hb2 5 (.slice none 0 0) rfl
      have d6 := bcel hb2 6 (.slice none 0 0) rfl
      have d7 := bcel hb2 7 (.int .i64 0) rfl
      have d8 := bcel hb2 8 (.int .i64 0) rfl
      have d9 := bcel hb2 9 (.int .i64 0) rfl
      have fd := fun j => bfre hb2 j
      go_simp
      have hgr := grown10 wk T (.slice A0 D.labels.length c0) (.slice A1 D.queues.length c1) (.slice A2 D.nodes.length c2) (.slice A3 0 c3) (.slice A4 D.nc c4) (.slice A5 D.ns c5) (.slice A6 D.np c6) (.int .i64 nw) (.int .i64 ep) (.int .i64 sq)
      refine ⟨fun _ => grown_below hgr E3.out.size (fun k hk => by injection hk with hk; have := HTB.out.1; omega), ?_⟩
      try simp only [Act.put, List.setIfInBounds_toArray, List.set_cons_zero, List.set_cons_succ]
      have hb9 := bset10 hb2 (.slice A0 D.labels.length c0) (.slice A1 D.queues.length c1) (.slice A2 D.nodes.length c2) (.slice A3 0 c3) (.slice A4 D.nc c4) (.slice A5 D.ns c5) (.slice A6 D.np c6) (.int .i64 nw) (.int .i64 ep) (.int .i64 sq)
      obtain ⟨W7, hW7⟩ : ∃ W7, W7 = ((((((((((wk.setCell ⟨T, 0, none⟩ (.slice A0 D.labels.length c0)).setCell ⟨T, 1, none⟩ (.slice A1 D.queues.length c1)).setCell ⟨T, 2, none⟩ (.slice A2 D.nodes.length c2)).setCell ⟨T, 3, none⟩ (.slice A3 0 c3)).setCell ⟨T, 4, none⟩ (.slice A4 D.nc c4)).setCell ⟨T, 5, none⟩ (.slice A5 D.ns c5)).setCell ⟨T, 6, none⟩ (.slice A6 D.np c6)).setCell ⟨T, 7, none⟩ (.int .i64 nw)).setCell ⟨T, 8, none⟩ (.int .i64 ep)).setCell ⟨T, 9, none⟩ (.int .i64 sq)) := ⟨_, rfl⟩
      rw [← hW7] at hgr hb9 ⊢
      clear hW7 hb2 fd d0 d1 d2 d3 d4 d5 d6 d7 d8 d9
      repeat first | ((with_reducible refine tree_free ?_ ?_ ?_ ?_ (fun wk k1 => ?_) ?_); rotate_left 2; (rfl); (first | exact want_none rfl | exact want_some rfl rfl rfl rfl); (go_simp; first | exact OkX.val); simp only [Act.put, List.setIfInBounds_toArray, List.set_cons_zero, List.set_cons_succ]) | ((with_reducible refine tree_skip ?_ ?_ ?_ ?_); rotate_left; (rfl); (exact want_not rfl rfl rfl rfl rfl); simp only [Act.put, List.setIfInBounds_toArray, List.set_cons_zero, List.set_cons_succ])
      refine tree_done (fun wz k1 => ?_)
      have hfin := Lib.hid (show RegMid W0 (B + 3) nw ep sq E D (.pointer (some ⟨T, 0, none⟩)) (.int .i64 E) wz from
        ⟨T, ⟨.slice A0 D.labels.length c0, .slice A1 D.queues.length c1, .slice A2 D.nodes.length c2, .slice A3 0 c3, .slice A4 D.nc c4, .slice A5 D.ns c5, .slice A6 D.np c6, nw, ep, sq⟩, _, rfl, rfl, HTB.out.1, rfl, rfl, rfl, ext_blk k1 hb9, HBB.out, fun W W' x g => ⟨(HU3.out wk W' (Ext.refl _) (hgr.trans (((grown_of_ext (k1.trans x) _)).trans g))).1, fun R hR => (HU3.out wk W' (Ext.refl _) (hgr.trans (((grown_of_ext (k1.trans x) _)).trans g))).2 R (Nat.le_trans (Nat.le_trans hgr.size k1.size) hR)⟩, (ext_grown E3.out hgr HTB.out.1).trans k1⟩)
      clear k1
      go_wp2
      go_meet
      case rel => exact hfin.out
    · have E0 := Lib.hid ((Ext.drew _).trans k1)
      clear k1
      go_simp
      refine ⟨(LBelow_way _).ext (ext_alloc _ _), ?_⟩
      try simp only [Act.put, List.setIfInBounds_toArray, List.set_cons_zero, List.set_cons_succ]
      have HT' := Lib.hid (heap_alloc_new wk (.cells #[.slice none 0 0, .slice none 0 0, .slice none 0 0, .slice none 0 0, .slice none 0 0, .slice none 0 0, .slice none 0 0, .int .i64 0, .int .i64 0, .int .i64 0] 34 (0, 0)))
      have E2' := Lib.hid (E0.out.trans (ext_alloc wk (.cells #[.slice none 0 0, .slice none 0 0, .slice none 0 0, .slice none 0 0, .slice none 0 0, .slice none 0 0, .slice none 0 0, .int .i64 0, .int .i64 0, .int .i64 0] 34 (0, 0))))
      obtain ⟨T, hT⟩ : ∃ T, T = wk.heap.size := ⟨_, rfl⟩
      have HTB := Lib.hid (show W0.heap.size ≤ T ∧ True from ⟨by rw [hT]; exact E0.out.size, trivial⟩)
      rw [← hT] at HT' ⊢
      clear hT
      ((with_reducible refine tree_step ?_ ?_ ?_ (fun wk k1 => ?_)); rotate_left; (rfl); (first | exact want_none rfl | exact want_some rfl rfl rfl rfl))
      have EC := Lib.hid (E2'.out.trans k1)
      have HT'' := Lib.hid (ext_blk k1 HT'.out)
      clear k1
      go_simp
      (with_reducible refine (HF.out _ (X0.out.trans EC.out)).mono ?_)
      unfold StPost
      rintro e wf ⟨s', e1, e2, e3, rfl, ho, hxf⟩
      refine ⟨(LBelow_way _).ext hxf, ?_⟩
      try simp only [Act.put, List.setIfInBounds_toArray, List.set_cons_zero, List.set_cons_succ]
      obtain ⟨A0, c0, A1, c1, A2, c2, A3, c3, A4, c4, A5, c5, A6, c6, es⟩ := ho.shape
      rw [e1, e2, e3] at es
      subst es
      clear e1 e2 e3
      simp only [SV.val]
      have E1 := Lib.hid (EC.out.trans hxf)
      have HBB := Lib.hid (show B + 3 ≤ wk.heap.size by have := HS3.out; have := EC.out.size; omega)
      have HT := Lib.hid (ext_blk hxf HT''.out)
      have HU := Lib.hid (ho.surv_low (show T < wk.heap.size from (Array.getElem?_eq_some_iff.1 HT''.out).1))
      have E2 := Lib.hid E1.out
      clear ho hxf EC HT' HT''
      repeat first | ((with_reducible refine tree_free ?_ ?_ ?_ ?_ (fun wk k1 => ?_) ?_); rotate_left 2; (rfl); (first | exact want_none rfl | exact want_some rfl rfl rfl rfl); (go_simp; first | exact OkX.val | ((with_reducible refine OkX.eqv (OkX.call (HK.out _ (X0.out.trans (k1.on E1.out)))) ?_); exact rfl)); simp only [Act.put, List.setIfInBounds_toArray, List.set_cons_zero, List.set_cons_succ]) | ((with_reducible refine tree_skip ?_ ?_ ?_ ?_); rotate_left; (rfl); (exact want_not rfl rfl rfl rfl rfl); simp only [Act.put, List.setIfInBounds_toArray, List.set_cons_zero, List.set_cons_succ])
      ((with_reducible refine tree_step ?_ ?_ ?_ (fun wk k1 => ?_)); rotate_left; (rfl); (first | exact want_none rfl | exact want_some rfl rfl rfl rfl))
      have hb2 := ext_blk k1 HT.out
      have E3 := Lib.hid (E2.out.trans k1)
      have HU3 := Lib.hid (HU.out.ext k1)
      clear k1
      have d0 := bcel hb2 0 (.slice none 0 0) rfl
      have d1 := bcel hb2 1 (.slice none 0 0) rfl
      have d2 := bcel hb2 2 (.slice none 0 0) rfl
      have d3 := bcel hb2 3 (.slice none 0 0) rfl
      have d4 := bcel hb2 4 (.slice none 0 0) rfl
      have d5 := bcel hb2 5 (.slice none 0 0) rfl
      have d6 := bcel hb2 6 (.slice none 0 0) rfl
      have d7 := bcel hb2 7 (.int .i64 0) rfl
      have d8 := bcel hb2 8 (.int .i64 0) rfl
      have d9 := bcel hb2 9 (.int .i64 0) rfl
      have fd := fun j => bfre hb2 j
      go_simp
      have hgr := grown10 wk T (.slice A0 D.labels.length c0) (.slice A1 D.queues.length c1) (.slice A2 D.nodes.length c2) (.slice A3 0 c3) (.slice A4 D.nc c4) (.slice A5 D.ns c5) (.slice A6 D.np c6) (.int .i64 nw) (.int .i64 ep) (.int .i64 sq)
      refine ⟨fun _ => grown_below hgr E3.out.size (fun k hk => by injection hk with hk; have := HTB.out.1; omega), ?_⟩
      try simp only [Act.put, List.setIfInBounds_toArray, List.set_cons_zero, List.set_cons_succ]
      have hb9 := bset10 hb2 (.slice A0 D.labels.length c0) (.slice A1 D.queues.length c1) (.slice A2 D.nodes.length c2) (.slice A3 0 c3) (.slice A4 D.nc c4) (.slice A5 D.ns c5) (.slice A6 D.np c6) (.int .i64 nw) (.int .i64 ep) (.int .i64 sq)
      obtain ⟨W7, hW7⟩ : ∃ W7, W7 = ((((((((((wk.setCell ⟨T, 0, none⟩ (.slice A0 D.labels.length c0)).setCell ⟨T, 1, none⟩ (.slice A1 D.queues.length c1)).setCell ⟨T, 2, none⟩ (.slice A2 D.nodes.length c2)).setCell ⟨T, 3, none⟩ (.slice A3 0 c3)).setCell ⟨T, 4, none⟩ (.slice A4 D.nc c4)).setCell ⟨T, 5, none⟩ (.slice A5 D.ns c5)).setCell ⟨T, 6, none⟩ (.slice A6 D.np c6)).setCell ⟨T, 7, none⟩ (.int .i64 nw)).setCell ⟨T, 8, none⟩ (.int .i64 ep)).setCell ⟨T, 9, none⟩ (.int .i64 sq)) := ⟨_, rfl⟩
      rw [← hW7] at hgr hb9 ⊢
      clear hW7 hb2 fd d0 d1 d2 d3 d4 d5 d6 d7 d8 d9
      repeat first | ((with_reducible refine tree_free ?_ ?_ ?_ ?_ (fun wk k1 => ?_) ?_); rotate_left 2; (rfl); (first | exact want_none rfl | exact want_some rfl rfl rfl rfl); (go_simp; first | exact OkX.val); simp only [Act.put, List.setIfInBounds_toArray, List.set_cons_zero, List.set_cons_succ]) | ((with_reducible refine tree_skip ?_ ?_ ?_ ?_); rotate_left; (rfl); (exact want_not rfl rfl rfl rfl rfl); simp only [Act.put, List.setIfInBounds_toArray, List.set_cons_zero, List.set_cons_succ])
      refine tree_done (fun wz k1 => ?_)
      have hfin := Lib.hid (show RegMid W0 (B + 3) nw ep sq E D (.pointer (some ⟨T, 0, none⟩)) (.int .i64 E) wz from
        ⟨T, ⟨.slice A0 D.labels.length c0, .slice A1 D.queues.length c1, .slice A2 D.nodes.length c2, .slice A3 0 c3, .slice A4 D.nc c4, .slice A5 D.ns c5, .slice A6 D.np c6, nw, ep, sq⟩, _, rfl, rfl, HTB.out.1, rfl, rfl, rfl, ext_blk k1 hb9, HBB.out, fun W W' x g => ⟨(HU3.out wk W' (Ext.refl _) (hgr.trans (((grown_of_ext (k1.trans x) _)).trans g))).1, fun R hR => (HU3.out wk W' (Ext.refl _) (hgr.trans (((grown_of_ext (k1.trans x) _)).trans g))).2 R (Nat.le_trans (Nat.le_trans hgr.size k1.size) hR)⟩, (ext_grown E3.out hgr HTB.out.1).trans k1⟩)
      clear k1
      go_wp2
      go_meet
      case rel => exact hfin.out
  case rest =>
  obtain ⟨T, s', b, rfl, rfl, hT, e1, e2, e3, hTb, hb, hsv, hx⟩ := hcut
  obtain ⟨A0, c0, A1, c1, A2, c2, A3, c3, A4, c4, A5, c5, A6, c6, es⟩ := (hsv.now (Ext.refl _)).shape
  rw [e1, e2, e3] at es
  subst es
  have HT := Lib.hid hT
  have HTB := Lib.hid (show wc.heap[T]? = some (.cells #[.slice A0 D.labels.length c0, .slice A1 D.queues.length c1, .slice A2 D.nodes.length c2, .slice A3 0 c3, .slice A4 D.nc c4, .slice A5 D.ns c5, .slice A6 D.np c6, .int .i64 nw, .int .i64 ep, .int .i64 sq] 34 (0, 0)) from hTb)
  have HBB := Lib.hid hb
  have HSV := Lib.hid hsv
  have HX := Lib.hid hx
  clear e1 e2 e3 hT hTb hb hsv hx
  have HTN := Lib.hid (show T ≠ B + 1 + 1 by have := HT.out; have := HS3.out; omega)
  by_cases hE : E = 0
  · subst hE
    have HD := Lib.hid (show regD D d nw 0 = { D with nodes := putN D.nodes ⟨d.id, d.label, d.rack, d.mem, d.cores, nw, 0, true⟩ } from rfl)
    obtain ⟨NN, hNN⟩ : ∃ n, n = (putN D.nodes ⟨d.id, d.label, d.rack, d.mem, d.cores, nw, 0, true⟩).length := ⟨_, rfl⟩
    have HNN := Lib.hid hNN
    have HNB := Lib.hid (show NN ≤ 1000000 by rw [hNN]; have := putN_len D.nodes ⟨d.id, d.label, d.rack, d.mem, d.cores, nw, 0, true⟩; have := HN.out; omega)
    clear hNN
    have a2 := bcel (ext_blk HX.out H1.out) 2 (vn) rfl
    have a7 := bcel (ext_blk HX.out H1.out) 7 (.int .i64 nw) rfl
    have b0 := bcel (ext_blk HX.out H2.out) 0 (.int .i64 d.id) rfl
    have b1 := bcel (ext_blk HX.out H2.out) 1 (.int .i64 d.label) rfl
    have b2 := bcel (ext_blk HX.out H2.out) 2 (.int .i64 d.rack) rfl
    have b3 := bcel (ext_blk HX.out H2.out) 3 (.int .i64 d.mem) rfl
    have b4 := bcel (ext_blk HX.out H2.out) 4 (.int .i64 d.cores) rfl
    go_wp2_with fail
    (with_reducible refine (HP.out _ (X0.out.trans HX.out)).mono ?_)
    unfold PutPost
    rintro e w3 ⟨G, rfl, hG1, hG2, hx3⟩
    rw [← HNN.out]
    have HG := Lib.hid (show B + 3 ≤ G by have := HX.out.size; have := HS3.out; omega)
    have HGS := Lib.hid hG1
    have HE3 := Lib.hid hx3
    have HTB3 := Lib.hid (ext_blk hx3 HTB.out)
    have HX3 := Lib.hid (HX.out.trans hx3)
    have HSV3 := Lib.hid (HSV.out.ext hx3)
    have HG2 := Lib.hid hG2
    have HGT := Lib.hid (show G ≠ T from fun e => by have := (Array.getElem?_eq_some_iff.1 HTB.out).1; omega)
    clear hx3 hG1 hG2 a2 a7 b0 b1 b2 b3 b4
    have q2 := bcel HTB3.out 2 (.slice A2 D.nodes.length c2) rfl
    have fq := fun j => bfre HTB3.out j
    go_upto_region 4 with fail
    refine at_world (fun W4 hW4 => ?_)
    have hg4 := bgrown w3 T 2 (.slice (some ⟨G, 0, none⟩) NN NN)
    have ht4 := bset HTB3.out 2 (.slice (some ⟨G, 0, none⟩) NN NN)
    rw [← hW4] at hg4 ht4
    have HT4 := Lib.hid (show W4.heap[T]? = some (.cells #[.slice A0 D.labels.length c0, .slice A1 D.queues.length c1, .slice (some ⟨G, 0, none⟩) NN NN, .slice A3 0 c3, .slice A4 D.nc c4, .slice A5 D.ns c5, .slice A6 D.np c6, .int .i64 nw, .int .i64 ep, .int .i64 sq] 34 (0, 0)) from ht4)
    have HO4 := Lib.hid (HSV3.out.grown (Ext.refl _) hg4)
    have HQF := Lib.hid (((HSV.out w3 W4 HE3.out hg4).2 G HGS.out).base HBB.out)
    have HG4 := Lib.hid (show W4.heap[G]? = _ from (hg4.block G (Array.getElem?_eq_some_iff.1 HG2.out).1 (fun e => by injection e with e; exact HGT.out e)).trans HG2.out)
    have X4 := Lib.hid (ext_grown (HX3.out) hg4 HT.out)
    clear hW4 hg4 ht4 q2 fq
    have g0 := bcel HT4.out 0 (.slice A0 D.labels.length c0) rfl
    have g1 := bcel HT4.out 1 (.slice A1 D.queues.length c1) rfl
    have g2 := bcel HT4.out 2 (.slice (some ⟨G, 0, none⟩) NN NN) rfl
    have g3 := bcel HT4.out 3 (.slice A3 0 c3) rfl
    have g4 := bcel HT4.out 4 (.slice A4 D.nc c4) rfl
    have g5 := bcel HT4.out 5 (.slice A5 D.ns c5) rfl
    have g6 := bcel HT4.out 6 (.slice A6 D.np c6) rfl
    have g7 := bcel HT4.out 7 (.int .i64 nw) rfl
    have g8 := bcel HT4.out 8 (.int .i64 ep) rfl
    have g9 := bcel HT4.out 9 (.int .i64 sq) rfl
    have hr := ext_blk X4.out H3.out
    have d0 := bcel hr 0 (.slice none 0 0) rfl
    have d1 := bcel hr 1 (.slice none 0 0) rfl
    have d2 := bcel hr 2 (.slice none 0 0) rfl
    have d3 := bcel hr 3 (.slice none 0 0) rfl
    have d4 := bcel hr 4 (.slice none 0 0) rfl
    have d5 := bcel hr 5 (.slice none 0 0) rfl
    have d6 := bcel hr 6 (.slice none 0 0) rfl
    have d7 := bcel hr 7 (.int .i64 0) rfl
    have d8 := bcel hr 8 (.int .i64 0) rfl
    have d9 := bcel hr 9 (.int .i64 0) rfl
    have fd := fun j => bfre hr j
    have HRR := Lib.hid hr
    clear hr
    go_wp2
    refine at_worldQ (fun W9 hW9 => ?_)
    have hb9 := bset10 HRR.out (.slice A0 D.labels.length c0) (.slice A1 D.queues.length c1) (.slice (some ⟨G, 0, none⟩) NN NN) (.slice A3 0 c3) (.slice A4 D.nc c4) (.slice A5 D.ns c5) (.slice A6 D.np c6) (.int .i64 nw) (.int .i64 ep) (.int .i64 sq)
    have hgr := grown10 W4 (B + 1 + 1) (.slice A0 D.labels.length c0) (.slice A1 D.queues.length c1) (.slice (some ⟨G, 0, none⟩) NN NN) (.slice A3 0 c3) (.slice A4 D.nc c4) (.slice A5 D.ns c5) (.slice A6 D.np c6) (.int .i64 nw) (.int .i64 ep) (.int .i64 sq)
    rw [← hW9] at hb9 hgr
    have HB9 := Lib.hid hb9
    have HGR := Lib.hid hgr
    clear hb9 hgr hW9 HRR g0 d0 g1 d1 g2 d2 g3 d3 g4 d4 g5 d5 g6 d6 g7 d7 g8 d8 g9 d9 fd
    have g0 := bcel HB9.out 0 (.slice A0 D.labels.length c0) rfl
    have g1 := bcel HB9.out 1 (.slice A1 D.queues.length c1) rfl
    have g2 := bcel HB9.out 2 (.slice (some ⟨G, 0, none⟩) NN NN) rfl
    have g3 := bcel HB9.out 3 (.slice A3 0 c3) rfl
    have g4 := bcel HB9.out 4 (.slice A4 D.nc c4) rfl
    have g5 := bcel HB9.out 5 (.slice A5 D.ns c5) rfl
    have g6 := bcel HB9.out 6 (.slice A6 D.np c6) rfl
    have g7 := bcel HB9.out 7 (.int .i64 nw) rfl
    have g8 := bcel HB9.out 8 (.int .i64 ep) rfl
    have g9 := bcel HB9.out 9 (.int .i64 sq) rfl
    refine bodyPost_ret (by simp [results, Try.results10, go_sem, g0, g1, g2, g3, g4, g5, g6, g7, g8, g9]; try rfl) rfl ?_
    refine ⟨⟨.slice A0 D.labels.length c0, .slice A1 D.queues.length c1, .slice (some ⟨G, 0, none⟩) NN NN, .slice A3 0 c3, .slice A4 D.nc c4, .slice A5 D.ns c5, .slice A6 D.np c6, nw, ep, sq⟩, rfl, rfl, rfl, rfl, ?_, ext_grown (X0.out.trans X4.out) HGR.out (by have := HB.out; omega)⟩
    rw [HD.out]
    have ho := HO4.out
    have hn := own_put (B := B + 3) HG4.out HG.out (by rw [← HNN.out]; exact HNB.out)
    rw [← HNN.out] at hn
    have h9 : StOwn W4 (B + 3) ⟨.slice A0 D.labels.length c0, .slice A1 D.queues.length c1, .slice (some ⟨G, 0, none⟩) NN NN, .slice A3 0 c3, .slice A4 D.nc c4, .slice A5 D.ns c5, .slice A6 D.np c6, nw, ep, sq⟩ { D with nodes := putN D.nodes ⟨d.id, d.label, d.rack, d.mem, d.cores, nw, 0, true⟩ } :=
      ⟨own_base ho.labs HBB.out, ho.queues.base HBB.out, by show World.ownsRow _ _ _ _ _ (putN D.nodes _).length _; rw [← HNN.out]; exact hn, own_base ho.apps HBB.out, own_base ho.conts HBB.out, own_base ho.slots HBB.out, own_base ho.plans HBB.out, fun R hR => by
        obtain rfl : G = R := by injection hR
        exact HQF.out⟩
    exact (h9.low HGR.out (by omega)).base (by have := HB.out; omega)
  · have hE2 : (E == 0) = false := by simpa using hE
    have HD := Lib.hid (show regD D d nw E = D by unfold regD; rw [if_neg hE])
    have g0 := bcel HTB.out 0 (.slice A0 D.labels.length c0) rfl
    have g1 := bcel HTB.out 1 (.slice A1 D.queues.length c1) rfl
    have g2 := bcel HTB.out 2 (.slice A2 D.nodes.length c2) rfl
    have g3 := bcel HTB.out 3 (.slice A3 0 c3) rfl
    have g4 := bcel HTB.out 4 (.slice A4 D.nc c4) rfl
    have g5 := bcel HTB.out 5 (.slice A5 D.ns c5) rfl
    have g6 := bcel HTB.out 6 (.slice A6 D.np c6) rfl
    have g7 := bcel HTB.out 7 (.int .i64 nw) rfl
    have g8 := bcel HTB.out 8 (.int .i64 ep) rfl
    have g9 := bcel HTB.out 9 (.int .i64 sq) rfl
    have hr := ext_blk HX.out H3.out
    have d0 := bcel hr 0 (.slice none 0 0) rfl
    have d1 := bcel hr 1 (.slice none 0 0) rfl
    have d2 := bcel hr 2 (.slice none 0 0) rfl
    have d3 := bcel hr 3 (.slice none 0 0) rfl
    have d4 := bcel hr 4 (.slice none 0 0) rfl
    have d5 := bcel hr 5 (.slice none 0 0) rfl
    have d6 := bcel hr 6 (.slice none 0 0) rfl
    have d7 := bcel hr 7 (.int .i64 0) rfl
    have d8 := bcel hr 8 (.int .i64 0) rfl
    have d9 := bcel hr 9 (.int .i64 0) rfl
    have fd := fun j => bfre hr j
    have HRR := Lib.hid hr
    clear hr
    go_wp2
    refine at_worldQ (fun W9 hW9 => ?_)
    have hb9 := bset10 HRR.out (.slice A0 D.labels.length c0) (.slice A1 D.queues.length c1) (.slice A2 D.nodes.length c2) (.slice A3 0 c3) (.slice A4 D.nc c4) (.slice A5 D.ns c5) (.slice A6 D.np c6) (.int .i64 nw) (.int .i64 ep) (.int .i64 sq)
    have hgr := grown10 wc (B + 1 + 1) (.slice A0 D.labels.length c0) (.slice A1 D.queues.length c1) (.slice A2 D.nodes.length c2) (.slice A3 0 c3) (.slice A4 D.nc c4) (.slice A5 D.ns c5) (.slice A6 D.np c6) (.int .i64 nw) (.int .i64 ep) (.int .i64 sq)
    rw [← hW9] at hb9 hgr
    have HB9 := Lib.hid hb9
    have HGR := Lib.hid hgr
    clear hb9 hgr hW9 HRR g0 d0 g1 d1 g2 d2 g3 d3 g4 d4 g5 d5 g6 d6 g7 d7 g8 d8 g9 d9 fd
    have g0 := bcel HB9.out 0 (.slice A0 D.labels.length c0) rfl
    have g1 := bcel HB9.out 1 (.slice A1 D.queues.length c1) rfl
    have g2 := bcel HB9.out 2 (.slice A2 D.nodes.length c2) rfl
    have g3 := bcel HB9.out 3 (.slice A3 0 c3) rfl
    have g4 := bcel HB9.out 4 (.slice A4 D.nc c4) rfl
    have g5 := bcel HB9.out 5 (.slice A5 D.ns c5) rfl
    have g6 := bcel HB9.out 6 (.slice A6 D.np c6) rfl
    have g7 := bcel HB9.out 7 (.int .i64 nw) rfl
    have g8 := bcel HB9.out 8 (.int .i64 ep) rfl
    have g9 := bcel HB9.out 9 (.int .i64 sq) rfl
    refine bodyPost_ret (by simp [results, Try.results10, go_sem, g0, g1, g2, g3, g4, g5, g6, g7, g8, g9]; try rfl) rfl ?_
    refine ⟨⟨.slice A0 D.labels.length c0, .slice A1 D.queues.length c1, .slice A2 D.nodes.length c2, .slice A3 0 c3, .slice A4 D.nc c4, .slice A5 D.ns c5, .slice A6 D.np c6, nw, ep, sq⟩, rfl, rfl, rfl, rfl, ?_, ext_grown (X0.out.trans HX.out) HGR.out (by have := HB.out; omega)⟩
    rw [HD.out]
    exact (((HSV.out.now (Ext.refl _)).base HBB.out).low HGR.out (by omega)).base (by have := HB.out; omega)
end Go.Proofs.Ytffioglbgnbieaa
