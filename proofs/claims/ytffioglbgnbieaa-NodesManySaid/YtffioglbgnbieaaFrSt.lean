/- fresh.State: a state of its own that reads as the one that came in (without applications). -/
import Derived.Test.YtffioglbgnbieaaFrState
namespace Go.Proofs.Ytffioglbgnbieaa
open Go.RowKit

/-- What a state says. -/
structure StD where
  labels : List ByteArray
  queues : List QD
  nodes : List ND
  nc : Nat
  xc : List Value
  ns : Nat
  xs : List Value
  np : Nat
  xp : List Value
/-- A state in memory says that (it has no applications). -/
structure StRd (w : World) (s : SV) (D : StD) : Prop where
  labs : RdK 1 w s.vl D.labels.length (strVs D.labels)
  queues : RdQs w s.vq D.queues
  nodes : Hd w s.vn D.nodes.length (ncells D.nodes)
  apps : RdK 14 w s.va 0 []
  conts : RdK 9 w s.vc D.nc D.xc
  slots : RdK 3 w s.vs D.ns D.xs
  plans : RdK 6 w s.vp D.np D.xp
theorem StRd.ext {w w' : World} {s : SV} {D : StD} (h : StRd w s D) (x : Ext w w') : StRd w' s D :=
  ⟨h.labs.ext x, h.queues.ext x, h.nodes.ext x, h.apps.ext x, h.conts.ext x, h.slots.ext x, h.plans.ext x⟩
/-- It may be copied. -/
structure StOk (D : StD) : Prop where
  labs : labsOk D.labels
  queues : QBnd D.queues
  nodes : D.nodes.length ≤ 1000
  nc : D.nc ≤ 1000000 ∧ ∀ u ∈ D.xc, u.oneCell' = true
  ns : D.ns ≤ 1000000 ∧ ∀ u ∈ D.xs, u.oneCell' = true
  np : D.np ≤ 1000000 ∧ ∀ u ∈ D.xp, u.oneCell' = true
/-- As QsAt, and block R is none of its. -/
def QFar (w : World) (B R : Nat) (v : Value) (ds : List QD) : Prop := v.ownBlock ≠ some R ∧ ∃ qs : List QC, w.ownsRow B 58 3 v ds.length (qcells qs) ∧ qs.length = ds.length ∧
  ∀ k (h : k < ds.length), ∃ q, qs[k]? = some q ∧ IsQ w q ds[k] ∧ ∀ g, (Value.slice q.A q.n q.c).ownBlock = some g → v.ownBlock ≠ some g ∧ B ≤ g ∧ g < w.heap.size ∧ g ≠ R
/-- It lies in blocks of its own, from B on. -/
structure StOwn (w : World) (B : Nat) (s : SV) (D : StD) : Prop where
  labs : w.ownsRow B 9 1 s.vl D.labels.length (strVs D.labels)
  queues : QsAt w B s.vq D.queues
  nodes : w.ownsRow B 44 8 s.vn D.nodes.length (ncells D.nodes)
  apps : w.ownsRow B 73 14 s.va 0 []
  conts : w.ownsRow B 77 9 s.vc D.nc D.xc
  slots : w.ownsRow B 80 3 s.vs D.ns D.xs
  plans : w.ownsRow B 83 6 s.vp D.np D.xp
  far : ∀ R, s.vn.ownBlock = some R → QFar w B R s.vq D.queues
theorem QsAt.far {w : World} {B R : Nat} {v : Value} {ds : List QD} (h : QsAt w B v ds) (hR : w.heap.size ≤ R) : QFar w B R v ds := by
  obtain ⟨qs, h1, h2, h3⟩ := h
  exact ⟨fun e => by have := (h1.lt R e).2; omega, qs, h1, h2, fun k hk => by
    obtain ⟨q, h4, h5, h6⟩ := h3 k hk
    exact ⟨q, h4, h5, fun g hg => ⟨(h6 g hg).1, (h6 g hg).2.1, (h6 g hg).2.2, by have := (h6 g hg).2.2; omega⟩⟩⟩
theorem QFar.ext {w w' : World} {B R : Nat} {v : Value} {ds : List QD} (h : QFar w B R v ds) (x : Ext w w') : QFar w' B R v ds := by
  obtain ⟨h0, qs, h1, h2, h3⟩ := h
  exact ⟨h0, qs, own_ExtK h1 x, h2, fun k hk => by
    obtain ⟨q, h4, h5, h6⟩ := h3 k hk
    exact ⟨q, h4, h5.ext x, fun g hg => ⟨(h6 g hg).1, (h6 g hg).2.1, Nat.lt_of_lt_of_le (h6 g hg).2.2.1 x.size, (h6 g hg).2.2.2⟩⟩⟩
theorem QFar.grown {w w' : World} {B R T : Nat} {v : Value} {ds : List QD} (h : QFar w B R v ds) (x : w.grownBy w' (some T)) (hT : T < B ∨ T = R ∨ w.heap.size ≤ T) : QFar w' B R v ds := by
  obtain ⟨h0, qs, h1, h2, h3⟩ := h
  refine ⟨h0, qs, h1.kept x (.inr (fun e => by have := h1.lt T e; rcases hT with h | h | h; omega; subst h; exact h0 e; omega)), h2, fun k hk => ?_⟩
  obtain ⟨q, h4, h5, h6⟩ := h3 k hk
  exact ⟨q, h4, ⟨h5.1, h5.2.1, h5.2.2.grown x (fun g e e' => by injection e with e; subst e; have := h6 _ e'; omega)⟩, fun g hg => ⟨(h6 g hg).1, (h6 g hg).2.1, Nat.lt_of_lt_of_le (h6 g hg).2.2.1 x.size, (h6 g hg).2.2.2⟩⟩
theorem QFar.qs {w : World} {B R : Nat} {v : Value} {ds : List QD} (h : QFar w B R v ds) : QsAt w B v ds := by
  obtain ⟨_, qs, h1, h2, h3⟩ := h
  exact ⟨qs, h1, h2, fun k hk => by
    obtain ⟨q, h4, h5, h6⟩ := h3 k hk
    exact ⟨q, h4, h5, fun g hg => ⟨(h6 g hg).1, (h6 g hg).2.1, (h6 g hg).2.2.1⟩⟩⟩
theorem QFar.base {w : World} {B B' R : Nat} {v : Value} {ds : List QD} (h : QFar w B' R v ds) (hB : B ≤ B') : QFar w B R v ds := by
  obtain ⟨h0, qs, h1, h2, h3⟩ := h
  exact ⟨h0, qs, own_base h1 hB, h2, fun k hk => by
    obtain ⟨q, h4, h5, h6⟩ := h3 k hk
    exact ⟨q, h4, h5, fun g hg => ⟨(h6 g hg).1, Nat.le_trans hB (h6 g hg).2.1, (h6 g hg).2.2⟩⟩⟩
theorem StOwn.ext {w w' : World} {B : Nat} {s : SV} {D : StD} (h : StOwn w B s D) (x : Ext w w') : StOwn w' B s D :=
  ⟨own_ExtK h.labs x, h.queues.ext x, own_ExtK h.nodes x, own_ExtK h.apps x, own_ExtK h.conts x, own_ExtK h.slots x, own_ExtK h.plans x, fun R hR => (h.far R hR).ext x⟩
theorem QsAt.shape {w : World} {B : Nat} {v : Value} {ds : List QD} (h : QsAt w B v ds) : ∃ A c, v = .slice A ds.length c := by
  obtain ⟨qs, h1, _⟩ := h
  obtain ⟨A, c, e, _⟩ := own_shape h1
  exact ⟨A, c, e⟩
theorem own_low {w w' : World} {B e k n R : Nat} {v : Value} {xs : List Value} (h : w.ownsRow B e k v n xs) (x : w.grownBy w' (some R)) (hR : R < B) : w'.ownsRow B e k v n xs :=
  h.kept x (.inr (fun e1 => by have := (h.lt R e1).1; omega))
/-- A turn of a block below. -/
theorem StOwn.low {w w' : World} {B R : Nat} {s : SV} {D : StD} (h : StOwn w B s D) (x : w.grownBy w' (some R)) (hR : R < B) : StOwn w' B s D :=
  ⟨own_low h.labs x hR, h.queues.low x hR, own_low h.nodes x hR, own_low h.apps x hR, own_low h.conts x hR, own_low h.slots x hR, own_low h.plans x hR, fun T hT => (h.far T hT).grown x (.inl hR)⟩
theorem StOwn.rd {w : World} {B : Nat} {s : SV} {D : StD} (h : StOwn w B s D) : StRd w s D :=
  ⟨RdK.of_own h.labs, h.queues.rd, Hd.of_own h.nodes, RdK.of_own h.apps, RdK.of_own h.conts, RdK.of_own h.slots, RdK.of_own h.plans⟩
theorem StOwn.base {w : World} {B B' : Nat} {s : SV} {D : StD} (h : StOwn w B' s D) (hB : B ≤ B') : StOwn w B s D :=
  ⟨own_base h.labs hB, h.queues.base hB, own_base h.nodes hB, own_base h.apps hB, own_base h.conts hB, own_base h.slots hB, own_base h.plans hB, fun R hR => (h.far R hR).base hB⟩
theorem Hd.rdk {w : World} {v : Value} {ds : List ND} (h : Hd w v ds.length (ncells ds)) : RdK 8 w v ds.length (ncells ds) := by
  obtain ⟨A, c, rfl, h1, h2, h3⟩ := h
  refine ⟨A, c, rfl, h1, h2, ncells_len ds, fun hn => ?_⟩
  rw [ncells_len] at hn
  obtain ⟨g, rfl, hg, hc⟩ := h3 (by omega)
  exact ⟨⟨g, 0, none⟩, rfl, hg, fun j u hu => by rw [head_add, Nat.zero_add]; exact hc j u hu⟩

theorem bset10 {w : World} {b : Nat} {t : TypeId} {x0 x1 x2 x3 x4 x5 x6 x7 x8 x9 : Value} (h : w.heap[b]? = some (.cells #[x0, x1, x2, x3, x4, x5, x6, x7, x8, x9] t (0, 0))) (v0 v1 v2 v3 v4 v5 v6 v7 v8 v9 : Value) :
    ((((((((((w.setCell ⟨b, 0, none⟩ v0).setCell ⟨b, 1, none⟩ v1).setCell ⟨b, 2, none⟩ v2).setCell ⟨b, 3, none⟩ v3).setCell ⟨b, 4, none⟩ v4).setCell ⟨b, 5, none⟩ v5).setCell ⟨b, 6, none⟩ v6).setCell ⟨b, 7, none⟩ v7).setCell ⟨b, 8, none⟩ v8).setCell ⟨b, 9, none⟩ v9).heap[b]? = some (.cells #[v0, v1, v2, v3, v4, v5, v6, v7, v8, v9] t (0, 0)) := by
  have e := bset (bset (bset (bset (bset (bset (bset (bset (bset (bset h 0 v0) 1 v1) 2 v2) 3 v3) 4 v4) 5 v5) 6 v6) 7 v7) 8 v8) 9 v9
  simp only [List.setIfInBounds_toArray, List.set_cons_zero, List.set_cons_succ] at e
  exact e
theorem grown10 (w : World) (b : Nat) (v0 v1 v2 v3 v4 v5 v6 v7 v8 v9 : Value) :
    w.grownBy ((((((((((w.setCell ⟨b, 0, none⟩ v0).setCell ⟨b, 1, none⟩ v1).setCell ⟨b, 2, none⟩ v2).setCell ⟨b, 3, none⟩ v3).setCell ⟨b, 4, none⟩ v4).setCell ⟨b, 5, none⟩ v5).setCell ⟨b, 6, none⟩ v6).setCell ⟨b, 7, none⟩ v7).setCell ⟨b, 8, none⟩ v8).setCell ⟨b, 9, none⟩ v9) (some b) :=
  (((((((((bgrown w b 0 v0).trans (bgrown _ b 1 v1)).trans (bgrown _ b 2 v2)).trans (bgrown _ b 3 v3)).trans (bgrown _ b 4 v4)).trans (bgrown _ b 5 v5)).trans (bgrown _ b 6 v6)).trans (bgrown _ b 7 v7)).trans (bgrown _ b 8 v8)).trans (bgrown _ b 9 v9)
theorem ext_grown {w w' w'' : World} {b : Nat} (h : Ext w w') (g : w'.grownBy w'' (some b)) (hb : w.heap.size ≤ b) : Ext w w'' :=
  h.trans' (grown_below g h.size (fun k hk => by injection hk with e; omega))

def StPost (nw ep sq : Int) (D : StD) (w : World) (e : Ending) (w' : World) : Prop := ∃ s : SV, s.now = nw ∧ s.ep = ep ∧ s.sq = sq ∧ e = .returned s.val ∧ StOwn w' w.heap.size s D ∧ Ext w w'

set_option maxRecDepth 100000 in
set_option maxHeartbeats 6400000 in
theorem frState_any (s : SV) (D : StD) (w : World) (h : StRd w s D) (hok : StOk D) : Calls Try.prog 15 #[s.val] w (StPost s.now s.ep s.sq D w) := by
  have HC := Lib.hid (fun W (x : Ext w W) => frConf_any s.vl s.vq D.labels D.queues W (h.labs.ext x) (h.queues.ext x) hok.labs hok.queues)
  have HN := Lib.hid (fun W (x : Ext w W) => cloneNode_any s.vn D.nodes.length (ncells D.nodes) W (h.nodes.rdk.ext x) (ncells_one _) (by have := hok.nodes; omega))
  have HA := Lib.hid (fun W (x : Ext w W) => eachApp0_any s.va W (h.apps.ext x) (.func (.func 26) #[] #[]))
  have HT := Lib.hid (fun W (x : Ext w W) => cloneCont_any s.vc D.nc D.xc W (h.conts.ext x) hok.nc.2 hok.nc.1)
  have HL := Lib.hid (fun W (x : Ext w W) => cloneSlot_any s.vs D.ns D.xs W (h.slots.ext x) hok.ns.2 hok.ns.1)
  have HP := Lib.hid (fun W (x : Ext w W) => clonePlan_any s.vp D.np D.xp W (h.plans.ext x) hok.np.2 hok.np.1)
  obtain ⟨vl, vq, vn, va, vc, vs, vp, nw, ep, sq⟩ := s
  dsimp only at HC HN HA HT HL HP
  clear h hok
  simp only [SV.val]
  go_enter Try.func15, Try.ntmps15
  go_upto_region 1 with fail
  refine at_world (fun W0 hW0 => ?_)
  obtain ⟨B, hB⟩ : ∃ B, B = w.heap.size := ⟨_, rfl⟩
  have HB := Lib.hid (show w.heap.size ≤ B by omega)
  have X0 := Lib.hid (show Ext w W0 by rw [hW0]; exact (ext_alloc _ _).trans (ext_alloc _ _))
  have H1 := Lib.hid (show W0.heap[B]? = some (.cells #[vl, vq, vn, va, vc, vs, vp, .int .i64 nw, .int .i64 ep, .int .i64 sq] 34 (0, 0)) by rw [hW0, hB]; exact ext_blk (ext_alloc _ _) (heap_alloc_new w _))
  have H2 := Lib.hid (show W0.heap[B + 1]? = some (.cells #[.slice none 0 0, .slice none 0 0, .slice none 0 0, .slice none 0 0, .slice none 0 0, .slice none 0 0, .slice none 0 0, .int .i64 0, .int .i64 0, .int .i64 0] 34 (0, 0)) by rw [hW0, hB]; exact alloc_at (by simp))
  rw [← hB]
  clear hW0 hB
  have HS2 := Lib.hid (show B + 1 < W0.heap.size from (Array.getElem?_eq_some_iff.1 H2.out).1)
  have s0 := bcel H1.out 0 (vl) rfl
  have s1 := bcel H1.out 1 (vq) rfl
  have s2 := bcel H1.out 2 (vn) rfl
  have s3 := bcel H1.out 3 (va) rfl
  have s4 := bcel H1.out 4 (vc) rfl
  have s5 := bcel H1.out 5 (vs) rfl
  have s6 := bcel H1.out 6 (vp) rfl
  have s7 := bcel H1.out 7 (.int .i64 nw) rfl
  have s8 := bcel H1.out 8 (.int .i64 ep) rfl
  have s9 := bcel H1.out 9 (.int .i64 sq) rfl
  refine wp_region_sched (FootL fun b => b = B + 1) (FootL_way _) [(0, true), (1, true), (3, true), (4, true), (6, true), (7, true), (9, true), (10, true), (12, true), (13, true), (15, true), (16, true), (18, true), (19, true), (20, true), (21, true), (22, true), (23, true), (2, false), (5, false), (8, false), (11, false), (14, false), (17, false), (24, true), (25, false)] (by kernel_rfl) (by kernel_rfl) (fun _ _ _ _ _ h => h) ?_
  repeat first | ((with_reducible refine sched_free ?_ ?_ ?_ ?_ (fun wk k1 => ?_) ?_); rotate_left 2; (rfl); (first | exact want_none rfl | exact want_some rfl rfl rfl rfl); (go_simp; first | exact OkX.val | (have y0 := k1.cell ((Ext.drew _).cell s0) (by omega); have y1 := k1.cell ((Ext.drew _).cell s1) (by omega); have y2 := k1.cell ((Ext.drew _).cell s2) (by omega); have y3 := k1.cell ((Ext.drew _).cell s3) (by omega); have y4 := k1.cell ((Ext.drew _).cell s4) (by omega); have y5 := k1.cell ((Ext.drew _).cell s5) (by omega); have y6 := k1.cell ((Ext.drew _).cell s6) (by omega); have y7 := k1.cell ((Ext.drew _).cell s7) (by omega); have y8 := k1.cell ((Ext.drew _).cell s8) (by omega); have y9 := k1.cell ((Ext.drew _).cell s9) (by omega); go_simp; exact OkX.val)); simp only [Act.put, List.setIfInBounds_toArray, List.set_cons_zero, List.set_cons_succ]) | ((with_reducible refine sched_skip ?_ ?_ ?_ ?_); rotate_left; (rfl); (exact want_not rfl rfl rfl rfl rfl); simp only [Act.put, List.setIfInBounds_toArray, List.set_cons_zero, List.set_cons_succ])
  clear s0 s1 s2 s3 s4 s5 s6 s7 s8 s9
  ((with_reducible refine sched_step ?_ ?_ ?_ (fun wk k1 => ?_)); rotate_left; (rfl); (first | exact want_none rfl | exact want_some rfl rfl rfl rfl))
  have F0 := Lib.hid ((Ext.drew _).trans k1)
  clear k1
  go_simp
  (with_reducible refine (HC.out _ (X0.out.trans F0.out)).mono ?_)
  unfold FrCPost
  rintro e wf0 ⟨A0, c0, A1, c1, rfl, ho, hq, hxf⟩
  refine ⟨FootL.of_ext hxf, ?_⟩
  try simp only [Act.put, List.setIfInBounds_toArray, List.set_cons_zero, List.set_cons_succ]
  have E0 := Lib.hid (F0.out.trans hxf)
  have Z0 := Lib.hid (show B + 2 ≤ _ from Nat.le_trans HS2.out F0.out.size)
  have OL := Lib.hid (own_base ho Z0.out)
  have OQ := Lib.hid (hq.base Z0.out)
  have Q0 := Lib.hid (hq.base Z0.out)
  have EX := Lib.hid (Ext.refl wf0)
  clear ho hq hxf
  ((with_reducible refine sched_step ?_ ?_ ?_ (fun wk k1 => ?_)); rotate_left; (rfl); (first | exact want_none rfl | exact want_some rfl rfl rfl rfl))
  have F1 := Lib.hid (E0.out.trans k1)
  have EX' := Lib.hid (EX.out.trans k1)
  clear EX
  have OL' := Lib.hid (own_ExtK OL.out k1)
  have OQ' := Lib.hid (OQ.out.ext k1)
  clear k1 OL OQ
  go_simp
  (with_reducible refine (HN.out _ (X0.out.trans F1.out)).mono ?_)
  unfold ClonePost
  rintro e wf1 ⟨A2, c2, rfl, ho, hxf⟩
  refine ⟨FootL.of_ext hxf, ?_⟩
  try simp only [Act.put, List.setIfInBounds_toArray, List.set_cons_zero, List.set_cons_succ]
  have E1 := Lib.hid (F1.out.trans hxf)
  have Z1 := Lib.hid (show B + 2 ≤ _ from Nat.le_trans HS2.out F1.out.size)
  have EX := Lib.hid (EX'.out.trans hxf)
  have OL := Lib.hid (own_ExtK OL'.out hxf)
  have OQ := Lib.hid (OQ'.out.ext hxf)
  clear OL' OQ'
  have O2 := Lib.hid (own_base ho Z1.out)
  have HM := Lib.hid (fun R (h : (Value.slice A2 D.nodes.length c2).ownBlock = some R) => Nat.le_trans EX'.out.size (ho.lt R h).1)
  clear ho hxf EX'
  ((with_reducible refine sched_step ?_ ?_ ?_ (fun wk k1 => ?_)); rotate_left; (rfl); (first | exact want_none rfl | exact want_some rfl rfl rfl rfl))
  have F2 := Lib.hid (E1.out.trans k1)
  have EX' := Lib.hid (EX.out.trans k1)
  clear EX
  have OL' := Lib.hid (own_ExtK OL.out k1)
  have OQ' := Lib.hid (OQ.out.ext k1)
  have O2' := Lib.hid (own_ExtK O2.out k1)
  clear k1 OL OQ O2
  go_simp
  (with_reducible refine (HA.out _ (X0.out.trans F2.out)).mono ?_)
  unfold EachPost
  rintro e wf2 ⟨A3, c3, rfl, ho, hxf⟩
  refine ⟨FootL.of_ext hxf, ?_⟩
  try simp only [Act.put, List.setIfInBounds_toArray, List.set_cons_zero, List.set_cons_succ]
  have E2 := Lib.hid (F2.out.trans hxf)
  have Z2 := Lib.hid (show B + 2 ≤ _ from Nat.le_trans HS2.out F2.out.size)
  have EX := Lib.hid (EX'.out.trans hxf)
  have OL := Lib.hid (own_ExtK OL'.out hxf)
  have OQ := Lib.hid (OQ'.out.ext hxf)
  have O2 := Lib.hid (own_ExtK O2'.out hxf)
  clear OL' OQ' O2'
  have O3 := Lib.hid (own_base ho Z2.out)
  clear ho hxf EX'
  ((with_reducible refine sched_step ?_ ?_ ?_ (fun wk k1 => ?_)); rotate_left; (rfl); (first | exact want_none rfl | exact want_some rfl rfl rfl rfl))
  have F3 := Lib.hid (E2.out.trans k1)
  have EX' := Lib.hid (EX.out.trans k1)
  clear EX
  have OL' := Lib.hid (own_ExtK OL.out k1)
  have OQ' := Lib.hid (OQ.out.ext k1)
  have O2' := Lib.hid (own_ExtK O2.out k1)
  have O3' := Lib.hid (own_ExtK O3.out k1)
  clear k1 OL OQ O2 O3
  go_simp
  (with_reducible refine (HT.out _ (X0.out.trans F3.out)).mono ?_)
  unfold ClonePost
  rintro e wf3 ⟨A4, c4, rfl, ho, hxf⟩
  refine ⟨FootL.of_ext hxf, ?_⟩
  try simp only [Act.put, List.setIfInBounds_toArray, List.set_cons_zero, List.set_cons_succ]
  have E3 := Lib.hid (F3.out.trans hxf)
  have Z3 := Lib.hid (show B + 2 ≤ _ from Nat.le_trans HS2.out F3.out.size)
  have EX := Lib.hid (EX'.out.trans hxf)
  have OL := Lib.hid (own_ExtK OL'.out hxf)
  have OQ := Lib.hid (OQ'.out.ext hxf)
  have O2 := Lib.hid (own_ExtK O2'.out hxf)
  have O3 := Lib.hid (own_ExtK O3'.out hxf)
  clear OL' OQ' O2' O3'
  have O4 := Lib.hid (own_base ho Z3.out)
  clear ho hxf EX'
  ((with_reducible refine sched_step ?_ ?_ ?_ (fun wk k1 => ?_)); rotate_left; (rfl); (first | exact want_none rfl | exact want_some rfl rfl rfl rfl))
  have F4 := Lib.hid (E3.out.trans k1)
  have EX' := Lib.hid (EX.out.trans k1)
  clear EX
  have OL' := Lib.hid (own_ExtK OL.out k1)
  have OQ' := Lib.hid (OQ.out.ext k1)
  have O2' := Lib.hid (own_ExtK O2.out k1)
  have O3' := Lib.hid (own_ExtK O3.out k1)
  have O4' := Lib.hid (own_ExtK O4.out k1)
  clear k1 OL OQ O2 O3 O4
  go_simp
  (with_reducible refine (HL.out _ (X0.out.trans F4.out)).mono ?_)
  unfold ClonePost
  rintro e wf4 ⟨A5, c5, rfl, ho, hxf⟩
  refine ⟨FootL.of_ext hxf, ?_⟩
  try simp only [Act.put, List.setIfInBounds_toArray, List.set_cons_zero, List.set_cons_succ]
  have E4 := Lib.hid (F4.out.trans hxf)
  have Z4 := Lib.hid (show B + 2 ≤ _ from Nat.le_trans HS2.out F4.out.size)
  have EX := Lib.hid (EX'.out.trans hxf)
  have OL := Lib.hid (own_ExtK OL'.out hxf)
  have OQ := Lib.hid (OQ'.out.ext hxf)
  have O2 := Lib.hid (own_ExtK O2'.out hxf)
  have O3 := Lib.hid (own_ExtK O3'.out hxf)
  have O4 := Lib.hid (own_ExtK O4'.out hxf)
  clear OL' OQ' O2' O3' O4'
  have O5 := Lib.hid (own_base ho Z4.out)
  clear ho hxf EX'
  ((with_reducible refine sched_step ?_ ?_ ?_ (fun wk k1 => ?_)); rotate_left; (rfl); (first | exact want_none rfl | exact want_some rfl rfl rfl rfl))
  have F5 := Lib.hid (E4.out.trans k1)
  have EX' := Lib.hid (EX.out.trans k1)
  clear EX
  have OL' := Lib.hid (own_ExtK OL.out k1)
  have OQ' := Lib.hid (OQ.out.ext k1)
  have O2' := Lib.hid (own_ExtK O2.out k1)
  have O3' := Lib.hid (own_ExtK O3.out k1)
  have O4' := Lib.hid (own_ExtK O4.out k1)
  have O5' := Lib.hid (own_ExtK O5.out k1)
  clear k1 OL OQ O2 O3 O4 O5
  go_simp
  (with_reducible refine (HP.out _ (X0.out.trans F5.out)).mono ?_)
  unfold ClonePost
  rintro e wf5 ⟨A6, c6, rfl, ho, hxf⟩
  refine ⟨FootL.of_ext hxf, ?_⟩
  try simp only [Act.put, List.setIfInBounds_toArray, List.set_cons_zero, List.set_cons_succ]
  have E5 := Lib.hid (F5.out.trans hxf)
  have Z5 := Lib.hid (show B + 2 ≤ _ from Nat.le_trans HS2.out F5.out.size)
  have EX := Lib.hid (EX'.out.trans hxf)
  have OL := Lib.hid (own_ExtK OL'.out hxf)
  have OQ := Lib.hid (OQ'.out.ext hxf)
  have O2 := Lib.hid (own_ExtK O2'.out hxf)
  have O3 := Lib.hid (own_ExtK O3'.out hxf)
  have O4 := Lib.hid (own_ExtK O4'.out hxf)
  have O5 := Lib.hid (own_ExtK O5'.out hxf)
  clear OL' OQ' O2' O3' O4' O5'
  have O6 := Lib.hid (own_base ho Z5.out)
  clear ho hxf EX'
  repeat first | ((with_reducible refine sched_free ?_ ?_ ?_ ?_ (fun wk k1 => ?_) ?_); rotate_left 2; (rfl); (first | exact want_none rfl | exact want_some rfl rfl rfl rfl); (go_simp; first | exact OkX.val); simp only [Act.put, List.setIfInBounds_toArray, List.set_cons_zero, List.set_cons_succ]) | ((with_reducible refine sched_skip ?_ ?_ ?_ ?_); rotate_left; (rfl); (exact want_not rfl rfl rfl rfl rfl); simp only [Act.put, List.setIfInBounds_toArray, List.set_cons_zero, List.set_cons_succ])
  ((with_reducible refine sched_step ?_ ?_ ?_ (fun wk k1 => ?_)); rotate_left; (rfl); (first | exact want_none rfl | exact want_some rfl rfl rfl rfl))
  have F9 := Lib.hid (E5.out.trans k1)
  have HOWN := Lib.hid (show StOwn wk (B + 2) ⟨.slice A0 D.labels.length c0, .slice A1 D.queues.length c1, .slice A2 D.nodes.length c2, .slice A3 0 c3, .slice A4 D.nc c4, .slice A5 D.ns c5, .slice A6 D.np c6, nw, ep, sq⟩ D from ⟨own_ExtK OL.out k1, OQ.out.ext k1, own_ExtK O2.out k1, own_ExtK O3.out k1, own_ExtK O4.out k1, own_ExtK O5.out k1, own_ExtK O6.out k1, fun R hR => (Q0.out.far (HM.out R hR)).ext (EX.out.trans k1)⟩)
  clear k1 OL OQ O2 O3 O4 O5 O6
  have hb := ext_blk F9.out H2.out
  have d0 := bcel hb 0 (.slice none 0 0) rfl
  have d1 := bcel hb 1 (.slice none 0 0) rfl
  have d2 := bcel hb 2 (.slice none 0 0) rfl
  have d3 := bcel hb 3 (.slice none 0 0) rfl
  have d4 := bcel hb 4 (.slice none 0 0) rfl
  have d5 := bcel hb 5 (.slice none 0 0) rfl
  have d6 := bcel hb 6 (.slice none 0 0) rfl
  have d7 := bcel hb 7 (.int .i64 0) rfl
  have d8 := bcel hb 8 (.int .i64 0) rfl
  have d9 := bcel hb 9 (.int .i64 0) rfl
  have fd := fun j => bfre hb j
  go_simp
  have hgr := grown10 wk (B + 1) (.slice A0 D.labels.length c0) (.slice A1 D.queues.length c1) (.slice A2 D.nodes.length c2) (.slice A3 0 c3) (.slice A4 D.nc c4) (.slice A5 D.ns c5) (.slice A6 D.np c6) (.int .i64 nw) (.int .i64 ep) (.int .i64 sq)
  refine ⟨FootL.of_grown hgr (fun k hk => by injection hk with hk; exact hk.symm), ?_⟩
  try simp only [Act.put, List.setIfInBounds_toArray, List.set_cons_zero, List.set_cons_succ]
  have hb9 := bset10 hb (.slice A0 D.labels.length c0) (.slice A1 D.queues.length c1) (.slice A2 D.nodes.length c2) (.slice A3 0 c3) (.slice A4 D.nc c4) (.slice A5 D.ns c5) (.slice A6 D.np c6) (.int .i64 nw) (.int .i64 ep) (.int .i64 sq)
  refine sched_done (fun wz k1 => ?_)
  have X9 := Lib.hid ((ext_grown (X0.out.trans F9.out) hgr (by have := HB.out; omega)).trans k1)
  have HO9 := Lib.hid ((HOWN.out.low hgr (by omega)).ext k1)
  have HB9 := Lib.hid (ext_blk k1 hb9)
  clear k1 hgr hb9 hb fd d0 d1 d2 d3 d4 d5 d6 d7 d8 d9
  have g0 := bcel HB9.out 0 (.slice A0 D.labels.length c0) rfl
  have g1 := bcel HB9.out 1 (.slice A1 D.queues.length c1) rfl
  have g2 := bcel HB9.out 2 (.slice A2 D.nodes.length c2) rfl
  have g3 := bcel HB9.out 3 (.slice A3 0 c3) rfl
  have g4 := bcel HB9.out 4 (.slice A4 D.nc c4) rfl
  have g5 := bcel HB9.out 5 (.slice A5 D.ns c5) rfl
  have g6 := bcel HB9.out 6 (.slice A6 D.np c6) rfl
  have g7 := bcel HB9.out 7 (.int .i64 nw) rfl
  have g8 := bcel HB9.out 8 (.int .i64 ep) rfl
  have g9 := bcel HB9.out 9 (.int .i64 sq) rfl
  go_wp2
  refine bodyPost_ret (by simp [results, Try.results15, go_sem, g0, g1, g2, g3, g4, g5, g6, g7, g8, g9]; try rfl) rfl ?_
  exact ⟨⟨.slice A0 D.labels.length c0, .slice A1 D.queues.length c1, .slice A2 D.nodes.length c2, .slice A3 0 c3, .slice A4 D.nc c4, .slice A5 D.ns c5, .slice A6 D.np c6, nw, ep, sq⟩, rfl, rfl, rfl, rfl, HO9.out.base (by have := HB.out; omega), X9.out⟩
end Go.Proofs.Ytffioglbgnbieaa
