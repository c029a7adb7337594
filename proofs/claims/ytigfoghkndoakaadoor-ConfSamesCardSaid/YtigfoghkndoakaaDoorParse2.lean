/- conf.Parse, whole. -/
import Derived.Test.YtigfoghkndoakaaDoorParse
namespace Go.Proofs.YtigfoghkndoakaaDoor
open Go.RowKit

attribute [local go_sem] Oper.semAt_some

def ParsePost (l : Tx) (w : World) (e : Ending) (w' : World) : Prop := ∃ v, e = .returned (.tuple #[v, .int .i64 (parseC l).1]) ∧ RdConf w' v (parseC l).2 ∧ Ext w w'

theorem parse_long {l : Tx} (h : 2000 < l.length) : parseC l = (5, .none) := by unfold parseC; rw [if_pos h]
theorem parse_err {l : Tx} (h : ¬ 2000 < l.length) {s : CD} {e : Int} (he : e ≠ 0) (hr : runC .none ((linesOf l).map wordsOf) = (e, s)) : parseC l = (e, .none) := by
  unfold parseC; rw [if_neg h]; simp only [hr]; rw [if_neg he]
theorem parse_fin {l : Tx} (h : ¬ 2000 < l.length) {s : CD} (hr : runC .none ((linesOf l).map wordsOf) = (0, s)) : parseC l = fin s := by
  unfold parseC; rw [if_neg h]; simp only [hr]; simp

set_option maxRecDepth 100000 in
set_option maxHeartbeats 1600000 in
theorem parse_over (S : ByteArray) (w : World) (hs : 2000 < S.size) : Calls Tryd.prog 15 #[.string S] w (ParsePost S.data.toList w) := by
  have H := Lib.hid (parse_long (l := S.data.toList) (by rw [← ba_size]; exact hs))
  have hs' : (2000 : Int) < (S.size : Int) := by omega
  refine (callsIn_wide (n := 9)).1 ?_
  refine callsIn_of_wp Tryd.func15 rfl trivial ?_ rfl
  simp only [Tryd.ntmps15, List.size_toArray, List.length_cons, List.length_nil, Nat.reduceAdd, Nat.reduceSub, Array.replicate_succ, Array.replicate_zero, List.push_toArray, List.append_toArray, List.nil_append, List.cons_append]
  gi_wp2
  refine bodyPost_ret (by simp [results, Tryd.results15, go_sem]; try rfl) rfl ?_
  unfold ParsePost
  rw [H.out]
  exact ⟨_, rfl, none_conf _, (ext_alloc _ _).trans (ext_alloc _ _)⟩

theorem step_lab {s : CD} {ws : List Tx} (h : (step s ws).1 = 0) : (step s ws).2.labels = [] → (step s ws).2 = .none := by
  intro hl
  exfalso
  unfold step at h hl
  by_cases h1 : s.labels = []
  · rw [if_pos h1] at h hl
    by_cases h2 : ws.head? = some wLabels
    · rw [if_neg (by simp [h2])] at h hl
      by_cases h3 : 3 < ws.length
      · rw [if_pos h3] at h; cases h
      · rw [if_neg h3] at hl; cases hl
    · rw [if_pos h2] at h; cases h
  · rw [if_neg h1] at h hl
    by_cases h2 : ws.head? = some wQueue
    · rw [if_neg (by simp [h2])] at h hl
      by_cases h3 : s.queues.length = 16
      · rw [if_pos h3] at h; cases h
      · rw [if_neg h3] at h hl
        cases hq : queue? s.labels.length ws with
        | none => rw [hq] at h; cases h
        | some q => rw [hq] at hl; exact h1 hl
    · rw [if_pos h2] at h; cases h

theorem take_any (R B : Nat) (v : Value) (ws : List Tx) (w : World) (s : CD) (f : Nat) (hf : takeFn s = f) (hr : Rd w v (ws.map sv)) (hne : ws ≠ []) (hR : RdrAt R B w s) (hvR : v.ownBlock ≠ some R)
    (h0 : s.labels = [] → s = .none) (hl3 : s.labels.length ≤ 3) (hq16 : s.queues.length ≤ 16) (hws : ws.length ≤ 1000000) (hz : ∀ l ∈ ws, l.length ≤ 4294967296) :
    Calls Tryd.prog f #[.pointer (some ⟨R, 0, none⟩), v] w (StepPost R B s ws w) := by
  by_cases h : s.labels = []
  · obtain rfl := h0 h
    have e : f = 32 := by rw [← hf]; rfl
    subst e
    exact labels_any R B v ws w hr hne hR hvR
  · have e : f = 52 := by rw [← hf]; unfold takeFn; rw [if_neg h]
    subst e
    exact queue_any R B v ws w s hr hne hR hvR h hl3 hq16 hws hz

theorem keepcells {A C : World} {row : Option Nat} {k b0 B : Nat} {cs : Array Value} {t : TypeId} {fr : Nat × Nat} (h : A.heap[k]? = some (.cells cs t fr)) (g : A.grownBy C row) (hr : ∀ r, row = some r → r = b0 ∨ (B ≤ r ∧ ∃ o : Obj, A.heap[r]? = some o ∧ o.isCells = false)) (hk : k ≠ b0) : C.heap[k]? = some (.cells cs t fr) := by
  rw [g.block k (Array.getElem?_eq_some_iff.1 h).1 (fun e => by
    rcases hr k e.symm with h1 | ⟨_, o, ho, hc⟩
    · exact hk h1
    · rw [h] at ho; injection ho with ho; subst ho; cases hc)]
  exact h

/-- The blocks that the loop leaves: the answer's two, the pointer to the reader. -/
structure Kept (c0 : Nat) (w W : World) : Prop where
  ptr : W.heap[c0 + 1 + 1 + 1]? = some (.cells #[.pointer (some ⟨c0 + 1 + 1, 0, none⟩)] 61 (0, 0))
  res : W.heap[c0]? = some (.cells #[.slice none 0 0, .slice none 0 0] 30 (0, 0))
  err : W.heap[c0 + 1]? = some (.cells #[.int .i64 0] 42 (0, 0))
  ext : Ext w W
theorem Kept.fr {c0 B : Nat} {w W W' : World} (h : Kept c0 w W) (k : Fr (c0 + 1 + 1) B W W') (hc : w.heap.size ≤ c0 + 1 + 1) (hB : c0 + 1 + 1 + 1 < B) : Kept c0 w W' :=
  ⟨k.keep _ _ h.ptr (by omega) (.inl hB), k.keep _ _ h.res (by omega) (.inl (by omega)), k.keep _ _ h.err (by omega) (.inl (by omega)), Ext.trans' h.ext (Below.mono k.low hc)⟩
theorem Kept.ext' {c0 : Nat} {w W W' : World} (h : Kept c0 w W) (k : Ext W W') : Kept c0 w W' :=
  ⟨(k.block _ (Array.getElem?_eq_some_iff.1 h.ptr).1).trans h.ptr, (k.block _ (Array.getElem?_eq_some_iff.1 h.res).1).trans h.res, (k.block _ (Array.getElem?_eq_some_iff.1 h.err).1).trans h.err, h.ext.trans k⟩

/-- Between two lines. -/
def PAt (c0 B : Nat) (w : World) (pre : List Tx) (W : World) : Prop :=
  (∃ s, runC .none (pre.map wordsOf) = (0, s) ∧ RdrAt (c0 + 1 + 1) B W s ∧ s.labels.length ≤ 3 ∧ s.queues.length ≤ 16 ∧ (s.labels = [] → s = .none)) ∧ Kept c0 w W
/-- A line was refused. -/
def PEx (c0 : Nat) (w : World) (c : Code) (pre : List Tx) (W : World) : Prop :=
  c = .ret ∧ ∃ e s, e ≠ 0 ∧ runC .none (pre.map wordsOf) = (e, s) ∧ W.heap[c0]? = some (.cells #[.slice none 0 0, .slice none 0 0] 30 (0, 0)) ∧ W.heap[c0 + 1]? = some (.cells #[.int .i64 e] 42 (0, 0)) ∧ Ext w W

theorem PAt.bears {c0 B b0 : Nat} {w : World} (h1 : c0 + 1 + 1 + 1 < b0) (hB : b0 < B) (hw : w.heap.size ≤ c0) : Bears b0 B (PAt c0 B w) := by
  rintro pre A C row ⟨⟨s, h2, h3, h4, h5, h6⟩, hk⟩ hg hr
  have hext : Ext w C := Ext.trans' hk.ext (grown_below hg hk.ext.size (fun k e => by
    rcases hr k e with h | ⟨h, _⟩ <;> omega))
  refine ⟨⟨s, h2, ?_, h4, h5, h6⟩, keepcells hk.ptr hg hr (by omega), keepcells hk.res hg hr (by omega), keepcells hk.err hg hr (by omega), hext⟩
  cases hrow : row with
  | none => exact h3.turned (row := row) hg (fun r e => by rw [hrow] at e; cases e)
  | some r =>
    rcases hr r hrow with h | ⟨_, h⟩
    · subst h; rw [hrow] at hg; exact h3.low hg hB (by omega)
    · exact h3.turned (row := row) hg (fun r' e => by rw [hrow] at e; injection e with e; subst e; exact h)
theorem PEx.bears {c0 B b0 : Nat} {w : World} (h1 : c0 + 1 + 1 + 1 < b0) (hB : b0 < B) (hw : w.heap.size ≤ c0) (c : Code) : Bears b0 B (PEx c0 w c) := by
  rintro pre A C row ⟨h2, e, s, h3, h4, h5, h6, h7⟩ hg hr
  exact ⟨h2, e, s, h3, h4, keepcells h5 hg hr (by omega), keepcells h6 hg hr (by omega), Ext.trans' h7 (grown_below hg h7.size (fun k e => by
    rcases hr k e with h | ⟨h, _⟩ <;> omega))⟩

set_option maxRecDepth 100000 in
set_option maxHeartbeats 4000000 in
theorem parse_in (S : ByteArray) (w : World) (hs : S.size ≤ 2000) : Calls Tryd.prog 15 #[.string S] w (ParsePost S.data.toList w) := by
  have hs' : (S.size : Int) ≤ 2000 := by omega
  refine (callsIn_wide (n := 9)).1 ?_
  refine callsIn_of_wp_marks Tryd.func15 rfl trivial ?_ rfl
  simp only [Tryd.ntmps15, List.size_toArray, List.length_cons, List.length_nil, Nat.reduceAdd, Nat.reduceSub, Array.replicate_succ, Array.replicate_zero, List.push_toArray, List.append_toArray, List.nil_append, List.cons_append]
  gi_wp2_with fail
  refine ⟨trivial, (callsIn_wide.2 (Clone_any S _ hs)).mono ?_⟩
  rintro e w5 ⟨rfl, hx5⟩
  obtain ⟨V0, hV0⟩ : ∃ V0, V0 = ((((w.alloc (.cells #[.slice none 0 0, .slice none 0 0] 30)).alloc (.cells #[.int .i64 0] 42)).alloc
      (.cells #[.slice none 0 0, .slice none 0 0, .func (.func 32) #[.pointer (some ⟨w.heap.size + 1 + 1, 0, none⟩)] #[]] 64)).alloc
      (.cells #[.pointer (some ⟨w.heap.size + 1 + 1, 0, none⟩)] 61)) := ⟨_, rfl⟩
  rw [← hV0] at hx5
  have hsz : V0.heap.size = w.heap.size + 1 + 1 + 1 + 1 := by rw [hV0]; simp
  have k0 : V0.heap[w.heap.size]? = some (.cells #[.slice none 0 0, .slice none 0 0] 30 (0, 0)) := by
    rw [hV0, (ext_alloc _ _).block _ (by simp <;> omega), (ext_alloc _ _).block _ (by simp <;> omega), (ext_alloc _ _).block _ (by simp), heap_new _ _ _ rfl]
  have k1 : V0.heap[w.heap.size + 1]? = some (.cells #[.int .i64 0] 42 (0, 0)) := by
    rw [hV0, (ext_alloc _ _).block _ (by simp <;> omega), (ext_alloc _ _).block _ (by simp), heap_new _ _ _ (by simp)]
  have k2 : V0.heap[w.heap.size + 1 + 1]? = some (.cells #[.slice none 0 0, .slice none 0 0, .func (.func 32) #[.pointer (some ⟨w.heap.size + 1 + 1, 0, none⟩)] #[]] 64 (0, 0)) := by
    rw [hV0, (ext_alloc _ _).block _ (by simp), heap_new _ _ _ (by simp)]
  have k3 : V0.heap[w.heap.size + 1 + 1 + 1]? = some (.cells #[.pointer (some ⟨w.heap.size + 1 + 1, 0, none⟩)] 61 (0, 0)) := by
    rw [hV0, heap_new _ _ _ (by simp)]
  have hE0 : Ext w V0 := by rw [hV0]; exact (((ext_alloc _ _).trans (ext_alloc _ _)).trans (ext_alloc _ _)).trans (ext_alloc _ _)
  have kept0 : Kept w.heap.size w V0 := ⟨k3, k0, k1, hE0⟩
  clear hV0
  gi_wp2_with fail
  refine ⟨trivial, (callsIn_wide.2 (SplitSeq_any S _)).mono ?_⟩
  rintro e w6 ⟨rfl, hw6⟩
  obtain ⟨b0, hb0⟩ : ∃ b0, b0 = w5.heap.size := ⟨_, rfl⟩
  rw [← hb0]
  have hx6 : Ext w5 w6 := by rw [hw6]; exact ((ext_alloc _ _).trans (ext_alloc _ _)).trans (ext_alloc _ _)
  have hs6 : w6.heap.size = b0 + 1 + 1 + 1 := by rw [hw6, hb0]; simp
  have hb5 : w.heap.size + 1 + 1 + 1 < b0 := by have := hx5.size; omega
  have hl6 : LinesAt b0 (b0 + 1) (b0 + 1 + 1) S.data.toList w6 [] S := by
    refine ⟨by simp, ?_, ?_, ?_, ?_, ?_⟩
    · rw [hw6, hb0]; simp [go_sem]
    · rw [hw6, hb0]; simp [go_sem]
    · rw [hw6, hb0]; simp [go_sem]
    · rw [hw6, hb0]; simp [go_sem]
    · rw [← ba_size]; omega
  have kept6 := (kept0.ext' hx5).ext' hx6
  have hrd6 : RdrAt (w.heap.size + 1 + 1) w6.heap.size w6 .none := ⟨⟨.slice none 0 0, .slice none 0 0, ((hx5.trans hx6).block _ (by omega)).trans k2, World.ownsRow_nil _ _ _ _, QsAt.nil _ _⟩, by omega, Nat.le_refl _⟩
  clear hw6 hx6 k0 k1 k2 k3 kept0 hb0
  gi_wp2
  refine wpIn_lines (S := S) (by omega) (b0 := b0) (b1 := b0 + 1) (b2 := b0 + 1 + 1) rfl (by omega) (by omega) (by omega) hl6 rfl (PAt w.heap.size w6.heap.size w) (PEx w.heap.size w)
    (PAt.bears hb5 (by omega) (Nat.le_refl _)) (fun c => PEx.bears hb5 (by omega) (Nat.le_refl _) c) ⟨⟨.none, rfl, hrd6, by simp [CD.none], by simp [CD.none], fun _ => rfl⟩, kept6⟩
    (fun x => { tmps := #[.string S, undef, .pointer (some ⟨w.heap.size, 0, none⟩), .pointer (some ⟨w.heap.size + 1, 0, none⟩), .pointer (some ⟨w.heap.size + 1 + 1 + 1, 0, none⟩), .string x, undef, undef, .string S, .int .i64 (S.size : Int), .bool (decide (2000 < (S.size : Int))), undef,
      .pointer (some ⟨w.heap.size + 1 + 1, 0, none⟩), .pointer (some ⟨w.heap.size + 1 + 1, 0, none⟩), .pointer (some ⟨w.heap.size + 1 + 1, 0, none⟩), .func (.func 32) #[.pointer (some ⟨w.heap.size + 1 + 1, 0, none⟩)] #[], .pointer (some ⟨w.heap.size + 1 + 1, 0, none⟩), .pointer (some ⟨w.heap.size + 1 + 1, 2, none⟩), .string S, .string S,
      .func (.func 67) #[] #[.pointer (some ⟨b0 + 1, 0, none⟩), .pointer (some ⟨b0, 0, none⟩), .pointer (some ⟨b0 + 1 + 1, 0, none⟩)], .string x, undef, undef, undef, undef, undef, undef, undef, undef, undef, undef, undef, undef, undef, undef, undef, undef, undef, undef, undef], defers := [] })
    ?assign ?body ?done ?stop
  case assign =>
    intro l x W K hK
    gi_wp2
    exact hK
  case body =>
    rintro l pre x W ⟨⟨s, h1, h2, h3, h4, h5⟩, hk⟩ hx
    gi_wp2_with fail
    refine ⟨trivial, (CallsIn.inRound l (callsIn_wide.2 (Fields_any x W (by omega)))).mono ?_⟩
    rintro e W1 ⟨A, rfl, hA, hrd, hx1⟩
    have HR1 := Lib.hid (h2.ext hx1)
    have HK1 := Lib.hid (hk.ext' hx1)
    have hRz := h2.rlt
    have HO1 := Lib.hid (show KeepsOthers W W1 from ⟨hx1.size, fun k o hk _ => (hx1.block k (Array.getElem?_eq_some_iff.1 hk).1).trans hk⟩)
    have hBz := h2.le
    have HB1 := Lib.hid (show Boxes b0 (b0 + 1) (b0 + 1 + 1) W W1 from fun k hk => hx1.block k (by rcases hk with rfl | rfl | rfl <;> omega))
    have HRD := Lib.hid hrd
    have H5 := Lib.hid h5
    by_cases hw : wordsOf x.data.toList = []
    · have HF := Lib.hid (show PAt w.heap.size w6.heap.size w (pre ++ [x.data.toList]) W1 from by
        have hr := run_on (pre.map wordsOf) (wordsOf x.data.toList) .none s h1
        rw [if_pos hw] at hr
        exact ⟨⟨s, by rw [List.map_append]; exact hr, HR1.out, h3, h4, h5⟩, HK1.out⟩)
      have hN : (wordsOf x.data.toList).length = 0 := by rw [hw]; rfl
      rw [hN]
      clear hrd hx1 h2 hk h5
      gi_wp2
      exact ⟨HO1.out, HB1.out, HF.out⟩
    · have hN1 : 0 < (wordsOf x.data.toList).length := List.length_pos_iff.2 hw
      have hwl : (wordsOf x.data.toList).length ≤ 1000000 := by
        have := (words_len [] x.data.toList).2
        rw [← ba_size] at this
        show (wds [] x.data.toList).length ≤ _
        omega
      have hwz : ∀ l ∈ wordsOf x.data.toList, l.length ≤ 4294967296 := fun l hl => by
        have := (words_len [] x.data.toList).1 l hl
        rw [← ba_size] at this
        simp at this
        omega
      have hvR : (Value.slice (some ⟨A, 0, none⟩) (wordsOf x.data.toList).length (wordsOf x.data.toList).length).ownBlock ≠ some (w.heap.size + 1 + 1) := by
        intro e
        simp [Value.ownBlock] at e
        omega
      have hbb : b0 + 1 + 1 < W1.heap.size := by have := hx1.size; omega
      have HBF := Lib.hid (show ∀ W2, Fr (w.heap.size + 1 + 1) w6.heap.size W1 W2 → Boxes b0 (b0 + 1) (b0 + 1 + 1) W1 W2 from fun W2 h k hk => by
        have hlt : k < W1.heap.size := by rcases hk with rfl | rfl | rfl <;> omega
        have hh := Array.getElem?_eq_getElem hlt
        rw [h.keep k _ hh (by rcases hk with rfl | rfl | rfl <;> omega) (.inl (by rcases hk with rfl | rfl | rfl <;> omega)), hh])
      obtain ⟨_, _, hRow, _⟩ := HR1.out.ex
      have t2' := cell_of_row W1 (w.heap.size + 1 + 1) 2 _ _ _ hRow
      have p0 := cell_of_row W1 (w.heap.size + 1 + 1 + 1) 0 _ _ _ HK1.out.ptr
      simp at t2' p0
      obtain ⟨N, hN⟩ : ∃ N, N = (wordsOf x.data.toList).length := ⟨_, rfl⟩
      have hN0 : ¬ (N : Int) = 0 := by omega
      rw [← hN] at hvR HRD ⊢
      clear hrd hx1 h2 hk h5 hRow hN
      by_cases hlab : s.labels = []
      · have htk : takeFn s = 32 := by unfold takeFn; rw [if_pos hlab]
        have t2 : W1.cell? ⟨w.heap.size + 1 + 1, 2, none⟩ = some (.func (.func 32) #[.pointer (some ⟨w.heap.size + 1 + 1, 0, none⟩)] #[]) := by rw [t2', htk]
        clear t2'
        gi_wp2_with fail
        refine ⟨trivial, (CallsIn.inRound l (callsIn_wide.2 (take_any (w.heap.size + 1 + 1) w6.heap.size _ _ W1 s 32 htk HRD.out hw HR1.out hvR H5.out h3 h4 hwl hwz))).mono ?_⟩
        rintro e W2 ⟨rfl, hr2, hfr⟩
        have hk2 := HK1.out.fr hfr (by omega) (by omega)
        have hko := (HO1.out).trans (hfr.others HR1.out)
        have hbx := HB1.out.trans (show Boxes b0 (b0 + 1) (b0 + 1 + 1) W1 W2 from HBF.out W2 hfr)
        have hrun := run_on (pre.map wordsOf) (wordsOf x.data.toList) .none s h1
        rw [if_neg hw] at hrun
        have HRUN := Lib.hid hrun
        have HK2 := Lib.hid hk2
        have HKO := Lib.hid hko
        have HBX := Lib.hid hbx
        have HR2 := Lib.hid hr2
        have hp := hk2.res
        have d0 := cell_of_row W2 w.heap.size 0 _ _ _ hp
        have d1 := cell_of_row W2 w.heap.size 1 _ _ _ hp
        have df := fun o => frozen_of_row W2 w.heap.size o _ _ hp
        have dz := (Array.getElem?_eq_some_iff.1 hp).1
        have hq := hk2.err
        have e0 := cell_of_row W2 (w.heap.size + 1) 0 _ _ _ hq
        have ef := fun o => frozen_of_row W2 (w.heap.size + 1) o _ _ hq
        have ez := (Array.getElem?_eq_some_iff.1 hq).1
        simp at d0 d1 e0
        clear hfr hko hbx hr2 hk2 hrun hp hq
        obtain ⟨E, hE⟩ : ∃ E, E = (step s (wordsOf x.data.toList)).1 := ⟨_, rfl⟩
        rw [← hE]
        have HE := Lib.hid hE
        clear hE
        by_cases he : E = 0
        · have HF := Lib.hid (show PAt w.heap.size w6.heap.size w (pre ++ [x.data.toList]) W2 from by
            have hr := HRUN.out
            rw [if_pos (by rw [← HE.out]; exact he)] at hr
            refine ⟨⟨_, by rw [List.map_append]; exact hr, HR2.out, ?_, ?_, ?_⟩, HK2.out⟩
            · exact (step_len ⟨h4, h3⟩).2
            · exact (step_len ⟨h4, h3⟩).1
            · exact step_lab (by rw [← HE.out]; exact he))
          subst he
          gi_wp2
          exact ⟨HKO.out, HBX.out, HF.out⟩
        · have he' : (E != 0) = true := by simpa using he
          have HRE := Lib.hid (show runC .none ((pre ++ [x.data.toList]).map wordsOf) = (E, (step s (wordsOf x.data.toList)).2) by
            have hr := HRUN.out
            rw [if_neg (by rw [← HE.out]; exact he)] at hr
            rw [List.map_append]
            rw [HE.out]
            exact hr)
          have HNE := Lib.hid he
          clear he
          gi_wp2
          refine ⟨((HKO.out.trans (KeepsOthers.setCell _ _ _)).trans (KeepsOthers.setCell _ _ _)).trans (KeepsOthers.setCell _ _ _), rfl, E, _, HNE.out, HRE.out, ?_, ?_, ?_⟩
          · rw [heap_setCell_other _ _ _ _ (by simp), heap_setCell_same _ _ _ _ _ _ (heap_setCell_same _ _ _ _ _ _ HK2.out.res)]; rfl
          · rw [heap_setCell_same _ _ _ _ _ _ ((heap_setCell_other _ _ _ _ (by simp)).trans ((heap_setCell_other _ _ _ _ (by simp)).trans HK2.out.err))]; rfl
          · exact ext_set (ext_set (ext_set HK2.out.ext (Nat.le_refl _) _) (Nat.le_refl _) _) (by omega) _
      · have htk : takeFn s = 52 := by unfold takeFn; rw [if_neg hlab]
        have t2 : W1.cell? ⟨w.heap.size + 1 + 1, 2, none⟩ = some (.func (.func 52) #[.pointer (some ⟨w.heap.size + 1 + 1, 0, none⟩)] #[]) := by rw [t2', htk]
        clear t2'
        gi_wp2_with fail
        refine ⟨trivial, (CallsIn.inRound l (callsIn_wide.2 (take_any (w.heap.size + 1 + 1) w6.heap.size _ _ W1 s 52 htk HRD.out hw HR1.out hvR H5.out h3 h4 hwl hwz))).mono ?_⟩
        rintro e W2 ⟨rfl, hr2, hfr⟩
        have hk2 := HK1.out.fr hfr (by omega) (by omega)
        have hko := (HO1.out).trans (hfr.others HR1.out)
        have hbx := HB1.out.trans (show Boxes b0 (b0 + 1) (b0 + 1 + 1) W1 W2 from HBF.out W2 hfr)
        have hrun := run_on (pre.map wordsOf) (wordsOf x.data.toList) .none s h1
        rw [if_neg hw] at hrun
        have HRUN := Lib.hid hrun
        have HK2 := Lib.hid hk2
        have HKO := Lib.hid hko
        have HBX := Lib.hid hbx
        have HR2 := Lib.hid hr2
        have hp := hk2.res
        have d0 := cell_of_row W2 w.heap.size 0 _ _ _ hp
        have d1 := cell_of_row W2 w.heap.size 1 _ _ _ hp
        have df := fun o => frozen_of_row W2 w.heap.size o _ _ hp
        have dz := (Array.getElem?_eq_some_iff.1 hp).1
        have hq := hk2.err
        have e0 := cell_of_row W2 (w.heap.size + 1) 0 _ _ _ hq
        have ef := fun o => frozen_of_row W2 (w.heap.size + 1) o _ _ hq
        have ez := (Array.getElem?_eq_some_iff.1 hq).1
        simp at d0 d1 e0
        clear hfr hko hbx hr2 hk2 hrun hp hq
        obtain ⟨E, hE⟩ : ∃ E, E = (step s (wordsOf x.data.toList)).1 := ⟨_, rfl⟩
        rw [← hE]
        have HE := Lib.hid hE
        clear hE
        by_cases he : E = 0
        · have HF := Lib.hid (show PAt w.heap.size w6.heap.size w (pre ++ [x.data.toList]) W2 from by
            have hr := HRUN.out
            rw [if_pos (by rw [← HE.out]; exact he)] at hr
            refine ⟨⟨_, by rw [List.map_append]; exact hr, HR2.out, ?_, ?_, ?_⟩, HK2.out⟩
            · exact (step_len ⟨h4, h3⟩).2
            · exact (step_len ⟨h4, h3⟩).1
            · exact step_lab (by rw [← HE.out]; exact he))
          subst he
          gi_wp2
          exact ⟨HKO.out, HBX.out, HF.out⟩
        · have he' : (E != 0) = true := by simpa using he
          have HRE := Lib.hid (show runC .none ((pre ++ [x.data.toList]).map wordsOf) = (E, (step s (wordsOf x.data.toList)).2) by
            have hr := HRUN.out
            rw [if_neg (by rw [← HE.out]; exact he)] at hr
            rw [List.map_append]
            rw [HE.out]
            exact hr)
          have HNE := Lib.hid he
          clear he
          gi_wp2
          refine ⟨((HKO.out.trans (KeepsOthers.setCell _ _ _)).trans (KeepsOthers.setCell _ _ _)).trans (KeepsOthers.setCell _ _ _), rfl, E, _, HNE.out, HRE.out, ?_, ?_, ?_⟩
          · rw [heap_setCell_other _ _ _ _ (by simp), heap_setCell_same _ _ _ _ _ _ (heap_setCell_same _ _ _ _ _ _ HK2.out.res)]; rfl
          · rw [heap_setCell_same _ _ _ _ _ _ ((heap_setCell_other _ _ _ _ (by simp)).trans ((heap_setCell_other _ _ _ _ (by simp)).trans HK2.out.err))]; rfl
          · exact ext_set (ext_set (ext_set HK2.out.ext (Nat.le_refl _) _) (Nat.le_refl _) _) (by omega) _
  case done =>
    rintro D W hD ⟨⟨s, h1, h2, h3, h4, h5⟩, hk⟩ hK
    have hHF := parse_fin (l := S.data.toList) (by rw [← ba_size]; omega) h1
    have HF := Lib.hid hHF
    have p0 := cell_of_row W (w.heap.size + 1 + 1 + 1) 0 _ _ _ hk.ptr
    simp at p0
    have HK := Lib.hid hk
    have HD := Lib.hid hK
    have HR := Lib.hid h2
    clear hHF hk hK h2 h5
    gi_wp2_with fail
    refine ⟨trivial, (callsIn_wide.2 (end_any (w.heap.size + 1 + 1) w6.heap.size W s HR.out h3 h4)).mono ?_⟩
    rintro e W2 ⟨A, n, c, A', n', c', rfl, hv, hfr⟩
    have hk2 := HK.out.fr hfr (by omega) (by omega)
    have hD2 := (hfr.others HR.out).same D _ HD.out rfl
    have hp := hk2.res
    have d0 := cell_of_row W2 w.heap.size 0 _ _ _ hp
    have d1 := cell_of_row W2 w.heap.size 1 _ _ _ hp
    have df := fun o => frozen_of_row W2 w.heap.size o _ _ hp
    have hq := hk2.err
    have e0 := cell_of_row W2 (w.heap.size + 1) 0 _ _ _ hq
    have ef := fun o => frozen_of_row W2 (w.heap.size + 1) o _ _ hq
    simp at d0 d1 e0
    have dz := (Array.getElem?_eq_some_iff.1 hp).1
    have ez := (Array.getElem?_eq_some_iff.1 hq).1
    have HK2 := Lib.hid hk2
    have HD2 := Lib.hid hD2
    have HV := Lib.hid hv
    have hRz := HR.out.rlt
    clear hfr hp hq hk2 hD2 hv
    obtain ⟨E, hE⟩ : ∃ E, E = (fin s).1 := ⟨_, rfl⟩
    rw [← hE]
    have HE := Lib.hid hE
    clear hE
    gi_wp2
    obtain ⟨W3, hW3⟩ : ∃ W3, W3 = ((W2.setCell ⟨w.heap.size, 0, none⟩ (.slice A n c)).setCell ⟨w.heap.size, 1, none⟩ (.slice A' n' c')).setCell ⟨w.heap.size + 1, 0, none⟩ (.int .i64 E) := ⟨_, rfl⟩
    rw [← hW3]
    have hD3 : W3.heap[D]? = some (.deferred (some [])) := by
      rw [hW3]
      exact (((KeepsOthers.setCell _ _ _).trans (KeepsOthers.setCell _ _ _)).trans (KeepsOthers.setCell _ _ _)).same D _ HD2.out rfl
    refine ⟨by simp, .inl ⟨_, _, rfl, run_takeDeferred hD3, ?_⟩⟩
    have turn : ∀ r, (some D : Option Nat) = some r → ∃ o : Obj, W3.heap[r]? = some o ∧ o.isCells = false := fun r e => by cases e; exact ⟨_, hD3, rfl⟩
    have g := grownBy_putObj' W3 D (.deferred none)
    have d0 : W3.cell? ⟨w.heap.size, 0, none⟩ = some (.slice A n c) := by rw [hW3]; simp [go_sem, d0]
    have d1 : W3.cell? ⟨w.heap.size, 1, none⟩ = some (.slice A' n' c') := by rw [hW3]; simp [go_sem, d1]
    have e0 : W3.cell? ⟨w.heap.size + 1, 0, none⟩ = some (.int .i64 E) := by rw [hW3]; simp [go_sem, e0]
    have hs3 : W3.heap.size = W2.heap.size := by rw [hW3]; simp
    have habove : Above w6.heap.size W2 (W3.putObj D (.deferred none)) := ⟨by simp [hs3], fun g o hg ho hc => by
      have hgD : g ≠ D := fun e => by rw [e, HD2.out] at ho; injection ho with ho; subst ho; cases hc
      rw [World.putObj_heap_other hgD, hW3, heap_setCell_other _ _ _ _ (by simp; omega), heap_setCell_other _ _ _ _ (by simp; omega), heap_setCell_other _ _ _ _ (by simp; omega)]
      exact ho⟩
    have hext : Ext w W3 := by rw [hW3]; exact ext_set (ext_set (ext_set HK2.out.ext (Nat.le_refl _) _) (Nat.le_refl _) _) (by omega) _
    have d0 := cell_kept d0 g turn
    have d1 := cell_kept d1 g turn
    have e0 := cell_kept e0 g turn
    refine ⟨.tuple #[.agg #[.slice A n c, .slice A' n' c'], .int .i64 E], by simp [results, Tryd.f15, go_sem, d0, d1, e0], ?_⟩
    unfold ParsePost
    rw [HF.out]
    exact ⟨_, by rw [HE.out], HV.out _ habove, Ext.trans' hext (grown_below g hext.size (fun k e => by cases e; omega))⟩
  case stop =>
    rintro D c pre W hD hpre ⟨rfl, e, s, he, hr, h0, h1, hx⟩ hK
    obtain ⟨post, hpost⟩ := hpre
    have hrun : runC .none ((linesOf S.data.toList).map wordsOf) = (e, s) := by
      rw [← hpost, List.map_append, run_stop _ _ _ (by rw [hr]; exact he), hr]
    have HF := Lib.hid (parse_err (l := S.data.toList) (by rw [← ba_size]; omega) he hrun)
    gi_wp2
    refine ⟨by simp, .inl ⟨_, _, rfl, run_takeDeferred hK, ?_⟩⟩
    have turn : ∀ r, (some D : Option Nat) = some r → ∃ o : Obj, W.heap[r]? = some o ∧ o.isCells = false := fun r e => by cases e; exact ⟨_, hK, rfl⟩
    have g := grownBy_putObj' W D (.deferred none)
    have d0 : W.cell? ⟨w.heap.size, 0, none⟩ = some (.slice none 0 0) := cell_of_row W w.heap.size 0 _ _ _ h0
    have d1 : W.cell? ⟨w.heap.size, 1, none⟩ = some (.slice none 0 0) := cell_of_row W w.heap.size 1 _ _ _ h0
    have e0 : W.cell? ⟨w.heap.size + 1, 0, none⟩ = some (.int .i64 e) := cell_of_row W (w.heap.size + 1) 0 _ _ _ h1
    have d0 := cell_kept d0 g turn
    have d1 := cell_kept d1 g turn
    have e0 := cell_kept e0 g turn
    refine ⟨.tuple #[.agg #[.slice none 0 0, .slice none 0 0], .int .i64 e], by simp [results, Tryd.f15, go_sem, d0, d1, e0], ?_⟩
    unfold ParsePost
    rw [HF.out]
    exact ⟨_, rfl, none_conf _, Ext.trans' hx (grown_below g hx.size (fun k e => by cases e; omega))⟩

/-- Parse, at every text. -/
theorem parse_any (S : ByteArray) (w : World) : Calls Tryd.prog 15 #[.string S] w (ParsePost S.data.toList w) := by
  by_cases h : S.size ≤ 2000
  · exact parse_in S w h
  · exact parse_over S w (by omega)
end Go.Proofs.YtigfoghkndoakaaDoor
