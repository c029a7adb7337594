/- dispatchlaw7.ShareNodes: the walk. -/
import Derived.Test.YtflbhnckhbcboaaKnown7
import Derived.Test.YtflbhnckhbcboaaOpenS
import Derived.Test.YtflbhnckhbcboaaSched3
import Derived.Test.YtflbhnckhbcboaaSched2
import Derived.Test.YtflbhnckhbcboaaFoot
import Derived.Deep.CutRange
import Derived.Laws.Concat
import Derived.Laws.Cover1
import Derived.ChangeSlices
import Derived.OpenShut
import Derived.ChangeOld
import Derived.ChangeSame
import Derived.ChangeMaps
import Derived.JoinedOf
import Derived.JoinedAt
import Derived.RowKit3
import Derived.Lib.SmallJoins
namespace Go.Proofs.Ytflbhnckhbcboaa.ShareNodes
open Go.ChangeShapes Go.WideShapes Go.ChangeAt Go.RowKit Go.Joins

theorem Try.infoN : (Try.prog.info? 48).map (fun i => (i.zero, i.size, i.bytes)) = some (some (.agg #[.int .i64 0, .int .i64 0, .int .i64 0, .int .i64 0, .int .i64 0, .int .i64 0, .int .i64 0, .bool false]), 8, 64) := by kernel_rfl
def qs2 : List QD := [⟨rootT, [(10000, 10000), (10000, 10000)], 10000⟩]
/-- The queue of the state, with parts of two labels. -/
structure QB (g CB cC : Nat) (cur : Array Value) (w : World) : Prop where
  queue : w.heap[g + 1 + 1 + 1]? = some (.cells #[.string ⟨#[114, 111, 111, 116]⟩, .slice (some ⟨CB, 0, none⟩) 2 cC, .int .i64 10000] 40 (0, 0))
  caps : w.heap[CB]? = some (.cells cur 42 (0, 0))
theorem QB.ext {g CB cC : Nat} {cur : Array Value} {w w' : World} (h : QB g CB cC cur w) (x : Ext w w') : QB g CB cC cur w' := ⟨ext_blk x h.queue, ext_blk x h.caps⟩
theorem QB.set {g CB cC b j : Nat} {v : Value} {cur : Array Value} {w : World} (h : QB g CB cC cur w) (h1 : g + 1 + 1 + 1 ≠ b) (h2 : CB ≠ b) : QB g CB cC cur (w.setCell ⟨b, j, none⟩ v) :=
  ⟨(heap_setCell_other _ _ _ _ h1).trans h.queue, (heap_setCell_other _ _ _ _ h2).trans h.caps⟩
theorem QB.qat {g CB cC : Nat} {cur : Array Value} {w : World} (h : QB g CB cC cur w) (hc : 2 ≤ cC) (hm : cC ≤ maxLen) (hcur : ∀ (j : Nat) (u : Value), [Value.int .i64 10000, .int .i64 10000, .int .i64 10000, .int .i64 10000][j]? = some u → cur[j]? = some u) : QAt w (.slice (some ⟨g + 1 + 1 + 1, 0, none⟩) 1 1) qs2 := by
  refine ⟨some ⟨g + 1 + 1 + 1, 0, none⟩, 1, rfl, Nat.le_refl _, by simp [maxLen], fun _ => ⟨_, rfl, (Array.getElem?_eq_some_iff.1 h.queue).1, fun k hk => ?_⟩⟩
  obtain rfl : k = 0 := by simp [qs2] at hk; omega
  refine ⟨⟨#[114, 111, 111, 116]⟩, some ⟨CB, 0, none⟩, cC, bcel h.queue 0 _ rfl, bcel h.queue 1 _ rfl, bcel h.queue 2 _ rfl, rfl, ?_⟩
  refine ⟨_, cC, rfl, hc, hm, rfl, fun _ => ⟨⟨CB, 0, none⟩, rfl, (Array.getElem?_eq_some_iff.1 h.caps).1, fun j u hu => ?_⟩⟩
  have hadd : (⟨CB, 0, none⟩ : Addr).add j = ⟨CB, j, none⟩ := by unfold Addr.add; split <;> simp_all
  rw [hadd]
  exact bcel h.caps j u (hcur j u hu)
theorem one_cap7 {w : World} {B Q : Nat} (h : w.heap[Q]? = some (.cells #[.int .i64 10000, .int .i64 10000] 42 (0, 0))) (hB : B ≤ Q) : w.ownsRow B 42 2 (.slice (some ⟨Q, 0, none⟩) 1 1) 1 (capCells [(10000, 10000)]) :=
  ⟨rfl, .inr ⟨Q, 1, _, rfl, hB, h, Nat.le_refl _, by simp [maxLen], rfl, rfl⟩⟩
theorem cell_two_n (w : World) (x y : Value) (t : TypeId) : ∀ j u, [x, y][j]? = some u → (w.alloc (.cells #[x, y] t)).cell? ((⟨w.heap.size, 0, none⟩ : Addr).add j) = some u := by
  intro j u hu
  have hadd : (⟨w.heap.size, 0, none⟩ : Addr).add j = ⟨w.heap.size, j, none⟩ := by unfold Addr.add; split <;> simp_all
  rw [hadd]
  exact bcel (heap_alloc_new w _) j u (by rw [← Array.getElem?_toList]; exact hu)
theorem one2' {a b : Int} : ∀ u ∈ [Value.int .i64 a, .int .i64 b], u.oneCell' = true := by
  intro u hu
  simp only [List.mem_cons, List.mem_nil_iff, or_false] at hu
  rcases hu with rfl | rfl <;> rfl
theorem cell_eight_new (w : World) (a b c d x y z q : Value) (t : TypeId) : ∀ j u, [a, b, c, d, x, y, z, q][j]? = some u → (w.alloc (.cells #[a, b, c, d, x, y, z, q] t)).cell? ((⟨w.heap.size, 0, none⟩ : Addr).add j) = some u := by
  intro j u hu
  have hadd : (⟨w.heap.size, 0, none⟩ : Addr).add j = ⟨w.heap.size, j, none⟩ := by unfold Addr.add; split <;> simp_all
  rw [hadd]
  exact bcel (heap_alloc_new w _) j u (by rw [← Array.getElem?_toList]; exact hu)
theorem one8 {a b c d x y z : Int} {q : Bool} : ∀ u ∈ [Value.int .i64 a, .int .i64 b, .int .i64 c, .int .i64 d, .int .i64 x, .int .i64 y, .int .i64 z, .bool q], u.oneCell' = true := by
  intro u hu
  simp only [List.mem_cons, List.mem_nil_iff, or_false] at hu
  rcases hu with rfl | rfl | rfl | rfl | rfl | rfl | rfl | rfl <;> rfl
theorem qs2_len : ∀ q ∈ qs2, q.path.length ≤ 1000000000 := by decide
theorem qs2_caps : ∀ q ∈ qs2, 1 ≤ q.caps.length ∧ q.caps.length ≤ 1000 := by decide

/-- Behind the queue's parts. -/
def St7 (w : World) (g SB : Nat) (wx : World) : Prop := ∃ (CB cC : Nat) (cur : Array Value), QB g CB cC cur wx ∧ 2 ≤ cC ∧ cC ≤ maxLen ∧ (∀ (j : Nat) (u : Value), [Value.int .i64 10000, .int .i64 10000, .int .i64 10000, .int .i64 10000][j]? = some u → cur[j]? = some u) ∧
  wx.heap[SB]? = some (.cells #[.slice (some ⟨SB + 1, 0, none⟩) 2 2, .slice (some ⟨g + 1 + 1 + 1, 0, none⟩) 1 1, .slice none 0 0, .slice none 0 0, .slice none 0 0, .slice none 0 0, .slice none 0 0, .int .i64 0, .int .i64 0, .int .i64 0] 36 (0, 0)) ∧ Ext w wx
theorem fin7 {w wk wz : World} {g SB : Nat} {A6 : Option Addr} {c6 : Nat} (hSG : SB = g + 4) (hs : wk.heap[SB]? = some (.cells #[.slice (some ⟨SB + 1, 0, none⟩) 2 2, .slice (some ⟨g + 1 + 1 + 1, 0, none⟩) 1 1, .slice none 0 0, .slice none 0 0, .slice none 0 0, .slice none 0 0, .slice none 0 0, .int .i64 0, .int .i64 0, .int .i64 0] 36 (0, 0)))
    (hq : wk.heap[g + 1 + 1 + 1]? = some (.cells #[.string ⟨#[114, 111, 111, 116]⟩, .slice (some ⟨g + 1 + 1, 0, none⟩) 1 1, .int .i64 10000] 40 (0, 0)))
    (ho : wk.ownsRow w.heap.size 42 2 (.slice A6 2 c6) 2 (capCells [(10000, 10000)] ++ [.int .i64 10000, .int .i64 10000])) (hG : w.heap.size ≤ g) (hE : Ext w wk)
    (k : Ext (wk.setCell ⟨g + 1 + 1 + 1, 1, none⟩ (.slice A6 2 c6)) wz) : St7 w g SB wz := by
  have hne := own_other ho hq (by decide)
  rcases id ho.2 with ⟨_, h0⟩ | ⟨CB, cC, cur, ev, hB, hb, hc, hm, _⟩
  · cases h0
  · injection ev with eA eN eC
    subst eA eC
    have hne' : CB ≠ g + 1 + 1 + 1 := fun e => hne (by rw [e]; rfl)
    refine ⟨CB, c6, cur, ⟨ext_blk k (by rw [bset hq]; rfl), ext_blk k ((heap_setCell_other _ _ _ _ hne').trans hb)⟩, hc, hm, fun j u hu => ?_, ext_blk k ((heap_setCell_other _ _ _ _ (by simp; omega)).trans hs), (ext_set hE (by omega) _).trans k⟩
    have hj : j < 4 := (List.getElem?_eq_some_iff.1 hu).1
    have h1 := ho.cellAt (g := CB) j (by omega)
    rw [cell_of_row wk CB j cur _ _ hb] at h1
    rw [h1, ← hu]
    rfl

set_option maxRecDepth 100000 in
set_option maxHeartbeats 6400000 in
theorem walk (w : World) (v : Value) (n : Nat) (f : Nat → Nat → Int) (r0 : RdS 2 w v n f) (v1 : Value) (bs : List Bool) (r1 : Rd w v1 (bs.map Value.bool)) (v2 : Value) (ls : List Int) (r2 : Rd w v2 (ls.map (Value.int .i64))) (_ : ∀ z ∈ ls, (Lit.int .i64 z).wf = true) :
    Calls Try.prog 3 #[v, v1, v2] w fun e w' => e = .returned (.bool true) ∧ Below w.heap.size w w' := by
  obtain ⟨p0, hp, hpz0, hpz1, hpz2⟩ := info_parts Try.infoN
  obtain ⟨c0, hcc, hcz0, hcz1, hcz2⟩ := info_parts Try.infoCapF
  obtain ⟨A, c, rfl, hc1, hc2, hcell⟩ := r0
  unfold maxLen at hc2
  have HC := Lib.hid hcell
  obtain ⟨A1, N1, c1, rfl, hN1, _, _, hcell1⟩ := bools_open r1
  have HC1 := Lib.hid hcell1
  have HN1 := Lib.hid hN1
  obtain ⟨A2, N2, c2, rfl, hN2, _, _, hcell2⟩ := ints_open r2
  have HC2 := Lib.hid hcell2
  have HN2 := Lib.hid hN2
  clear hcell hcell1 hcell2 hN1 hN2 r1 r2
  go_enter Try.func3, Try.ntmps3
  go_wp2_with fail
  refine (known7_any _).mono ?_
  rintro e w1 ⟨rfl, hx1⟩
  have X1 := Lib.hid hx1
  clear hx1
  by_cases h12 : (12 : Int) < (n : Int)
  · go_wp2
    go_ret
    exact ⟨rfl, X1.out⟩
  have hn12 : n ≤ 12 := by omega
  go_wp2_with fail
  (with_reducible refine (New_any _).mono ?_)
  rintro e w2 ⟨rfl, hnew, hsz, hx2⟩
  have HNEW := Lib.hid hnew
  have X2 := Lib.hid (X1.out.trans hx2)
  obtain ⟨g, hg⟩ : ∃ g, g = w1.heap.size := ⟨_, rfl⟩
  have HG := Lib.hid (show w.heap.size ≤ g by rw [hg]; exact X1.out.size)
  have HG2 := Lib.hid (show w2.heap.size = g + 4 by rw [hg]; exact hsz)
  rw [← hg] at HNEW ⊢
  clear hnew hx2 hsz hg
  unfold newSV
  simp only [SV.val]
  have sA := bcel (alloc_at (w := w2) (o := .cells #[.slice (some ⟨w2.heap.size + 1, 0, none⟩) 2 2, .slice (some ⟨g + 1 + 1 + 1, 0, none⟩) 1 1, .slice none 0 0, .slice none 0 0, .slice none 0 0, .slice none 0 0, .slice none 0 0, .int .i64 0, .int .i64 0, .int .i64 0] 36) rfl)
  obtain ⟨W3, hW3⟩ : ∃ W3, W3 = (w2.alloc (.cells #[.slice (some ⟨w2.heap.size + 1, 0, none⟩) 2 2, .slice (some ⟨g + 1 + 1 + 1, 0, none⟩) 1 1, .slice none 0 0, .slice none 0 0, .slice none 0 0, .slice none 0 0, .slice none 0 0, .int .i64 0, .int .i64 0, .int .i64 0] 36)).alloc (.cells #[.string ⟨#[]⟩, .string ⟨#[103, 112, 117]⟩] 9) := ⟨_, rfl⟩
  clear sA
  go_upto_region 7 with fail
  rw [← hW3]
  have X3 := Lib.hid (show Ext w W3 by rw [hW3]; exact (X2.out.trans (ext_alloc _ _)).trans (ext_alloc _ _))
  have HSB3 := Lib.hid (show W3.heap[w2.heap.size]? = some (.cells #[.slice (some ⟨w2.heap.size + 1, 0, none⟩) 2 2, .slice (some ⟨g + 1 + 1 + 1, 0, none⟩) 1 1, .slice none 0 0, .slice none 0 0, .slice none 0 0, .slice none 0 0, .slice none 0 0, .int .i64 0, .int .i64 0, .int .i64 0] 36 (0, 0)) by rw [hW3]; exact ext_blk (ext_alloc _ _) (heap_alloc_new w2 _))
  have HN3 := Lib.hid (HNEW.out.ext (show Ext w2 W3 by rw [hW3]; exact (ext_alloc _ _).trans (ext_alloc _ _)))
  obtain ⟨SB, hSB⟩ : ∃ SB, SB = w2.heap.size := ⟨_, rfl⟩
  have HSG := Lib.hid (show SB = g + 4 by rw [hSB]; exact HG2.out)
  rw [← hSB] at HSB3 ⊢
  clear hW3 hSB HG2
  have s1 := bcel HSB3.out 1 (.slice (some ⟨g + 1 + 1 + 1, 0, none⟩) 1 1) rfl
  go_cut [] from 20 to 33 (fun wx => St7 w g SB wx)
  case first =>
    go_wp2
    refine wp_region_tree (FootL fun b => b = g + 1 + 1 ∨ b = g + 1 + 1 + 1) (FootL_way _) (.free 0 (.free 1 (.free 2 (.free 3 (.free 4 (.free 5 (.free 6 (.free 7 (.free 9 (.two 8 10 (.step 10 (.step 11 (.free 12 (.free 13 (.step 14 .done))))) (.step 8 (.step 11 (.free 12 (.free 13 (.step 14 .done))))))))))))))) (by kernel_rfl) (by kernel_rfl) (fun _ _ _ _ _ h => h) ?_
    repeat first | ((with_reducible refine tree_free ?_ ?_ ?_ ?_ (fun wk k1 => ?_) ?_); rotate_left 2; (rfl); (first | exact want_none rfl | exact want_some rfl rfl rfl rfl); (go_simp; first | exact OkX.val | (have y1 := k1.cell s1 (by have := HSG.out; rintro (h | h) <;> omega); go_simp; exact OkX.val)); simp only [Act.put, List.setIfInBounds_toArray, List.set_cons_zero, List.set_cons_succ]) | ((with_reducible refine tree_skip ?_ ?_ ?_ ?_); rotate_left; (rfl); (exact want_not rfl rfl rfl rfl rfl); simp only [Act.put, List.setIfInBounds_toArray, List.set_cons_zero, List.set_cons_succ])
    ((with_reducible refine tree_two ?_ ?_ ?_ ?_ ?_ ?_ (fun wk k1 => ?_) (fun wk k1 => ?_)); rotate_left 2; (rfl); (first | exact want_none rfl | exact want_some rfl rfl rfl rfl); (rfl); (first | exact want_none rfl | exact want_some rfl rfl rfl rfl))
    · have E0 := Lib.hid ((Ext.drew _).trans k1)
      have q1 := bcel (ext_blk E0.out HN3.out.queue) 1 (.slice (some ⟨g + 1 + 1, 0, none⟩) 1 1) rfl
      clear k1
      go_simp
      refine ⟨FootL.of_ext (Ext.refl _), ?_⟩
      try simp only [Act.put, List.setIfInBounds_toArray, List.set_cons_zero, List.set_cons_succ]
      clear q1
      repeat first | ((with_reducible refine tree_free ?_ ?_ ?_ ?_ (fun wk k1 => ?_) ?_); rotate_left 2; (rfl); (first | exact want_none rfl | exact want_some rfl rfl rfl rfl); (go_simp; first | exact OkX.val); simp only [Act.put, List.setIfInBounds_toArray, List.set_cons_zero, List.set_cons_succ]) | ((with_reducible refine tree_skip ?_ ?_ ?_ ?_); rotate_left; (rfl); (exact want_not rfl rfl rfl rfl rfl); simp only [Act.put, List.setIfInBounds_toArray, List.set_cons_zero, List.set_cons_succ])
      ((with_reducible refine tree_step ?_ ?_ ?_ (fun wk k1 => ?_)); rotate_left; (rfl); (first | exact want_none rfl | exact want_some rfl rfl rfl rfl))
      have E1 := Lib.hid (E0.out.trans k1)
      clear k1
      go_simp
      refine ⟨FootL.of_ext (ext_alloc _ _), ?_⟩
      try simp only [Act.put, List.setIfInBounds_toArray, List.set_cons_zero, List.set_cons_succ]
      have HTB := Lib.hid (heap_alloc_new wk (.cells #[.int .i64 10000, .int .i64 10000] 42 (0, 0)))
      have EA := Lib.hid (E1.out.trans (ext_alloc wk (.cells #[.int .i64 10000, .int .i64 10000] 42 (0, 0))))
      generalize wk.heap.size = T at HTB ⊢
      repeat first | ((with_reducible refine tree_free ?_ ?_ ?_ ?_ (fun wk k1 => ?_) ?_); rotate_left 2; (rfl); (first | exact want_none rfl | exact want_some rfl rfl rfl rfl); (go_simp; first | exact OkX.val); simp only [Act.put, List.setIfInBounds_toArray, List.set_cons_zero, List.set_cons_succ]) | ((with_reducible refine tree_skip ?_ ?_ ?_ ?_); rotate_left; (rfl); (exact want_not rfl rfl rfl rfl rfl); simp only [Act.put, List.setIfInBounds_toArray, List.set_cons_zero, List.set_cons_succ])
      ((with_reducible refine tree_step ?_ ?_ ?_ (fun wk k1 => ?_)); rotate_left; (rfl); (first | exact want_none rfl | exact want_some rfl rfl rfl rfl))
      have EB := Lib.hid (EA.out.trans k1)
      have hT2 := ext_blk k1 HTB.out
      have hcq := ext_blk EB.out HN3.out.caps
      clear k1
      refine wp_app_own rfl (.tmp 28) (.tmp 30) 38 rfl w.heap.size 42 c0 _ 2 16 Try.underlying38 hcc hcz0 hcz1 hcz2 rfl (by decide) (.slice (some ⟨g + 1 + 1, 0, none⟩) 1 1) 1 (capCells [(10000, 10000)]) rfl (one_cap7 hcq (by have := HG.out; omega)) ⟨T, 0, none⟩ 1 1 [.int .i64 10000, .int .i64 10000] rfl rfl (fun j u hu => ?n1) one2' (by simp [maxLen]) (by omega) (by have := X3.out.size; have := EB.out.size; omega) ?n2
      case n1 =>
        have hadd : (⟨T, 0, none⟩ : Addr).add j = ⟨T, j, none⟩ := by unfold Addr.add; split <;> simp_all
        rw [hadd]
        exact bcel hT2 j u (by rw [← Array.getElem?_toList]; exact hu)
      case n2 =>
      intro v' w6 ho6 hg6 _
      have hq6 := bapp (Ext.refl wk) hg6 (ext_blk EB.out HN3.out.queue) (fun e => by simp [Value.ownBlock] at e)
      have hs6 := bapp (Ext.refl wk) hg6 (ext_blk EB.out HSB3.out) (fun e => by have := HSG.out; simp [Value.ownBlock] at e; omega)
      have E6 := Lib.hid (X3.out.trans' (show Below w.heap.size W3 w6 from (Below.mono EB.out X3.out.size).trans (grown_below hg6 (by have := X3.out.size; have := EB.out.size; omega) (fun q e => by have := HG.out; simp [Value.ownBlock] at e; omega))))
      refine ⟨FootL.of_grown hg6 (fun q e => by simp [Value.ownBlock] at e; exact .inl e.symm), ?_⟩
      try simp only [Act.put, List.setIfInBounds_toArray, List.set_cons_zero, List.set_cons_succ]
      obtain ⟨A6, c6, rfl, hc6, hm6⟩ := own_shape ho6
      have HO6 := Lib.hid ho6
      have HQ6 := Lib.hid hq6
      have HS6 := Lib.hid hs6
      clear ho6 hg6 hq6 hs6 hT2 hcq
      have s1 := bcel HS6.out 1 (.slice (some ⟨g + 1 + 1 + 1, 0, none⟩) 1 1) rfl
      repeat first | ((with_reducible refine tree_free ?_ ?_ ?_ ?_ (fun wk k1 => ?_) ?_); rotate_left 2; (rfl); (first | exact want_none rfl | exact want_some rfl rfl rfl rfl); (go_simp; first | exact OkX.val | (have y1 := k1.cell s1 (by have := HSG.out; rintro (h | h) <;> omega); go_simp; exact OkX.val)); simp only [Act.put, List.setIfInBounds_toArray, List.set_cons_zero, List.set_cons_succ]) | ((with_reducible refine tree_skip ?_ ?_ ?_ ?_); rotate_left; (rfl); (exact want_not rfl rfl rfl rfl rfl); simp only [Act.put, List.setIfInBounds_toArray, List.set_cons_zero, List.set_cons_succ])
      ((with_reducible refine tree_step ?_ ?_ ?_ (fun wk k1 => ?_)); rotate_left; (rfl); (first | exact want_none rfl | exact want_some rfl rfl rfl rfl))
      have hq7 := ext_blk k1 HQ6.out
      have hs7 := ext_blk k1 HS6.out
      have ho7 := own_ExtK HO6.out k1
      have z1 := bcel hq7 1 (.slice (some ⟨g + 1 + 1, 0, none⟩) 1 1) rfl
      have fz := bfre hq7 1
      have E7 := Lib.hid (E6.out.trans k1)
      clear k1 s1
      go_simp
      refine ⟨FootL.setCell _ _ _ _ _ (.inr rfl), ?_⟩
      try simp only [Act.put, List.setIfInBounds_toArray, List.set_cons_zero, List.set_cons_succ]
      refine tree_done (fun wz k1 => ?_)
      have hfin := fin7 HSG.out hs7 hq7 ho7 HG.out E7.out k1
      clear k1 hq7 hs7 ho7 z1 fz
      go_wp2
      go_meet
      case rel => exact hfin
    · have E0 := Lib.hid ((Ext.drew _).trans k1)
      clear k1
      go_simp
      refine ⟨FootL.of_ext (ext_alloc _ _), ?_⟩
      try simp only [Act.put, List.setIfInBounds_toArray, List.set_cons_zero, List.set_cons_succ]
      have HTA := Lib.hid (heap_alloc_new wk (.cells #[.int .i64 10000, .int .i64 10000] 42 (0, 0)))
      have E1 := Lib.hid (E0.out.trans (ext_alloc wk (.cells #[.int .i64 10000, .int .i64 10000] 42 (0, 0))))
      generalize wk.heap.size = T at HTA ⊢
      repeat first | ((with_reducible refine tree_free ?_ ?_ ?_ ?_ (fun wk k1 => ?_) ?_); rotate_left 2; (rfl); (first | exact want_none rfl | exact want_some rfl rfl rfl rfl); (go_simp; first | exact OkX.val); simp only [Act.put, List.setIfInBounds_toArray, List.set_cons_zero, List.set_cons_succ]) | ((with_reducible refine tree_skip ?_ ?_ ?_ ?_); rotate_left; (rfl); (exact want_not rfl rfl rfl rfl rfl); simp only [Act.put, List.setIfInBounds_toArray, List.set_cons_zero, List.set_cons_succ])
      ((with_reducible refine tree_step ?_ ?_ ?_ (fun wk k1 => ?_)); rotate_left; (rfl); (first | exact want_none rfl | exact want_some rfl rfl rfl rfl))
      have HTB := Lib.hid (ext_blk k1 HTA.out)
      have EA := Lib.hid (E1.out.trans k1)
      have q1 := bcel (ext_blk EA.out HN3.out.queue) 1 (.slice (some ⟨g + 1 + 1, 0, none⟩) 1 1) rfl
      clear k1
      go_simp
      refine ⟨FootL.of_ext (Ext.refl _), ?_⟩
      try simp only [Act.put, List.setIfInBounds_toArray, List.set_cons_zero, List.set_cons_succ]
      clear q1
      repeat first | ((with_reducible refine tree_free ?_ ?_ ?_ ?_ (fun wk k1 => ?_) ?_); rotate_left 2; (rfl); (first | exact want_none rfl | exact want_some rfl rfl rfl rfl); (go_simp; first | exact OkX.val); simp only [Act.put, List.setIfInBounds_toArray, List.set_cons_zero, List.set_cons_succ]) | ((with_reducible refine tree_skip ?_ ?_ ?_ ?_); rotate_left; (rfl); (exact want_not rfl rfl rfl rfl rfl); simp only [Act.put, List.setIfInBounds_toArray, List.set_cons_zero, List.set_cons_succ])
      ((with_reducible refine tree_step ?_ ?_ ?_ (fun wk k1 => ?_)); rotate_left; (rfl); (first | exact want_none rfl | exact want_some rfl rfl rfl rfl))
      have EB := Lib.hid (EA.out.trans k1)
      have hT2 := ext_blk k1 HTB.out
      have hcq := ext_blk EB.out HN3.out.caps
      clear k1
      refine wp_app_own rfl (.tmp 28) (.tmp 30) 38 rfl w.heap.size 42 c0 _ 2 16 Try.underlying38 hcc hcz0 hcz1 hcz2 rfl (by decide) (.slice (some ⟨g + 1 + 1, 0, none⟩) 1 1) 1 (capCells [(10000, 10000)]) rfl (one_cap7 hcq (by have := HG.out; omega)) ⟨T, 0, none⟩ 1 1 [.int .i64 10000, .int .i64 10000] rfl rfl (fun j u hu => ?n1) one2' (by simp [maxLen]) (by omega) (by have := X3.out.size; have := EB.out.size; omega) ?n2
      case n1 =>
        have hadd : (⟨T, 0, none⟩ : Addr).add j = ⟨T, j, none⟩ := by unfold Addr.add; split <;> simp_all
        rw [hadd]
        exact bcel hT2 j u (by rw [← Array.getElem?_toList]; exact hu)
      case n2 =>
      intro v' w6 ho6 hg6 _
      have hq6 := bapp (Ext.refl wk) hg6 (ext_blk EB.out HN3.out.queue) (fun e => by simp [Value.ownBlock] at e)
      have hs6 := bapp (Ext.refl wk) hg6 (ext_blk EB.out HSB3.out) (fun e => by have := HSG.out; simp [Value.ownBlock] at e; omega)
      have E6 := Lib.hid (X3.out.trans' (show Below w.heap.size W3 w6 from (Below.mono EB.out X3.out.size).trans (grown_below hg6 (by have := X3.out.size; have := EB.out.size; omega) (fun q e => by have := HG.out; simp [Value.ownBlock] at e; omega))))
      refine ⟨FootL.of_grown hg6 (fun q e => by simp [Value.ownBlock] at e; exact .inl e.symm), ?_⟩
      try simp only [Act.put, List.setIfInBounds_toArray, List.set_cons_zero, List.set_cons_succ]
      obtain ⟨A6, c6, rfl, hc6, hm6⟩ := own_shape ho6
      have HO6 := Lib.hid ho6
      have HQ6 := Lib.hid hq6
      have HS6 := Lib.hid hs6
      clear ho6 hg6 hq6 hs6 hT2 hcq
      have s1 := bcel HS6.out 1 (.slice (some ⟨g + 1 + 1 + 1, 0, none⟩) 1 1) rfl
      repeat first | ((with_reducible refine tree_free ?_ ?_ ?_ ?_ (fun wk k1 => ?_) ?_); rotate_left 2; (rfl); (first | exact want_none rfl | exact want_some rfl rfl rfl rfl); (go_simp; first | exact OkX.val | (have y1 := k1.cell s1 (by have := HSG.out; rintro (h | h) <;> omega); go_simp; exact OkX.val)); simp only [Act.put, List.setIfInBounds_toArray, List.set_cons_zero, List.set_cons_succ]) | ((with_reducible refine tree_skip ?_ ?_ ?_ ?_); rotate_left; (rfl); (exact want_not rfl rfl rfl rfl rfl); simp only [Act.put, List.setIfInBounds_toArray, List.set_cons_zero, List.set_cons_succ])
      ((with_reducible refine tree_step ?_ ?_ ?_ (fun wk k1 => ?_)); rotate_left; (rfl); (first | exact want_none rfl | exact want_some rfl rfl rfl rfl))
      have hq7 := ext_blk k1 HQ6.out
      have hs7 := ext_blk k1 HS6.out
      have ho7 := own_ExtK HO6.out k1
      have z1 := bcel hq7 1 (.slice (some ⟨g + 1 + 1, 0, none⟩) 1 1) rfl
      have fz := bfre hq7 1
      have E7 := Lib.hid (E6.out.trans k1)
      clear k1 s1
      go_simp
      refine ⟨FootL.setCell _ _ _ _ _ (.inr rfl), ?_⟩
      try simp only [Act.put, List.setIfInBounds_toArray, List.set_cons_zero, List.set_cons_succ]
      refine tree_done (fun wz k1 => ?_)
      have hfin := fin7 HSG.out hs7 hq7 ho7 HG.out E7.out k1
      clear k1 hq7 hs7 ho7 z1 fz
      go_wp2
      go_meet
      case rel => exact hfin
  case rest =>
    obtain ⟨CB, cC, cur, hQB, hcC, hcM, hcur, hs, hE⟩ := hcut
    obtain ⟨W5, hW5⟩ : ∃ W5, W5 = wc.alloc (.cells #[.int .i64 0, .int .i64 0, .int .i64 0, .int .i64 0] 45) := ⟨_, rfl⟩
    obtain ⟨WB, hWB⟩ : ∃ WB, WB = wc.heap.size := ⟨_, rfl⟩
    have HQ5 := Lib.hid (show QB g CB cC cur W5 by rw [hW5]; exact hQB.ext (ext_alloc _ _))
    have HS5 := Lib.hid (show W5.heap[SB]? = some (.cells #[.slice (some ⟨SB + 1, 0, none⟩) 2 2, .slice (some ⟨g + 1 + 1 + 1, 0, none⟩) 1 1, .slice none 0 0, .slice none 0 0, .slice none 0 0, .slice none 0 0, .slice none 0 0, .int .i64 0, .int .i64 0, .int .i64 0] 36 (0, 0)) by rw [hW5]; exact ext_blk (ext_alloc _ _) hs)
    have HWB5 := Lib.hid (show W5.heap[WB]? = some (.cells #[.int .i64 0, .int .i64 0, .int .i64 0, .int .i64 0] 45 (0, 0)) by rw [hW5, hWB]; exact heap_alloc_new wc _)
    have X5 := Lib.hid (show Ext w W5 by rw [hW5]; exact hE.trans (ext_alloc _ _))
    have HWW := Lib.hid (show w.heap.size ≤ WB by rw [hWB]; exact hE.size)
    have HSW := Lib.hid (show SB < WB by rw [hWB]; exact (Array.getElem?_eq_some_iff.1 hs).1)
    have HGW := Lib.hid (show w.heap.size ≤ SB by have := HG.out; have := HSG.out; omega)
    have HCUR := Lib.hid hcur
    have HQW := Lib.hid (show g + 1 + 1 + 1 < WB ∧ CB < WB by rw [hWB]; exact ⟨(Array.getElem?_eq_some_iff.1 hQB.queue).1, (Array.getElem?_eq_some_iff.1 hQB.caps).1⟩)
    have HCBS := Lib.hid (show CB ≠ SB by
      intro e
      have h1 := hQB.caps
      rw [e, hs] at h1
      injection h1 with h1
      injection h1 with _ h2
      exact absurd h2 (by decide))
    clear hQB hs hE hcur s1 HSB3 HN3 X3
    go_wp2
    rw [← hW5, ← hWB]
    clear hW5 hWB
    go_loopw [9] (fun i wr => ∃ (k : Nat) (vn : Value) (ds : List ND), i = .int .i64 k ∧ k ≤ n ∧ ds.length = k ∧ wr.heap[SB]? = some (.cells #[.slice (some ⟨SB + 1, 0, none⟩) 2 2, .slice (some ⟨g + 1 + 1 + 1, 0, none⟩) 1 1, vn, .slice none 0 0, .slice none 0 0, .slice none 0 0, .slice none 0 0, .int .i64 0, .int .i64 0, .int .i64 0] 36 (0, 0)) ∧ wr.heap[WB]? = some (.cells #[.int .i64 (totV 0 ds).1, .int .i64 (totV 0 ds).2, .int .i64 (totV 1 ds).1, .int .i64 (totV 1 ds).2] 45 (0, 0)) ∧ wr.ownsRow WB 48 8 vn k (ncells ds) ∧ QB g CB cC cur wr ∧ Ext w wr) (fun i _ => n - (intOf i).toNat)
    case atStart => exact ⟨0, _, [], rfl, by omega, rfl, HS5.out, HWB5.out, World.ownsRow_nil _ _ _ 8, HQ5.out, X5.out⟩
    case round =>
      obtain ⟨k, vn, ds, rfl, hk, hdk, hsb, hwb, hown, hqb, hx⟩ := hrel
      obtain ⟨Av, cv, rfl, hv1, hv2⟩ := own_shape hown
      have HS := Lib.hid hsb
      have HWB := Lib.hid hwb
      have HO := Lib.hid hown
      have HX := Lib.hid hx
      have HDK := Lib.hid hdk
      have HQ := Lib.hid hqb
      clear hsb hwb hown hx hdk hqb
      have k0 : (0 : Int) ≤ (k : Int) := by omega
      by_cases hlt : k < n
      · have k1 : (k : Int) < (n : Int) := by omega
        obtain ⟨a, rfl, hb, hcs⟩ := HC.out (by omega)
        have HCS := Lib.hid (fun j hj => HX.out.cell' (hcs k hlt j hj))
        clear hcs
        obtain ⟨x1, h1⟩ : ∃ x, x = f k 0 := ⟨_, rfl⟩
        obtain ⟨x2, h2⟩ : ∃ x, x = f k 1 := ⟨_, rfl⟩
        have ad : a.add (k * 2 + 1) = ⟨(a.add (k * 2)).block, (a.add (k * 2)).off + 1, none⟩ := by rw [← Go.Deep.add_add]; generalize a.add (k * 2) = z; unfold Addr.add; rw [if_neg (by omega)]
        have e1 : wr.cell? (a.add (k * 2)) = some (.int .i64 x1) := by rw [h1]; exact HCS.out 0 (by omega)
        have e2 : wr.cell? ⟨(a.add (k * 2)).block, (a.add (k * 2)).off + 1, none⟩ = some (.int .i64 x2) := by rw [← ad, h2]; exact HCS.out 1 (by omega)
        clear h1 h2 ad
        obtain ⟨y1, h1⟩ : ∃ y, y = x1 % 1073741824 := ⟨_, rfl⟩
        obtain ⟨y2, h2⟩ : ∃ y, y = x2 % 1073741824 := ⟨_, rfl⟩
        have HI1 := Lib.hid (fun W => (h1 ▸ within7_any x1 1073741824 W (by omega) : Calls Try.prog 7 #[.int .i64 x1, .int .i64 1073741824] W fun e w' => e = .returned (.int .i64 y1) ∧ W = w'))
        have HI2 := Lib.hid (fun W => (h2 ▸ within7_any x2 1073741824 W (by omega) : Calls Try.prog 7 #[.int .i64 x2, .int .i64 1073741824] W fun e w' => e = .returned (.int .i64 y2) ∧ W = w'))
        clear h1 h2
        go_upto_region 12 with fail
        go_cut [10] from 40 to 64 (fun s10 wx => ∃ (Pb : Nat) (up : Bool), s10 = .pointer (some ⟨Pb, 0, none⟩) ∧ wr.heap.size ≤ Pb ∧ wx.heap[Pb]? = some (.cells #[.int .i64 (k : Int), .int .i64 0, .int .i64 0, .int .i64 y1, .int .i64 y2, .int .i64 0, .int .i64 0, .bool up] 48 (0, 0)) ∧ Ext wr wx)
        case first =>
          by_cases hu : k < N1
          · have u1 : (k : Int) < (N1 : Int) := by omega
            have u2 : decide ((k : Int) < (N1 : Int)) = true := by simpa using hu
            obtain ⟨a1, rfl, hb1, hcs1⟩ := HC1.out (by omega)
            have e3 := HX.out.cell' (hcs1 k (by have := HN1.out; omega))
            generalize bs[k]'(by have := HN1.out; omega) = up at e3
            clear hcs1
            go_wp2
            refine wp_region_sched (LBelow wr.heap.size) (LBelow_way _) [(0, true), (1, true), (2, true), (3, true), (4, true), (5, true), (6, true), (7, true), (8, true), (9, true), (10, true), (11, true), (12, true), (13, true), (14, true), (15, true), (16, true), (17, true), (18, true), (19, true), (20, true), (21, true), (22, true), (23, true), (24, true), (25, false), (26, false)] (by kernel_rfl) (by kernel_rfl) (fun _ _ _ _ _ h => h) ?_
            repeat first | ((with_reducible refine sched_free ?_ ?_ ?_ ?_ (fun wk k1 => ?_) ?_); rotate_left 2; (rfl); (first | exact want_none rfl | exact want_some rfl rfl rfl rfl); (go_simp; first | exact OkX.val | (have kk := LBelow.ext k1; have d1 := kk.cell' e1; have d2 := kk.cell' e2; have d3 := kk.cell' e3; go_simp; exact OkX.val) | ((with_reducible refine OkX.eqv (OkX.same (HI1.out _)) ?_); exact rfl) | ((with_reducible refine OkX.eqv (OkX.same (HI2.out _)) ?_); exact rfl)); simp only [Act.put, List.setIfInBounds_toArray, List.set_cons_zero, List.set_cons_succ]) | ((with_reducible refine sched_skip ?_ ?_ ?_ ?_); rotate_left; (rfl); (exact want_not rfl rfl rfl rfl rfl); simp only [Act.put, List.setIfInBounds_toArray, List.set_cons_zero, List.set_cons_succ])
            ((with_reducible refine sched_step ?_ ?_ ?_ (fun wk k1 => ?_)); rotate_left; (rfl); (first | exact want_none rfl | exact want_some rfl rfl rfl rfl))
            have E0 := Lib.hid ((Ext.drew _).trans k1)
            clear k1
            go_simp
            refine ⟨(LBelow_way _).ext (ext_alloc _ _), ?_⟩
            try simp only [Act.put, List.setIfInBounds_toArray, List.set_cons_zero, List.set_cons_succ]
            have HBP := Lib.hid (show (wk.alloc (.cells #[.int .i64 0, .int .i64 0, .int .i64 0, .int .i64 0, .int .i64 0, .int .i64 0, .int .i64 0, .bool false] 48)).heap[wk.heap.size]? = some (.cells #[.int .i64 0, .int .i64 0, .int .i64 0, .int .i64 0, .int .i64 0, .int .i64 0, .int .i64 0, .bool false] 48 (0, 0)) from heap_alloc_new wk _)
            have hPb : wr.heap.size ≤ wk.heap.size := E0.out.size
            have E2 := Lib.hid (E0.out.trans (ext_alloc wk (.cells #[.int .i64 0, .int .i64 0, .int .i64 0, .int .i64 0, .int .i64 0, .int .i64 0, .int .i64 0, .bool false] 48)))
            generalize hPbe : wk.heap.size = Pb at HBP hPb ⊢
            ((with_reducible refine sched_step ?_ ?_ ?_ (fun wk k1 => ?_)); rotate_left; (rfl); (first | exact want_none rfl | exact want_some rfl rfl rfl rfl))
            have hb2 := ext_blk k1 HBP.out
            have z0 := bcel hb2 0 (.int .i64 0) rfl
            have z1 := bcel hb2 1 (.int .i64 0) rfl
            have z2 := bcel hb2 2 (.int .i64 0) rfl
            have z3 := bcel hb2 3 (.int .i64 0) rfl
            have z4 := bcel hb2 4 (.int .i64 0) rfl
            have z5 := bcel hb2 5 (.int .i64 0) rfl
            have z6 := bcel hb2 6 (.int .i64 0) rfl
            have z7 := bcel hb2 7 (.bool false) rfl
            have fz := fun j => bfre hb2 j
            have E3 := Lib.hid (E2.out.trans k1)
            clear k1
            go_simp
            refine ⟨fun _ => (((((((((Below.refl _ _).setCell (p := ⟨Pb, 0, none⟩) hPb _).setCell (p := ⟨Pb, 1, none⟩) hPb _).setCell (p := ⟨Pb, 2, none⟩) hPb _).setCell (p := ⟨Pb, 3, none⟩) hPb _).setCell (p := ⟨Pb, 4, none⟩) hPb _).setCell (p := ⟨Pb, 5, none⟩) hPb _).setCell (p := ⟨Pb, 6, none⟩) hPb _).setCell (p := ⟨Pb, 7, none⟩) hPb _), ?_⟩
            try simp only [Act.put, List.setIfInBounds_toArray, List.set_cons_zero, List.set_cons_succ]
            obtain ⟨W6, hW6⟩ : ∃ W6, W6 = (((((((((((((((wk.setCell ⟨Pb, 0, none⟩ (.int .i64 (k : Int)))).setCell ⟨Pb, 1, none⟩ (.int .i64 0))).setCell ⟨Pb, 2, none⟩ (.int .i64 0))).setCell ⟨Pb, 3, none⟩ (.int .i64 y1))).setCell ⟨Pb, 4, none⟩ (.int .i64 y2))).setCell ⟨Pb, 5, none⟩ (.int .i64 0))).setCell ⟨Pb, 6, none⟩ (.int .i64 0))).setCell ⟨Pb, 7, none⟩ (.bool up)) := ⟨_, rfl⟩
            rw [← hW6]
            have hb6 : W6.heap[Pb]? = some (.cells #[.int .i64 (k : Int), .int .i64 0, .int .i64 0, .int .i64 y1, .int .i64 y2, .int .i64 0, .int .i64 0, .bool up] 48 (0, 0)) := by rw [hW6, (bset (bset (bset (bset (bset (bset (bset (bset hb2 0 _) 1 _) 2 _) 3 _) 4 _) 5 _) 6 _) 7 _)]; rfl
            have hE6 : Ext wr W6 := by rw [hW6]; exact (ext_set (o := 7) (ext_set (o := 6) (ext_set (o := 5) (ext_set (o := 4) (ext_set (o := 3) (ext_set (o := 2) (ext_set (o := 1) (ext_set (o := 0) (E3.out) hPb _) hPb _) hPb _) hPb _) hPb _) hPb _) hPb _) hPb _)
            refine sched_done (fun wz k1 => ?_)
            have hfin := And.intro (ext_blk k1 hb6) (hE6.trans k1)
            clear k1 hb6 hE6 hW6 hb2 z0 z1 z2 z3 z4 z5 z6 z7 fz hPbe
            go_wp2
            go_meet
            case rel => exact ⟨Pb, up, rfl, hPb, hfin.1, hfin.2⟩

          · have u1 : ¬ (k : Int) < (N1 : Int) := by omega
            have u2 : decide ((k : Int) < (N1 : Int)) = false := by simpa using hu
            go_wp2
            refine wp_region_sched (LBelow wr.heap.size) (LBelow_way _) [(0, true), (1, true), (2, true), (3, true), (4, true), (5, true), (6, true), (7, true), (8, true), (9, true), (10, true), (11, true), (12, true), (13, true), (14, true), (15, true), (16, true), (17, true), (18, true), (19, true), (20, true), (21, true), (22, true), (23, true), (24, true), (25, false), (26, false)] (by kernel_rfl) (by kernel_rfl) (fun _ _ _ _ _ h => h) ?_
            repeat first | ((with_reducible refine sched_free ?_ ?_ ?_ ?_ (fun wk k1 => ?_) ?_); rotate_left 2; (rfl); (first | exact want_none rfl | exact want_some rfl rfl rfl rfl); (go_simp; first | exact OkX.val | (have kk := LBelow.ext k1; have d1 := kk.cell' e1; have d2 := kk.cell' e2; go_simp; exact OkX.val) | ((with_reducible refine OkX.eqv (OkX.same (HI1.out _)) ?_); exact rfl) | ((with_reducible refine OkX.eqv (OkX.same (HI2.out _)) ?_); exact rfl)); simp only [Act.put, List.setIfInBounds_toArray, List.set_cons_zero, List.set_cons_succ]) | ((with_reducible refine sched_skip ?_ ?_ ?_ ?_); rotate_left; (rfl); (exact want_not rfl rfl rfl rfl rfl); simp only [Act.put, List.setIfInBounds_toArray, List.set_cons_zero, List.set_cons_succ])
            ((with_reducible refine sched_step ?_ ?_ ?_ (fun wk k1 => ?_)); rotate_left; (rfl); (first | exact want_none rfl | exact want_some rfl rfl rfl rfl))
            have E0 := Lib.hid ((Ext.drew _).trans k1)
            clear k1
            go_simp
            refine ⟨(LBelow_way _).ext (ext_alloc _ _), ?_⟩
            try simp only [Act.put, List.setIfInBounds_toArray, List.set_cons_zero, List.set_cons_succ]
            have HBP := Lib.hid (show (wk.alloc (.cells #[.int .i64 0, .int .i64 0, .int .i64 0, .int .i64 0, .int .i64 0, .int .i64 0, .int .i64 0, .bool false] 48)).heap[wk.heap.size]? = some (.cells #[.int .i64 0, .int .i64 0, .int .i64 0, .int .i64 0, .int .i64 0, .int .i64 0, .int .i64 0, .bool false] 48 (0, 0)) from heap_alloc_new wk _)
            have hPb : wr.heap.size ≤ wk.heap.size := E0.out.size
            have E2 := Lib.hid (E0.out.trans (ext_alloc wk (.cells #[.int .i64 0, .int .i64 0, .int .i64 0, .int .i64 0, .int .i64 0, .int .i64 0, .int .i64 0, .bool false] 48)))
            generalize hPbe : wk.heap.size = Pb at HBP hPb ⊢
            ((with_reducible refine sched_step ?_ ?_ ?_ (fun wk k1 => ?_)); rotate_left; (rfl); (first | exact want_none rfl | exact want_some rfl rfl rfl rfl))
            have hb2 := ext_blk k1 HBP.out
            have z0 := bcel hb2 0 (.int .i64 0) rfl
            have z1 := bcel hb2 1 (.int .i64 0) rfl
            have z2 := bcel hb2 2 (.int .i64 0) rfl
            have z3 := bcel hb2 3 (.int .i64 0) rfl
            have z4 := bcel hb2 4 (.int .i64 0) rfl
            have z5 := bcel hb2 5 (.int .i64 0) rfl
            have z6 := bcel hb2 6 (.int .i64 0) rfl
            have z7 := bcel hb2 7 (.bool false) rfl
            have fz := fun j => bfre hb2 j
            have E3 := Lib.hid (E2.out.trans k1)
            clear k1
            go_simp
            refine ⟨fun _ => (((((((((Below.refl _ _).setCell (p := ⟨Pb, 0, none⟩) hPb _).setCell (p := ⟨Pb, 1, none⟩) hPb _).setCell (p := ⟨Pb, 2, none⟩) hPb _).setCell (p := ⟨Pb, 3, none⟩) hPb _).setCell (p := ⟨Pb, 4, none⟩) hPb _).setCell (p := ⟨Pb, 5, none⟩) hPb _).setCell (p := ⟨Pb, 6, none⟩) hPb _).setCell (p := ⟨Pb, 7, none⟩) hPb _), ?_⟩
            try simp only [Act.put, List.setIfInBounds_toArray, List.set_cons_zero, List.set_cons_succ]
            obtain ⟨W6, hW6⟩ : ∃ W6, W6 = (((((((((((((((wk.setCell ⟨Pb, 0, none⟩ (.int .i64 (k : Int)))).setCell ⟨Pb, 1, none⟩ (.int .i64 0))).setCell ⟨Pb, 2, none⟩ (.int .i64 0))).setCell ⟨Pb, 3, none⟩ (.int .i64 y1))).setCell ⟨Pb, 4, none⟩ (.int .i64 y2))).setCell ⟨Pb, 5, none⟩ (.int .i64 0))).setCell ⟨Pb, 6, none⟩ (.int .i64 0))).setCell ⟨Pb, 7, none⟩ (.bool false)) := ⟨_, rfl⟩
            rw [← hW6]
            have hb6 : W6.heap[Pb]? = some (.cells #[.int .i64 (k : Int), .int .i64 0, .int .i64 0, .int .i64 y1, .int .i64 y2, .int .i64 0, .int .i64 0, .bool false] 48 (0, 0)) := by rw [hW6, (bset (bset (bset (bset (bset (bset (bset (bset hb2 0 _) 1 _) 2 _) 3 _) 4 _) 5 _) 6 _) 7 _)]; rfl
            have hE6 : Ext wr W6 := by rw [hW6]; exact (ext_set (o := 7) (ext_set (o := 6) (ext_set (o := 5) (ext_set (o := 4) (ext_set (o := 3) (ext_set (o := 2) (ext_set (o := 1) (ext_set (o := 0) (E3.out) hPb _) hPb _) hPb _) hPb _) hPb _) hPb _) hPb _) hPb _)
            refine sched_done (fun wz k1 => ?_)
            have hfin := And.intro (ext_blk k1 hb6) (hE6.trans k1)
            clear k1 hb6 hE6 hW6 hb2 z0 z1 z2 z3 z4 z5 z6 z7 fz hPbe
            go_wp2
            go_meet
            case rel => exact ⟨Pb, false, rfl, hPb, hfin.1, hfin.2⟩

        case rest =>
          obtain ⟨Pb, up, rfl, hPb, hpb, hE⟩ := hcut
          have HPB := Lib.hid hPb
          have HB12 := Lib.hid hpb
          have E12 := Lib.hid hE
          clear hPb hpb hE e1 e2 HI1 HI2 HCS
          go_upto_if 68 with fail
          go_cut [] from 65 to 74 (fun wx => ∃ lb : Nat, lb < 2 ∧ wx.heap[Pb]? = some (.cells #[.int .i64 (k : Int), .int .i64 (lb : Int), .int .i64 0, .int .i64 y1, .int .i64 y2, .int .i64 0, .int .i64 0, .bool up] 48 (0, 0)) ∧ Ext wr wx)
          case first =>
            have f1 := bfre HB12.out 1
            have z1 := bcel HB12.out 1 (.int .i64 0) rfl
            by_cases hl : k < N2
            · have u1 : (k : Int) < (N2 : Int) := by omega
              obtain ⟨a2, rfl, hb2, hcs2⟩ := HC2.out (by omega)
              have e3 := (HX.out.trans E12.out).cell' (hcs2 k (by have := HN2.out; omega))
              generalize ls[k]'(by have := HN2.out; omega) = xl at e3
              clear hcs2
              go_wp2_with fail
              (with_reducible refine (within7_some xl 2 2 _ rfl (by omega)).mono ?_)
              rintro e w13 ⟨lb, rfl, hlx, hlb, rfl⟩
              clear hlx
              go_wp2
              go_meet
              case rel => exact ⟨lb, hlb, by rw [bset HB12.out]; rfl, ext_set E12.out HPB.out _⟩
            · have u1 : ¬ (k : Int) < (N2 : Int) := by omega
              go_wp2
              go_meet
              case rel => exact ⟨0, by omega, HB12.out, E12.out⟩
          case rest =>
            obtain ⟨lb, hlb, hb13, hE13⟩ := hcut
            clear HB12 E12
            have HB13 := Lib.hid hb13
            have E13 := Lib.hid hE13
            obtain ⟨t1, ht1⟩ : ∃ t, t = (totV 0 ds).1 := ⟨_, rfl⟩
            obtain ⟨t2, ht2⟩ : ∃ t, t = (totV 0 ds).2 := ⟨_, rfl⟩
            obtain ⟨t3, ht3⟩ : ∃ t, t = (totV 1 ds).1 := ⟨_, rfl⟩
            obtain ⟨t4, ht4⟩ : ∃ t, t = (totV 1 ds).2 := ⟨_, rfl⟩
            have hw13 := ext_blk hE13 HWB.out
            rw [← ht1, ← ht2, ← ht3, ← ht4] at hw13
            have HW13 := Lib.hid hw13
            have HT1 := Lib.hid ht1
            have HT2 := Lib.hid ht2
            have HT3 := Lib.hid ht3
            have HT4 := Lib.hid ht4
            have hPW : Pb ≠ WB := by have h1 := (Array.getElem?_eq_some_iff.1 HWB.out).1; have := HPB.out; omega
            obtain ⟨nd, hnd⟩ : ∃ nd : ND, nd = ⟨k, lb, 0, y1, y2, 0, 0, up⟩ := ⟨_, rfl⟩
            have HND := Lib.hid hnd
            have p6 := bcel HB13.out 7 (.bool up) rfl
            clear hb13 hE13 ht1 ht2 ht3 ht4 hw13 hnd
            obtain ⟨w13, hw13⟩ : ∃ w13, w13 = wc := ⟨_, rfl⟩
            subst hw13
            go_upto_if 76 with fail
            go_cut [] from 75 to 86 (fun wx => wx.heap[WB]? = some (.cells #[.int .i64 (totV 0 (ds ++ [nd])).1, .int .i64 (totV 0 (ds ++ [nd])).2, .int .i64 (totV 1 (ds ++ [nd])).1, .int .i64 (totV 1 (ds ++ [nd])).2] 45 (0, 0)) ∧ FootL (fun b => b = WB) w13 wx)
            case first =>
              cases up with
              | false =>
                have HF0 := Lib.hid (show totV 0 (ds ++ [nd]) = totV 0 ds by rw [totV_snoc, if_neg (by rw [HND.out]; simp)])
                have HF1 := Lib.hid (show totV 1 (ds ++ [nd]) = totV 1 ds by rw [totV_snoc, if_neg (by rw [HND.out]; simp)])
                go_wp2
                go_meet
                case rel => exact ⟨by rw [HF0.out, HF1.out, ← HT1.out, ← HT2.out, ← HT3.out, ← HT4.out]; exact HW13.out, FootL.of_ext (Ext.refl _)⟩
              | true =>
                have hlb' : lb = 0 ∨ lb = 1 := by omega
                rcases hlb' with rfl | rfl
                · skip
                  have q0 := bcel HW13.out 0 (.int .i64 t1) rfl
                  have q1 := bcel HW13.out 1 (.int .i64 t2) rfl
                  have q2 := bcel HW13.out 2 (.int .i64 t3) rfl
                  have q3 := bcel HW13.out 3 (.int .i64 t4) rfl
                  have p1 := bcel HB13.out 1 (.int .i64 0) rfl
                  have p3 := bcel HB13.out 3 (.int .i64 y1) rfl
                  have p4 := bcel HB13.out 4 (.int .i64 y2) rfl
                  go_wp2
                  refine wp_region_sched (FootL fun b => b = WB) (FootL_way _) [(0, true), (1, true), (2, true), (3, true), (4, true), (6, true), (7, true), (5, false), (8, false), (9, true), (10, false)] (by kernel_rfl) (by kernel_rfl) (fun _ _ _ _ _ h => h) ?_
                  repeat first | ((with_reducible refine sched_free ?_ ?_ ?_ ?_ (fun wk k1 => ?_) ?_); rotate_left 2; (rfl); (first | exact want_none rfl | exact want_some rfl rfl rfl rfl); (go_simp; first | exact OkX.val | (have d1 := k1.cell p1 hPW; have d3 := k1.cell p3 hPW; have d4 := k1.cell p4 hPW; go_simp; exact OkX.val)); simp only [Act.put, List.setIfInBounds_toArray, List.set_cons_zero, List.set_cons_succ]) | ((with_reducible refine sched_skip ?_ ?_ ?_ ?_); rotate_left; (rfl); (exact want_not rfl rfl rfl rfl rfl); simp only [Act.put, List.setIfInBounds_toArray, List.set_cons_zero, List.set_cons_succ])
                  ((with_reducible refine sched_step ?_ ?_ ?_ (fun wk k1 => ?_)); rotate_left; (rfl); (first | exact want_none rfl | exact want_some rfl rfl rfl rfl))
                  have E0 := Lib.hid ((Ext.drew _).trans k1)
                  have c0 := E0.out.cell q0
                  have c1 := E0.out.cell q1
                  clear k1
                  go_simp
                  refine ⟨FootL.of_ext (Ext.refl _), ?_⟩
                  try simp only [Act.put, List.setIfInBounds_toArray, List.set_cons_zero, List.set_cons_succ]
                  clear c0 c1
                  repeat first | ((with_reducible refine sched_free ?_ ?_ ?_ ?_ (fun wk k1 => ?_) ?_); rotate_left 2; (rfl); (first | exact want_none rfl | exact want_some rfl rfl rfl rfl); (go_simp; first | exact OkX.val); simp only [Act.put, List.setIfInBounds_toArray, List.set_cons_zero, List.set_cons_succ]) | ((with_reducible refine sched_skip ?_ ?_ ?_ ?_); rotate_left; (rfl); (exact want_not rfl rfl rfl rfl rfl); simp only [Act.put, List.setIfInBounds_toArray, List.set_cons_zero, List.set_cons_succ])
                  ((with_reducible refine sched_step ?_ ?_ ?_ (fun wk k1 => ?_)); rotate_left; (rfl); (first | exact want_none rfl | exact want_some rfl rfl rfl rfl))
                  have E1 := Lib.hid (E0.out.trans k1)
                  clear k1
                  go_simp
                  (with_reducible refine (rplus_any t1 t2 y1 y2 _).mono ?_)
                  rintro e wp ⟨rfl, hxp⟩
                  refine ⟨FootL.of_ext hxp, ?_⟩
                  try simp only [Act.put, List.setIfInBounds_toArray, List.set_cons_zero, List.set_cons_succ]
                  have E2 := Lib.hid (E1.out.trans hxp)
                  clear hxp
                  repeat first | ((with_reducible refine sched_free ?_ ?_ ?_ ?_ (fun wk k1 => ?_) ?_); rotate_left 2; (rfl); (first | exact want_none rfl | exact want_some rfl rfl rfl rfl); (go_simp; first | exact OkX.val); simp only [Act.put, List.setIfInBounds_toArray, List.set_cons_zero, List.set_cons_succ]) | ((with_reducible refine sched_skip ?_ ?_ ?_ ?_); rotate_left; (rfl); (exact want_not rfl rfl rfl rfl rfl); simp only [Act.put, List.setIfInBounds_toArray, List.set_cons_zero, List.set_cons_succ])
                  ((with_reducible refine sched_step ?_ ?_ ?_ (fun wk k1 => ?_)); rotate_left; (rfl); (first | exact want_none rfl | exact want_some rfl rfl rfl rfl))
                  have E3 := Lib.hid (E2.out.trans k1)
                  have hw3 := ext_blk E3.out HW13.out
                  have m0 := bcel hw3 0 (.int .i64 t1) rfl
                  have m1 := bcel hw3 1 (.int .i64 t2) rfl
                  have n0 := bfre hw3 0
                  have n1 := bfre hw3 1
                  clear k1
                  go_simp
                  refine ⟨(FootL_way _).trans (FootL.setCell _ _ WB 0 _ rfl) (FootL.setCell _ _ WB 1 _ rfl), ?_⟩
                  try simp only [Act.put, List.setIfInBounds_toArray, List.set_cons_zero, List.set_cons_succ]
                  refine sched_done (fun wz k1 => ?_)
                  have hfin : FootL (fun b => b = WB) w13 wz := (FootL_way _).trans (FootL.of_ext E3.out) ((FootL_way _).trans ((FootL_way _).trans (FootL.setCell _ _ WB 0 _ rfl) (FootL.setCell _ _ WB 1 _ rfl)) (FootL.of_ext k1))
                  have hwf := ext_blk k1 (bset (bset hw3 0 _) 1 _)
                  have HF0 := Lib.hid (show totV 0 (ds ++ [nd]) = plusV (totV 0 ds) (y1, y2) by rw [totV_snoc, if_pos (by rw [HND.out]; simp)]; rw [HND.out])
                  have HF1 := Lib.hid (show totV 1 (ds ++ [nd]) = totV 1 ds by rw [totV_snoc, if_neg (by rw [HND.out]; simp)]; done)
                  clear k1 m0 m1 n0 n1 hw3
                  go_wp2
                  go_meet
                  case rel => exact ⟨by rw [hwf, HF0.out, HF1.out, plusV, ← HT1.out, ← HT2.out, ← HT3.out, ← HT4.out]; rfl, hfin⟩
                · skip
                  have q0 := bcel HW13.out 0 (.int .i64 t1) rfl
                  have q1 := bcel HW13.out 1 (.int .i64 t2) rfl
                  have q2 := bcel HW13.out 2 (.int .i64 t3) rfl
                  have q3 := bcel HW13.out 3 (.int .i64 t4) rfl
                  have p1 := bcel HB13.out 1 (.int .i64 1) rfl
                  have p3 := bcel HB13.out 3 (.int .i64 y1) rfl
                  have p4 := bcel HB13.out 4 (.int .i64 y2) rfl
                  go_wp2
                  refine wp_region_sched (FootL fun b => b = WB) (FootL_way _) [(0, true), (1, true), (2, true), (3, true), (4, true), (6, true), (7, true), (5, false), (8, false), (9, true), (10, false)] (by kernel_rfl) (by kernel_rfl) (fun _ _ _ _ _ h => h) ?_
                  repeat first | ((with_reducible refine sched_free ?_ ?_ ?_ ?_ (fun wk k1 => ?_) ?_); rotate_left 2; (rfl); (first | exact want_none rfl | exact want_some rfl rfl rfl rfl); (go_simp; first | exact OkX.val | (have d1 := k1.cell p1 hPW; have d3 := k1.cell p3 hPW; have d4 := k1.cell p4 hPW; go_simp; exact OkX.val)); simp only [Act.put, List.setIfInBounds_toArray, List.set_cons_zero, List.set_cons_succ]) | ((with_reducible refine sched_skip ?_ ?_ ?_ ?_); rotate_left; (rfl); (exact want_not rfl rfl rfl rfl rfl); simp only [Act.put, List.setIfInBounds_toArray, List.set_cons_zero, List.set_cons_succ])
                  ((with_reducible refine sched_step ?_ ?_ ?_ (fun wk k1 => ?_)); rotate_left; (rfl); (first | exact want_none rfl | exact want_some rfl rfl rfl rfl))
                  have E0 := Lib.hid ((Ext.drew _).trans k1)
                  have c2 := E0.out.cell q2
                  have c3 := E0.out.cell q3
                  clear k1
                  go_simp
                  refine ⟨FootL.of_ext (Ext.refl _), ?_⟩
                  try simp only [Act.put, List.setIfInBounds_toArray, List.set_cons_zero, List.set_cons_succ]
                  clear c2 c3
                  repeat first | ((with_reducible refine sched_free ?_ ?_ ?_ ?_ (fun wk k1 => ?_) ?_); rotate_left 2; (rfl); (first | exact want_none rfl | exact want_some rfl rfl rfl rfl); (go_simp; first | exact OkX.val); simp only [Act.put, List.setIfInBounds_toArray, List.set_cons_zero, List.set_cons_succ]) | ((with_reducible refine sched_skip ?_ ?_ ?_ ?_); rotate_left; (rfl); (exact want_not rfl rfl rfl rfl rfl); simp only [Act.put, List.setIfInBounds_toArray, List.set_cons_zero, List.set_cons_succ])
                  ((with_reducible refine sched_step ?_ ?_ ?_ (fun wk k1 => ?_)); rotate_left; (rfl); (first | exact want_none rfl | exact want_some rfl rfl rfl rfl))
                  have E1 := Lib.hid (E0.out.trans k1)
                  clear k1
                  go_simp
                  (with_reducible refine (rplus_any t3 t4 y1 y2 _).mono ?_)
                  rintro e wp ⟨rfl, hxp⟩
                  refine ⟨FootL.of_ext hxp, ?_⟩
                  try simp only [Act.put, List.setIfInBounds_toArray, List.set_cons_zero, List.set_cons_succ]
                  have E2 := Lib.hid (E1.out.trans hxp)
                  clear hxp
                  repeat first | ((with_reducible refine sched_free ?_ ?_ ?_ ?_ (fun wk k1 => ?_) ?_); rotate_left 2; (rfl); (first | exact want_none rfl | exact want_some rfl rfl rfl rfl); (go_simp; first | exact OkX.val); simp only [Act.put, List.setIfInBounds_toArray, List.set_cons_zero, List.set_cons_succ]) | ((with_reducible refine sched_skip ?_ ?_ ?_ ?_); rotate_left; (rfl); (exact want_not rfl rfl rfl rfl rfl); simp only [Act.put, List.setIfInBounds_toArray, List.set_cons_zero, List.set_cons_succ])
                  ((with_reducible refine sched_step ?_ ?_ ?_ (fun wk k1 => ?_)); rotate_left; (rfl); (first | exact want_none rfl | exact want_some rfl rfl rfl rfl))
                  have E3 := Lib.hid (E2.out.trans k1)
                  have hw3 := ext_blk E3.out HW13.out
                  have m0 := bcel hw3 2 (.int .i64 t3) rfl
                  have m1 := bcel hw3 3 (.int .i64 t4) rfl
                  have n0 := bfre hw3 2
                  have n1 := bfre hw3 3
                  clear k1
                  go_simp
                  refine ⟨(FootL_way _).trans (FootL.setCell _ _ WB 2 _ rfl) (FootL.setCell _ _ WB 3 _ rfl), ?_⟩
                  try simp only [Act.put, List.setIfInBounds_toArray, List.set_cons_zero, List.set_cons_succ]
                  refine sched_done (fun wz k1 => ?_)
                  have hfin : FootL (fun b => b = WB) w13 wz := (FootL_way _).trans (FootL.of_ext E3.out) ((FootL_way _).trans ((FootL_way _).trans (FootL.setCell _ _ WB 2 _ rfl) (FootL.setCell _ _ WB 3 _ rfl)) (FootL.of_ext k1))
                  have hwf := ext_blk k1 (bset (bset hw3 2 _) 3 _)
                  have HF0 := Lib.hid (show totV 0 (ds ++ [nd]) = totV 0 ds by rw [totV_snoc, if_neg (by rw [HND.out]; simp)]; done)
                  have HF1 := Lib.hid (show totV 1 (ds ++ [nd]) = plusV (totV 1 ds) (y1, y2) by rw [totV_snoc, if_pos (by rw [HND.out]; simp)]; rw [HND.out])
                  clear k1 m0 m1 n0 n1 hw3
                  go_wp2
                  go_meet
                  case rel => exact ⟨by rw [hwf, HF0.out, HF1.out, plusV, ← HT1.out, ← HT2.out, ← HT3.out, ← HT4.out]; rfl, hfin⟩
            case rest =>
              obtain ⟨hw16, hF⟩ := hcut
              have hs16 := hF.blk (ext_blk E13.out HS.out) (fun e => by have := HSW.out; omega)
              have hp16 := hF.blk HB13.out hPW
              have ho13 := own_ExtK HO.out E13.out
              have hnW13 : (Value.slice Av k cv).ownBlock ≠ some WB := own_other ho13 (ext_blk E13.out HWB.out) (by decide)
              have ho16 := own_footL ho13 hF (fun q e e2 => hnW13 (by rw [← e2]; exact e))
              have hq16 : QB g CB cC cur wc := ⟨hF.blk (HQ.out.ext E13.out).queue (fun e => by have := HQW.out; omega), hF.blk (HQ.out.ext E13.out).caps (fun e => by have := HQW.out; omega)⟩
              have E16 := Lib.hid (hF.ext (HX.out.trans E13.out) (fun i e => by have := HWW.out; omega))
              have hsz16 : w13.heap.size ≤ wc.heap.size := hF.size
              clear HW13 HB13 p6 hnW13 ho13 hF
              have HW16 := Lib.hid hw16
              have HS16 := Lib.hid hs16
              have HP16 := Lib.hid hp16
              have HO16 := Lib.hid ho16
              have HQ16 := Lib.hid hq16
              have s2 := bcel HS16.out 2 (.slice Av k cv) rfl
              have p0' := bcel HP16.out 0 (.int .i64 (k : Int)) rfl
              have p1' := bcel HP16.out 1 (.int .i64 (lb : Int)) rfl
              have p2' := bcel HP16.out 2 (.int .i64 0) rfl
              have p3' := bcel HP16.out 3 (.int .i64 y1) rfl
              have p4' := bcel HP16.out 4 (.int .i64 y2) rfl
              have p5' := bcel HP16.out 5 (.int .i64 0) rfl
              have p6' := bcel HP16.out 6 (.int .i64 0) rfl
              have p7' := bcel HP16.out 7 (.bool up) rfl
              have HNE := Lib.hid (show nenc nd = [.int .i64 (k : Int), .int .i64 (lb : Int), .int .i64 0, .int .i64 y1, .int .i64 y2, .int .i64 0, .int .i64 0, .bool up] by rw [HND.out]; rfl)
              have hWBs : WB ≤ wc.heap.size := Nat.le_of_lt (Array.getElem?_eq_some_iff.1 HW16.out).1
              clear hw16 hs16 hp16 ho16 hq16
              go_wp2_with (at_builtin; go_loud (refine wpList_append_own_at _ rfl (.tmp 88) (.tmp 90) 30 rfl WB 48 p0 _ 8 64 Try.underlying30 hp hpz0 hpz1 hpz2 rfl (by decide) _ k (ncells ds) rfl (HO16.out.alloc _) ⟨_, 0, none⟩ 1 1 [.int .i64 (k : Int), .int .i64 (lb : Int), .int .i64 0, .int .i64 y1, .int .i64 y2, .int .i64 0, .int .i64 0, .bool up] rfl rfl (cell_eight_new _ _ _ _ _ _ _ _ _ _) one8 ?e3 ?e4 ?e5 ?_))
              case e3 => simp [maxLen]; omega
              case e4 => omega
              case e5 => simp; omega
              intro v' w17 ho17 hg17 _ hat17
              obtain ⟨WA, hWA⟩ : ∃ WA, WA = wc.alloc (.cells #[.int .i64 (k : Int), .int .i64 (lb : Int), .int .i64 0, .int .i64 y1, .int .i64 y2, .int .i64 0, .int .i64 0, .bool up] 48) := ⟨_, rfl⟩
              rw [← hWA] at hg17
              have hxA : Ext wc WA := by rw [hWA]; exact ext_alloc _ _
              have hneS : (Value.slice Av k cv).ownBlock ≠ some SB := own_other HO16.out HS16.out (by decide)
              have hneW : (Value.slice Av k cv).ownBlock ≠ some WB := own_other HO16.out HW16.out (by decide)
              have hneQ : (Value.slice Av k cv).ownBlock ≠ some (g + 1 + 1 + 1) := own_other HO16.out HQ16.out.queue (by decide)
              have hneC : (Value.slice Av k cv).ownBlock ≠ some CB := own_other HO16.out HQ16.out.caps (by decide)
              have hs17 := bapp hxA hg17 HS16.out hneS
              have hw17 := bapp hxA hg17 HW16.out hneW
              have hq17 : QB g CB cC cur w17 := ⟨bapp hxA hg17 HQ16.out.queue hneQ, bapp hxA hg17 HQ16.out.caps hneC⟩
              have E17 := Lib.hid (E16.out.trans' (show Below w.heap.size wc w17 from (Below.mono hxA E16.out.size).trans (grown_below hg17 (by have := E16.out.size; have := hxA.size; omega) (fun q e => by have := (HO16.out.lt q e).1; have := HWW.out; omega))))
              obtain ⟨A17, c17, rfl, _, _⟩ := own_shape ho17
              have g2 := bfre hs17 2
              have s2' := bcel hs17 2 (.slice Av k cv) rfl
              have hneB : (Value.slice A17 (k + 1) c17).ownBlock ≠ some SB := own_other ho17 hs17 (by decide)
              have HFS := Lib.hid hs17
              have HFW := Lib.hid hw17
              have HFQ := Lib.hid hq17
              have HFO := Lib.hid ho17
              clear hs17 hw17 hq17 ho17 hg17 hat17 hneS hneW hneQ hneC hWA hxA s2 p0' p1' p2' p3' p4' p5' p6' p7' hWBs hsz16
              go_wp2
              go_roundw
              case rel =>
                refine ⟨k + 1, .slice A17 (k + 1) c17, ds ++ [nd], by simp, by omega, by simp [HDK.out], by rw [bset HFS.out]; rfl, ?_, ?_, ?_, ext_set E17.out HGW.out _⟩
                · rw [heap_setCell_other _ _ _ _ (by have := HSW.out; simp; omega)]
                  exact HFW.out
                · rw [ncells_snoc, HNE.out]
                  exact HFO.out.kept (bgrown _ SB 2 _) (.inr hneB)
                · exact HFQ.out.set (by have := HSG.out; omega) HCBS.out
              case measure => simp [intOf]; omega
      · obtain rfl : k = n := by omega
        have k1 : ¬ (k : Int) < (k : Int) := by omega
        obtain ⟨t1, ht1⟩ : ∃ t, t = (totV 0 ds).1 := ⟨_, rfl⟩
        obtain ⟨t2, ht2⟩ : ∃ t, t = (totV 0 ds).2 := ⟨_, rfl⟩
        obtain ⟨t3, ht3⟩ : ∃ t, t = (totV 1 ds).1 := ⟨_, rfl⟩
        obtain ⟨t4, ht4⟩ : ∃ t, t = (totV 1 ds).2 := ⟨_, rfl⟩
        have hw := HWB.out
        rw [← ht1, ← ht2, ← ht3, ← ht4] at hw
        have HWB' := Lib.hid hw
        have HT1 := Lib.hid ht1
        have HT2 := Lib.hid ht2
        have HT3 := Lib.hid ht3
        have HT4 := Lib.hid ht4
        have s0 := bcel HS.out 0 (.slice (some ⟨SB + 1, 0, none⟩) 2 2) rfl
        have s1 := bcel HS.out 1 (.slice (some ⟨g + 1 + 1 + 1, 0, none⟩) 1 1) rfl
        have s2 := bcel HS.out 2 (.slice Av k cv) rfl
        have s3 := bcel HS.out 3 (.slice none 0 0) rfl
        have s4 := bcel HS.out 4 (.slice none 0 0) rfl
        have s5 := bcel HS.out 5 (.slice none 0 0) rfl
        have s6 := bcel HS.out 6 (.slice none 0 0) rfl
        have s7 := bcel HS.out 7 (.int .i64 0) rfl
        have s8 := bcel HS.out 8 (.int .i64 0) rfl
        have s9 := bcel HS.out 9 (.int .i64 0) rfl
        have m0 := bcel hw 0 (.int .i64 t1) rfl
        have m1 := bcel hw 1 (.int .i64 t2) rfl
        have m2 := bcel hw 2 (.int .i64 t3) rfl
        have m3 := bcel hw 3 (.int .i64 t4) rfl
        have HPO := Lib.hid (show PortOk wr ⟨.slice (some ⟨SB + 1, 0, none⟩) 2 2, .slice (some ⟨g + 1 + 1 + 1, 0, none⟩) 1 1, .slice Av k cv, .slice none 0 0, .slice none 0 0, .slice none 0 0, .slice none 0 0, 0, 0, 0⟩ ds qs2 from ⟨(by have := Hd.of_own HO.out; rw [HDK.out]; exact this), by rw [HDK.out]; omega, HQ.out.qat hcC hcM HCUR.out, by decide, qs2_len, qs2_caps⟩)
        clear ht1 ht2 ht3 ht4 hw
        go_wp2
        refine wp_region_sched Ext ext_way [(0, true), (2, true), (3, true), (1, false), (4, true), (5, true), (6, true), (8, true), (9, true), (7, false), (10, true), (11, true), (12, true), (13, true), (15, true), (16, true), (14, false), (17, true), (18, true), (19, true), (20, true), (22, true), (23, true), (21, false), (24, true), (25, true), (26, true), (27, true), (29, true), (28, false), (30, true), (31, true), (32, true)] (by kernel_rfl) (by kernel_rfl) (fun _ _ _ _ _ h => h) ?_
        repeat first | ((with_reducible refine sched_free ?_ ?_ ?_ ?_ (fun wk k1 => ?_) ?_); rotate_left 2; (rfl); (first | exact want_none rfl | exact want_some rfl rfl rfl rfl); (go_simp; first | exact OkX.val | (have e0 := k1.cell s0; have e1 := k1.cell s1; have e2 := k1.cell s2; have e3 := k1.cell s3; have e4 := k1.cell s4; have e5 := k1.cell s5; have e6 := k1.cell s6; have e7 := k1.cell s7; have e8 := k1.cell s8; have e9 := k1.cell s9; have n0 := k1.cell m0; have n1 := k1.cell m1; have n2 := k1.cell m2; have n3 := k1.cell m3; go_simp; exact OkX.val)); simp only [Act.put, List.setIfInBounds_toArray, List.set_cons_zero, List.set_cons_succ]) | ((with_reducible refine sched_skip ?_ ?_ ?_ ?_); rotate_left; (rfl); (exact want_not rfl rfl rfl rfl rfl); simp only [Act.put, List.setIfInBounds_toArray, List.set_cons_zero, List.set_cons_succ])
        ((with_reducible refine sched_step ?_ ?_ ?_ (fun wk k1 => ?_)); rotate_left; (rfl); (first | exact want_none rfl | exact want_some rfl rfl rfl rfl))
        have F1 := Lib.hid ((Ext.drew _).trans k1)
        clear k1
        go_simp
        refine (Total_any ⟨.slice (some ⟨SB + 1, 0, none⟩) 2 2, .slice (some ⟨g + 1 + 1 + 1, 0, none⟩) 1 1, .slice Av k cv, .slice none 0 0, .slice none 0 0, .slice none 0 0, .slice none 0 0, 0, 0, 0⟩ ds 0 wk (HPO.out.ext F1.out).nodes HPO.out.nlen).mono ?_
        unfold vecV
        rw [← HT1.out, ← HT2.out]
        rintro e wp1 ⟨rfl, hx⟩
        refine ⟨hx, ?_⟩
        try simp only [Act.put, List.setIfInBounds_toArray, List.set_cons_zero, List.set_cons_succ]
        have F1x := Lib.hid (F1.out.trans hx)
        clear hx
        have s0 := F1x.out.cell (bcel HS.out 0 (.slice (some ⟨SB + 1, 0, none⟩) 2 2) rfl)
        have s1 := F1x.out.cell (bcel HS.out 1 (.slice (some ⟨g + 1 + 1 + 1, 0, none⟩) 1 1) rfl)
        have s2 := F1x.out.cell (bcel HS.out 2 (.slice Av k cv) rfl)
        have s3 := F1x.out.cell (bcel HS.out 3 (.slice none 0 0) rfl)
        have s4 := F1x.out.cell (bcel HS.out 4 (.slice none 0 0) rfl)
        have s5 := F1x.out.cell (bcel HS.out 5 (.slice none 0 0) rfl)
        have s6 := F1x.out.cell (bcel HS.out 6 (.slice none 0 0) rfl)
        have s7 := F1x.out.cell (bcel HS.out 7 (.int .i64 0) rfl)
        have s8 := F1x.out.cell (bcel HS.out 8 (.int .i64 0) rfl)
        have s9 := F1x.out.cell (bcel HS.out 9 (.int .i64 0) rfl)
        have m0 := F1x.out.cell (bcel HWB'.out 0 (.int .i64 t1) rfl)
        have m1 := F1x.out.cell (bcel HWB'.out 1 (.int .i64 t2) rfl)
        have m2 := F1x.out.cell (bcel HWB'.out 2 (.int .i64 t3) rfl)
        have m3 := F1x.out.cell (bcel HWB'.out 3 (.int .i64 t4) rfl)
        repeat first | ((with_reducible refine sched_free ?_ ?_ ?_ ?_ (fun wk k1 => ?_) ?_); rotate_left 2; (rfl); (first | exact want_none rfl | exact want_some rfl rfl rfl rfl); (go_simp; first | exact OkX.val | (have e0 := k1.cell s0; have e1 := k1.cell s1; have e2 := k1.cell s2; have e3 := k1.cell s3; have e4 := k1.cell s4; have e5 := k1.cell s5; have e6 := k1.cell s6; have e7 := k1.cell s7; have e8 := k1.cell s8; have e9 := k1.cell s9; have n0 := k1.cell m0; have n1 := k1.cell m1; have n2 := k1.cell m2; have n3 := k1.cell m3; go_simp; exact OkX.val)); simp only [Act.put, List.setIfInBounds_toArray, List.set_cons_zero, List.set_cons_succ]) | ((with_reducible refine sched_skip ?_ ?_ ?_ ?_); rotate_left; (rfl); (exact want_not rfl rfl rfl rfl rfl); simp only [Act.put, List.setIfInBounds_toArray, List.set_cons_zero, List.set_cons_succ])
        ((with_reducible refine sched_step ?_ ?_ ?_ (fun wk k1 => ?_)); rotate_left; (rfl); (first | exact want_none rfl | exact want_some rfl rfl rfl rfl))
        have F2 := Lib.hid (F1x.out.trans k1)
        clear k1
        go_simp
        refine (Total_any ⟨.slice (some ⟨SB + 1, 0, none⟩) 2 2, .slice (some ⟨g + 1 + 1 + 1, 0, none⟩) 1 1, .slice Av k cv, .slice none 0 0, .slice none 0 0, .slice none 0 0, .slice none 0 0, 0, 0, 0⟩ ds 1 wk (HPO.out.ext F2.out).nodes HPO.out.nlen).mono ?_
        unfold vecV
        rw [← HT3.out, ← HT4.out]
        rintro e wp2 ⟨rfl, hx⟩
        refine ⟨hx, ?_⟩
        try simp only [Act.put, List.setIfInBounds_toArray, List.set_cons_zero, List.set_cons_succ]
        have F2x := Lib.hid (F2.out.trans hx)
        clear hx
        have s0 := F2x.out.cell (bcel HS.out 0 (.slice (some ⟨SB + 1, 0, none⟩) 2 2) rfl)
        have s1 := F2x.out.cell (bcel HS.out 1 (.slice (some ⟨g + 1 + 1 + 1, 0, none⟩) 1 1) rfl)
        have s2 := F2x.out.cell (bcel HS.out 2 (.slice Av k cv) rfl)
        have s3 := F2x.out.cell (bcel HS.out 3 (.slice none 0 0) rfl)
        have s4 := F2x.out.cell (bcel HS.out 4 (.slice none 0 0) rfl)
        have s5 := F2x.out.cell (bcel HS.out 5 (.slice none 0 0) rfl)
        have s6 := F2x.out.cell (bcel HS.out 6 (.slice none 0 0) rfl)
        have s7 := F2x.out.cell (bcel HS.out 7 (.int .i64 0) rfl)
        have s8 := F2x.out.cell (bcel HS.out 8 (.int .i64 0) rfl)
        have s9 := F2x.out.cell (bcel HS.out 9 (.int .i64 0) rfl)
        have m0 := F2x.out.cell (bcel HWB'.out 0 (.int .i64 t1) rfl)
        have m1 := F2x.out.cell (bcel HWB'.out 1 (.int .i64 t2) rfl)
        have m2 := F2x.out.cell (bcel HWB'.out 2 (.int .i64 t3) rfl)
        have m3 := F2x.out.cell (bcel HWB'.out 3 (.int .i64 t4) rfl)
        repeat first | ((with_reducible refine sched_free ?_ ?_ ?_ ?_ (fun wk k1 => ?_) ?_); rotate_left 2; (rfl); (first | exact want_none rfl | exact want_some rfl rfl rfl rfl); (go_simp; first | exact OkX.val | (have e0 := k1.cell s0; have e1 := k1.cell s1; have e2 := k1.cell s2; have e3 := k1.cell s3; have e4 := k1.cell s4; have e5 := k1.cell s5; have e6 := k1.cell s6; have e7 := k1.cell s7; have e8 := k1.cell s8; have e9 := k1.cell s9; have n0 := k1.cell m0; have n1 := k1.cell m1; have n2 := k1.cell m2; have n3 := k1.cell m3; go_simp; exact OkX.val)); simp only [Act.put, List.setIfInBounds_toArray, List.set_cons_zero, List.set_cons_succ]) | ((with_reducible refine sched_skip ?_ ?_ ?_ ?_); rotate_left; (rfl); (exact want_not rfl rfl rfl rfl rfl); simp only [Act.put, List.setIfInBounds_toArray, List.set_cons_zero, List.set_cons_succ])
        ((with_reducible refine sched_step ?_ ?_ ?_ (fun wk k1 => ?_)); rotate_left; (rfl); (first | exact want_none rfl | exact want_some rfl rfl rfl rfl))
        have F3 := Lib.hid (F2x.out.trans k1)
        clear k1
        go_simp
        refine (Least_root ⟨.slice (some ⟨SB + 1, 0, none⟩) 2 2, .slice (some ⟨g + 1 + 1 + 1, 0, none⟩) 1 1, .slice Av k cv, .slice none 0 0, .slice none 0 0, .slice none 0 0, .slice none 0 0, 0, 0, 0⟩ ds qs2 ⟨#[114, 111, 111, 116]⟩ 1 wk (HPO.out.ext F3.out) rfl (by decide)).mono ?_
        unfold vecV
        rw [← HT3.out, ← HT4.out]
        rintro e wp3 ⟨rfl, hx⟩
        refine ⟨hx, ?_⟩
        try simp only [Act.put, List.setIfInBounds_toArray, List.set_cons_zero, List.set_cons_succ]
        have F3x := Lib.hid (F3.out.trans hx)
        clear hx
        have s0 := F3x.out.cell (bcel HS.out 0 (.slice (some ⟨SB + 1, 0, none⟩) 2 2) rfl)
        have s1 := F3x.out.cell (bcel HS.out 1 (.slice (some ⟨g + 1 + 1 + 1, 0, none⟩) 1 1) rfl)
        have s2 := F3x.out.cell (bcel HS.out 2 (.slice Av k cv) rfl)
        have s3 := F3x.out.cell (bcel HS.out 3 (.slice none 0 0) rfl)
        have s4 := F3x.out.cell (bcel HS.out 4 (.slice none 0 0) rfl)
        have s5 := F3x.out.cell (bcel HS.out 5 (.slice none 0 0) rfl)
        have s6 := F3x.out.cell (bcel HS.out 6 (.slice none 0 0) rfl)
        have s7 := F3x.out.cell (bcel HS.out 7 (.int .i64 0) rfl)
        have s8 := F3x.out.cell (bcel HS.out 8 (.int .i64 0) rfl)
        have s9 := F3x.out.cell (bcel HS.out 9 (.int .i64 0) rfl)
        have m0 := F3x.out.cell (bcel HWB'.out 0 (.int .i64 t1) rfl)
        have m1 := F3x.out.cell (bcel HWB'.out 1 (.int .i64 t2) rfl)
        have m2 := F3x.out.cell (bcel HWB'.out 2 (.int .i64 t3) rfl)
        have m3 := F3x.out.cell (bcel HWB'.out 3 (.int .i64 t4) rfl)
        repeat first | ((with_reducible refine sched_free ?_ ?_ ?_ ?_ (fun wk k1 => ?_) ?_); rotate_left 2; (rfl); (first | exact want_none rfl | exact want_some rfl rfl rfl rfl); (go_simp; first | exact OkX.val | (have e0 := k1.cell s0; have e1 := k1.cell s1; have e2 := k1.cell s2; have e3 := k1.cell s3; have e4 := k1.cell s4; have e5 := k1.cell s5; have e6 := k1.cell s6; have e7 := k1.cell s7; have e8 := k1.cell s8; have e9 := k1.cell s9; have n0 := k1.cell m0; have n1 := k1.cell m1; have n2 := k1.cell m2; have n3 := k1.cell m3; go_simp; exact OkX.val)); simp only [Act.put, List.setIfInBounds_toArray, List.set_cons_zero, List.set_cons_succ]) | ((with_reducible refine sched_skip ?_ ?_ ?_ ?_); rotate_left; (rfl); (exact want_not rfl rfl rfl rfl rfl); simp only [Act.put, List.setIfInBounds_toArray, List.set_cons_zero, List.set_cons_succ])
        ((with_reducible refine sched_step ?_ ?_ ?_ (fun wk k1 => ?_)); rotate_left; (rfl); (first | exact want_none rfl | exact want_some rfl rfl rfl rfl))
        have F4 := Lib.hid (F3x.out.trans k1)
        clear k1
        go_simp
        refine (Most_root ⟨.slice (some ⟨SB + 1, 0, none⟩) 2 2, .slice (some ⟨g + 1 + 1 + 1, 0, none⟩) 1 1, .slice Av k cv, .slice none 0 0, .slice none 0 0, .slice none 0 0, .slice none 0 0, 0, 0, 0⟩ ds qs2 ⟨#[114, 111, 111, 116]⟩ 0 wk (HPO.out.ext F4.out) rfl (by decide)).mono ?_
        unfold vecV
        rw [← HT1.out, ← HT2.out]
        rintro e wp4 ⟨rfl, hx⟩
        refine ⟨hx, ?_⟩
        try simp only [Act.put, List.setIfInBounds_toArray, List.set_cons_zero, List.set_cons_succ]
        have F4x := Lib.hid (F4.out.trans hx)
        clear hx
        have s0 := F4x.out.cell (bcel HS.out 0 (.slice (some ⟨SB + 1, 0, none⟩) 2 2) rfl)
        have s1 := F4x.out.cell (bcel HS.out 1 (.slice (some ⟨g + 1 + 1 + 1, 0, none⟩) 1 1) rfl)
        have s2 := F4x.out.cell (bcel HS.out 2 (.slice Av k cv) rfl)
        have s3 := F4x.out.cell (bcel HS.out 3 (.slice none 0 0) rfl)
        have s4 := F4x.out.cell (bcel HS.out 4 (.slice none 0 0) rfl)
        have s5 := F4x.out.cell (bcel HS.out 5 (.slice none 0 0) rfl)
        have s6 := F4x.out.cell (bcel HS.out 6 (.slice none 0 0) rfl)
        have s7 := F4x.out.cell (bcel HS.out 7 (.int .i64 0) rfl)
        have s8 := F4x.out.cell (bcel HS.out 8 (.int .i64 0) rfl)
        have s9 := F4x.out.cell (bcel HS.out 9 (.int .i64 0) rfl)
        have m0 := F4x.out.cell (bcel HWB'.out 0 (.int .i64 t1) rfl)
        have m1 := F4x.out.cell (bcel HWB'.out 1 (.int .i64 t2) rfl)
        have m2 := F4x.out.cell (bcel HWB'.out 2 (.int .i64 t3) rfl)
        have m3 := F4x.out.cell (bcel HWB'.out 3 (.int .i64 t4) rfl)
        repeat first | ((with_reducible refine sched_free ?_ ?_ ?_ ?_ (fun wk k1 => ?_) ?_); rotate_left 2; (rfl); (first | exact want_none rfl | exact want_some rfl rfl rfl rfl); (go_simp; first | exact OkX.val | (have e0 := k1.cell s0; have e1 := k1.cell s1; have e2 := k1.cell s2; have e3 := k1.cell s3; have e4 := k1.cell s4; have e5 := k1.cell s5; have e6 := k1.cell s6; have e7 := k1.cell s7; have e8 := k1.cell s8; have e9 := k1.cell s9; have n0 := k1.cell m0; have n1 := k1.cell m1; have n2 := k1.cell m2; have n3 := k1.cell m3; go_simp; exact OkX.val)); simp only [Act.put, List.setIfInBounds_toArray, List.set_cons_zero, List.set_cons_succ]) | ((with_reducible refine sched_skip ?_ ?_ ?_ ?_); rotate_left; (rfl); (exact want_not rfl rfl rfl rfl rfl); simp only [Act.put, List.setIfInBounds_toArray, List.set_cons_zero, List.set_cons_succ])
        ((with_reducible refine sched_step ?_ ?_ ?_ (fun wk k1 => ?_)); rotate_left; (rfl); (first | exact want_none rfl | exact want_some rfl rfl rfl rfl))
        have F5 := Lib.hid (F4x.out.trans k1)
        clear k1
        go_simp
        refine (Least_none ⟨.slice (some ⟨SB + 1, 0, none⟩) 2 2, .slice (some ⟨g + 1 + 1 + 1, 0, none⟩) 1 1, .slice Av k cv, .slice none 0 0, .slice none 0 0, .slice none 0 0, .slice none 0 0, 0, 0, 0⟩ ds qs2 ⟨#[110, 111, 98, 111, 100, 121]⟩ 0 wk (HPO.out.ext F5.out) (by decide)).mono ?_
        unfold vecV
        skip
        rintro e wp5 ⟨rfl, hx⟩
        refine ⟨hx, ?_⟩
        try simp only [Act.put, List.setIfInBounds_toArray, List.set_cons_zero, List.set_cons_succ]
        have F5x := Lib.hid (F5.out.trans hx)
        clear hx
        repeat first | ((with_reducible refine sched_free ?_ ?_ ?_ ?_ (fun wk k1 => ?_) ?_); rotate_left 2; (rfl); (first | exact want_none rfl | exact want_some rfl rfl rfl rfl); (go_simp; first | exact OkX.val); simp only [Act.put, List.setIfInBounds_toArray, List.set_cons_zero, List.set_cons_succ]) | ((with_reducible refine sched_skip ?_ ?_ ?_ ?_); rotate_left; (rfl); (exact want_not rfl rfl rfl rfl rfl); simp only [Act.put, List.setIfInBounds_toArray, List.set_cons_zero, List.set_cons_succ])
        refine sched_done (fun wq k1 => ?_)
        have F6 := Lib.hid (HX.out.trans (F5x.out.trans k1))
        clear k1
        go_wp2
        go_ret
        exact ⟨rfl, F6.out⟩
end Go.Proofs.Ytflbhnckhbcboaa.ShareNodes
