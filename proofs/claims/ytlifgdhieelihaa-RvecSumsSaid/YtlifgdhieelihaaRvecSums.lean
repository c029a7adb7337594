/- The law RvecSums holds at every input: sums, differences, fits, of any two vectors and of four rows made of them, are what the document says. No condition. -/
import Derived.Test.YtlifgdhieelihaaLaw
import Derived.Test.YtlifgdhieelihaaOwnL
import Derived.Test.YtlifgdhieelihaaLeafC
import Derived.Test.YtlifgdhieelihaaRefA
import Derived.Test.YtlifgdhieelihaaSched2
import Derived.OpenShut
import Derived.ChangeOld
import Derived.ChangeSame
import Derived.JoinedOf
import Derived.JoinedAt
import Derived.RowKit3
import Derived.Lib.SmallJoins
namespace Go.Proofs.Ytlifgdhieelihaa.RvecSums
open Go.ChangeShapes Go.WideShapes Go.ChangeAt Go.RowKit Go.Joins

/-- A row of sixteen numbers in own memory. -/
def Row (W : World) (S : Nat) (f : Nat → Int) : Prop := S < W.heap.size ∧ ∀ j, j < 16 → W.cell? ⟨S, j, none⟩ = some (.int .i64 (f j))
theorem Row.ext {W W' : World} {S : Nat} {f : Nat → Int} (h : Row W S f) (k : Ext W W') : Row W' S f := ⟨Nat.lt_of_lt_of_le h.1 k.size, fun j hj => (World.cell?_of_block (k.block S h.1)).trans (h.2 j hj)⟩
theorem cells16 (l : List Int) (j : Nat) (h : j < l.length) : ((l.map (Value.int .i64)).toArray)[j]? = some (.int .i64 (l.getD j 0)) := by simp [h]

set_option maxRecDepth 20000 in
set_option maxHeartbeats 8000000 in
theorem walk (a0 b0 : Int) (_ : (Lit.int .i64 a0).wf = true) (_ : (Lit.int .i64 b0).wf = true) (a1 b1 : Int) (_ : (Lit.int .i64 a1).wf = true) (_ : (Lit.int .i64 b1).wf = true) (how : Int) (_ : (Lit.int .i64 how).wf = true) (w : World) :
    Calls Try.prog 3 #[.agg #[.int .i64 a0, .int .i64 b0], .agg #[.int .i64 a1, .int .i64 b1], .int .i64 how] w fun e w' => e = .returned (.bool true) ∧ Below w.heap.size w w' := by
  go_enter Try.func3, Try.ntmps3
  go_wp2_with fail
  refine at_calls (fun W0 hW0 => ?_)
  have hB0 : Below w.heap.size w W0 := by rw [hW0]; first | (with_reducible assumption) | (go_grown; done)
  have H0 : OwnL W0 [(w.heap.size, [.int .i64 (a0), .int .i64 (b0)]), (w.heap.size + 1, [.int .i64 (a1), .int .i64 (b1)])] := by
    rw [hW0]; simp only [OwnL, cellsL]
    refine ⟨⟨?_, ?_, ⟨?_, ?_, trivial⟩⟩, ⟨?_, ?_, ⟨?_, ?_, trivial⟩⟩, trivial⟩
    all_goals first | (with_reducible assumption) | omega | (simp; omega) | (simp [go_sem]; done) | (simp [go_sem, *]; done) | (intro o; first | (simp [go_sem]; done) | (simp [go_sem, *]; done))
  clear hW0
  (with_reducible refine (known_any _).mono ?_)
  rintro e w1 ⟨rfl, hb⟩
  have hF := OwnL.ext hb H0
  simp only [OwnL, cellsL, and_true] at hF
  have hB := Ext.from hb hB0 hB0.size
  have hs := hB.size
  clear hb H0 hB0
  go_upto_region 3 with fail
  refine at_world (fun W0 hW0 => ?_)
  have hB0 : Below w.heap.size w W0 := by rw [hW0]; first | (with_reducible assumption) | (go_grown; done)
  have H0 : OwnL W0 [(w.heap.size, [.int .i64 (a0), .int .i64 (b0)]), (w.heap.size + 1, [.int .i64 (a1), .int .i64 (b1)])] := by
    rw [hW0]; simp only [OwnL, cellsL]
    refine ⟨⟨?_, ?_, ⟨?_, ?_, trivial⟩⟩, ⟨?_, ?_, ⟨?_, ?_, trivial⟩⟩, trivial⟩
    all_goals first | (with_reducible assumption) | omega | (simp; omega) | (simp [go_sem]; done) | (simp [go_sem, *]; done) | (intro o; first | (simp [go_sem]; done) | (simp [go_sem, *]; done))
  clear hW0 hF hB hs
  refine wp_region_lex 24 (by kernel_rfl) (by kernel_rfl) (fun _ _ _ _ _ h => h) ?_
  simp only [List.take_succ_cons, List.take_zero, List.drop_succ_cons, List.drop_zero]
  repeat first | (refine seq_take ?_ (by rfl) (fun wk hb => ?_) ?_; rotate_left; (have hF := OwnL.ext hb H0; simp only [OwnL, cellsL, and_true] at hF; go_simp; first | exact OkX.val | (refine OkX.eqv (OkX.call (vec_any _ _ _ _)) ?_; exact rfl)); simp only [Act.put, List.setIfInBounds_toArray, List.set_cons_zero, List.set_cons_succ]) | (refine seq_skip (by rfl) ?_; simp only [Act.put, List.setIfInBounds_toArray, List.set_cons_zero, List.set_cons_succ])
  refine seq_nil (fun w2 hb => ?_)
  have hF := OwnL.ext hb H0
  simp only [OwnL, cellsL, and_true] at hF
  have hB := Ext.from hb hB0 hB0.size
  have hs := hB.size
  clear hb H0 hB0
  generalize vp how a0 = x0 at *
  generalize vp how b0 = x1 at *
  generalize vp how a1 = x2 at *
  generalize vp how b1 = x3 at *
  go_wp2
  generalize vp (wrap64 (how.tdiv 2)) a0 = y0
  generalize vp (wrap64 (how.tdiv 2)) b0 = y1
  generalize vp (wrap64 (how.tdiv 4)) a1 = y2
  generalize vp (wrap64 (how.tdiv 4)) b1 = y3
  have hx2 : Ext w (w2.alloc (.cells #[.int .i64 a0, .int .i64 b0, .int .i64 a1, .int .i64 b1, .int .i64 x0, .int .i64 x1, .int .i64 x2, .int .i64 x3, .int .i64 y0, .int .i64 y1, .int .i64 y2, .int .i64 y3, .int .i64 x0, .int .i64 x1, .int .i64 a1, .int .i64 b1] 25)) := (show Ext w w2 from hB).trans ((Below.refl _ _).alloc (Nat.le_refl _) _)
  have hrow : Row (w2.alloc (.cells #[.int .i64 a0, .int .i64 b0, .int .i64 a1, .int .i64 b1, .int .i64 x0, .int .i64 x1, .int .i64 x2, .int .i64 x3, .int .i64 y0, .int .i64 y1, .int .i64 y2, .int .i64 y3, .int .i64 x0, .int .i64 x1, .int .i64 a1, .int .i64 b1] 25)) w2.heap.size (fun j => ([a0, b0, a1, b1, x0, x1, x2, x3, y0, y1, y2, y3, x0, x1, a1, b1] : List Int).getD j 0) := ⟨by simp, fun j hj => (cell_of_row _ _ j _ _ (0, 0) (heap_alloc_new w2 _)).trans (cells16 [a0, b0, a1, b1, x0, x1, x2, x3, y0, y1, y2, y3, x0, x1, a1, b1] j hj)⟩
  generalize (fun j => ([a0, b0, a1, b1, x0, x1, x2, x3, y0, y1, y2, y3, x0, x1, a1, b1] : List Int).getD j 0) = f at hrow
  generalize w2.alloc (.cells #[.int .i64 a0, .int .i64 b0, .int .i64 a1, .int .i64 b1, .int .i64 x0, .int .i64 x1, .int .i64 x2, .int .i64 x3, .int .i64 y0, .int .i64 y1, .int .i64 y2, .int .i64 y3, .int .i64 x0, .int .i64 x1, .int .i64 a1, .int .i64 b1] 25) = w3 at *
  generalize w2.heap.size = S at *
  have hrow := Lib.hid hrow; have hx2 := Lib.hid hx2
  clear hF hB hs
  go_loopw [8] (fun i wr => ∃ k : Nat, k ≤ 4 ∧ i = .int .i64 k ∧ Row wr S f ∧ Ext w wr) (fun i _ => 4 - (intOf i).toNat)
  case atStart => exact ⟨0, Nat.zero_le _, rfl, hrow.out, hx2.out⟩
  case round =>
    obtain ⟨k, hk, rfl, hR, hE⟩ := hrel
    clear hrow hx2
    have HR := Lib.hid hR; have HE := Lib.hid hE
    clear hR hE
    by_cases hlt : k < 4
    · skip
      have T1 := Lib.hid (fun (w : World) => Add_any (f (k * 4)) (f (k * 4 + 1)) (f (k * 4 + 2)) (f (k * 4 + 3)) w)
      have T2 := Lib.hid (fun (w : World) => rAdd_any (f (k * 4)) (f (k * 4 + 1)) (f (k * 4 + 2)) (f (k * 4 + 3)) w)
      have T3 := Lib.hid (fun (w : World) => Sub_any (f (k * 4)) (f (k * 4 + 1)) (f (k * 4 + 2)) (f (k * 4 + 3)) w)
      have T4 := Lib.hid (fun (w : World) => rSub_any (f (k * 4)) (f (k * 4 + 1)) (f (k * 4 + 2)) (f (k * 4 + 3)) w)
      have T5 := Lib.hid (fun (w : World) => Fits_any (f (k * 4)) (f (k * 4 + 1)) (f (k * 4 + 2)) (f (k * 4 + 3)) w)
      have T6 := Lib.hid (fun (w : World) => rFits_any (f (k * 4)) (f (k * 4 + 1)) (f (k * 4 + 2)) (f (k * 4 + 3)) w)
      have hcell := Lib.hid (fun (wk : World) (h : Ext wr wk) => let h := (HR.out.ext h).2; show wk.cell? ⟨S, k * 4, none⟩ = _ ∧ wk.cell? ⟨S, k * 4 + 1, none⟩ = _ ∧ wk.cell? ⟨S, k * 4 + 2, none⟩ = _ ∧ wk.cell? ⟨S, k * 4 + 3, none⟩ = _ from ⟨h _ (by omega), h _ (by omega), h _ (by omega), h _ (by omega)⟩)
      generalize f (k * 4) = a at *
      generalize f (k * 4 + 1) = b at *
      generalize f (k * 4 + 2) = c at *
      generalize f (k * 4 + 3) = d at *
      generalize sumX a b c d (a+c) (b+d) (a+c) = p1 at *
      generalize sumX a b c d (a+c) (b+d) (b+d) = p2 at *
      generalize sumE a b c d (a+c) (b+d) = pe at *
      generalize sumX a b c d (a-c) (b-d) (a-c) = r1 at *
      generalize sumX a b c d (a-c) (b-d) (b-d) = r2 at *
      generalize sumE a b c d (a-c) (b-d) = re at *
      generalize fitB a b c d = ft at *
      have i0 : (0 : Int) ≤ (k : Int) := by omega
      have i1 : (k : Int) < 4 := by omega
      go_upto_region 7 with fail
      refine wp_region_plan (LBelow wr.heap.size) (LBelow_way _) [.free 0, .free 1, .free 2, .free 3, .free 4, .free 5, .free 6, .free 7, .free 8, .free 9, .both 10 11, .step 12, .step 13] (by kernel_rfl) (by kernel_rfl) (fun _ _ _ _ _ h => h) ?_
      repeat ((with_reducible refine plan_free ?_ ?_ ?_ ?_ (fun wk k1 => ?_) ?_); rotate_left 2; (rfl); (first | exact want_none rfl | exact want_some rfl rfl rfl rfl); (obtain ⟨f0, f1, f2, f3⟩ := hcell.out _ (LBelow.ext k1); go_simp; exact OkX.val); simp only [Act.put, List.setIfInBounds_toArray, List.set_cons_zero, List.set_cons_succ])
      refine plan_both (fun wa ka => ?_) (fun wa ka => ?_)
      · skip
        have hA := Lib.hid ((Ext.drew wr).trans ka)
        have zA := hA.out.size
        clear ka
        ((with_reducible refine op_of ?_ ?_ ?_ ?_); rotate_left; (rfl); (first | exact want_none rfl | exact want_some rfl rfl rfl rfl))
        go_simp
        refine ⟨(LBelow_way _).ext ((Below.refl _ _).alloc (Nat.le_refl _) _), fun wb kb => ?_⟩
        have hO := Lib.hid (OwnL.ext kb (show OwnL (wa.alloc (.cells #[.int .i64 0, .int .i64 0] 23)) [(wa.heap.size, [.int .i64 0, .int .i64 0])] by simp only [OwnL, cellsL]; refine ⟨⟨?_, ?_, ?_, ?_, trivial⟩, trivial⟩ <;> first | (simp; done) | (simp [go_sem]; done)))
        have hA := Lib.hid ((hA.out.trans ((Below.refl _ _).alloc (Nat.le_refl _) _)).trans kb)
        have zB : wa.heap.size < wb.heap.size := by have := kb.size; simp at this; omega
        clear kb
        ((with_reducible refine op_of ?_ ?_ ?_ ?_); rotate_left; (rfl); (first | exact want_none rfl | exact want_some rfl rfl rfl rfl))
        go_simp
        refine ⟨(LBelow_way _).ext ((Below.refl _ _).alloc (Nat.le_refl _) _), ?_⟩
        try simp only [Act.put, List.setIfInBounds_toArray, List.set_cons_zero, List.set_cons_succ]
        have hX : Ext wb (wb.alloc (.cells #[.int .i64 0, .int .i64 0] 23)) := (Below.refl _ _).alloc (Nat.le_refl _) _
        have hO := Lib.hid (OwnL.ext hX hO.out)
        have hP := Lib.hid (show OwnL (wb.alloc (.cells #[.int .i64 0, .int .i64 0] 23)) [(wb.heap.size, [.int .i64 0, .int .i64 0])] by simp only [OwnL, cellsL]; refine ⟨⟨?_, ?_, ?_, ?_, trivial⟩, trivial⟩ <;> first | (simp; done) | (simp [go_sem]; done))
        have hA := Lib.hid (hA.out.trans hX)
        clear hX
        ((with_reducible refine plan_step ?_ ?_ ?_ (fun wk k1 => ?_)); rotate_left; (rfl); (first | exact want_none rfl | exact want_some rfl rfl rfl rfl))
        have hA := Lib.hid (hA.out.trans k1)
        have hO := Lib.hid (OwnL.ext k1 hO.out)
        have hP := Lib.hid (OwnL.ext k1 hP.out)
        have fO := hO.out; have fP := hP.out
        simp only [OwnL, cellsL, and_true] at fO fP
        clear k1
        go_simp
        refine ⟨fun _ => ((Below.refl _ _).setCell (by simp; omega) _).setCell (by simp; omega) _, ?_⟩
        try simp only [Act.put, List.setIfInBounds_toArray, List.set_cons_zero, List.set_cons_succ]
        refine at_P (fun V8 hV8 => ?_)
        have hO8 : OwnL V8 [(wa.heap.size, [.int .i64 (a), .int .i64 (b)])] := by rw [hV8]; simp only [OwnL, cellsL]; refine ⟨⟨?_, ?_, ?_, ?_, trivial⟩, trivial⟩ <;> first | (with_reducible assumption) | (simp; omega) | (simp [go_sem]; done) | (simp [go_sem, *]; done) | (intro o; first | (simp [go_sem]; done) | (simp [go_sem, *]; done))
        have hP8 : OwnL V8 [(wb.heap.size, [.int .i64 0, .int .i64 0])] := by rw [hV8]; simp only [OwnL, cellsL]; refine ⟨⟨?_, ?_, ?_, ?_, trivial⟩, trivial⟩ <;> first | (with_reducible assumption) | (simp; omega) | (simp [go_sem]; done) | (simp [go_sem, *]; done) | (intro o; first | (simp [go_sem]; done) | (simp [go_sem, *]; done))
        have hA8 : Ext wr V8 := by rw [hV8]; exact (Below.setCell hA.out (by simp; omega) _).setCell (by simp; omega) _
        clear hV8 fO fP hO hP hA
        have hO := Lib.hid hO8; have hP := Lib.hid hP8; have hA := Lib.hid hA8; clear hO8 hP8 hA8
        ((with_reducible refine plan_step ?_ ?_ ?_ (fun wk k1 => ?_)); rotate_left; (rfl); (first | exact want_none rfl | exact want_some rfl rfl rfl rfl))
        have hA := Lib.hid (hA.out.trans k1)
        have hO := Lib.hid (OwnL.ext k1 hO.out)
        have hP := Lib.hid (OwnL.ext k1 hP.out)
        have fO := hO.out; have fP := hP.out
        simp only [OwnL, cellsL, and_true] at fO fP
        clear k1
        go_simp
        refine ⟨fun _ => ((Below.refl _ _).setCell (by simp; omega) _).setCell (by simp; omega) _, ?_⟩
        try simp only [Act.put, List.setIfInBounds_toArray, List.set_cons_zero, List.set_cons_succ]
        refine at_P (fun V9 hV9 => ?_)
        have hO9 : OwnL V9 [(wa.heap.size, [.int .i64 (a), .int .i64 (b)])] := by rw [hV9]; simp only [OwnL, cellsL]; refine ⟨⟨?_, ?_, ?_, ?_, trivial⟩, trivial⟩ <;> first | (with_reducible assumption) | (simp; omega) | (simp [go_sem]; done) | (simp [go_sem, *]; done) | (intro o; first | (simp [go_sem]; done) | (simp [go_sem, *]; done))
        have hP9 : OwnL V9 [(wb.heap.size, [.int .i64 (c), .int .i64 (d)])] := by rw [hV9]; simp only [OwnL, cellsL]; refine ⟨⟨?_, ?_, ?_, ?_, trivial⟩, trivial⟩ <;> first | (with_reducible assumption) | (simp; omega) | (simp [go_sem]; done) | (simp [go_sem, *]; done) | (intro o; first | (simp [go_sem]; done) | (simp [go_sem, *]; done))
        have hA9 : Ext wr V9 := by rw [hV9]; exact (Below.setCell hA.out (by simp; omega) _).setCell (by simp; omega) _
        clear hV9 fO fP hO hP hA
        refine plan_done (fun w2 k1 => ?_)
        have hF : OwnL w2 [(wa.heap.size, [.int .i64 (a), .int .i64 (b)]), (wb.heap.size, [.int .i64 (c), .int .i64 (d)])] := by
          have f2 := OwnL.ext k1 hO9; have f3 := OwnL.ext k1 hP9
          simp only [OwnL, and_true] at f2 f3 ⊢
          exact ⟨f2, f3⟩
        simp only [OwnL, cellsL, and_true] at hF
        have hB : Below wr.heap.size wr w2 := hA9.trans k1
        have hs := hB.size
        clear hA9 hO9 hP9 k1
        go_wp2_with fail
        refine at_calls (fun W0 hW0 => ?_)
        have hB0 : Below wr.heap.size wr W0 := by rw [hW0]; first | (with_reducible assumption) | (go_grown; done)
        have H0 : OwnL W0 [(wa.heap.size, [.int .i64 (a), .int .i64 (b)]), (wb.heap.size, [.int .i64 (c), .int .i64 (d)])] := by
          rw [hW0]; simp only [OwnL, cellsL]
          refine ⟨⟨?_, ?_, ⟨?_, ?_, trivial⟩⟩, ⟨?_, ?_, ⟨?_, ?_, trivial⟩⟩, trivial⟩
          all_goals first | (with_reducible assumption) | omega | (simp; omega) | (simp [go_sem]; done) | (simp [go_sem, *]; done) | (intro o; first | (simp [go_sem]; done) | (simp [go_sem, *]; done))
        clear hW0 hF hB hs
        (with_reducible refine (T1.out _).mono ?_)
        rintro e w4 ⟨rfl, hb⟩
        have hF := OwnL.ext hb H0
        simp only [OwnL, cellsL, and_true] at hF
        have hB := Ext.from hb hB0 hB0.size
        have hs := hB.size
        clear hb H0 hB0
        go_wp2_with fail
        refine at_calls (fun W0 hW0 => ?_)
        have hB0 : Below wr.heap.size wr W0 := by rw [hW0]; first | (with_reducible assumption) | (go_grown; done)
        have H0 : OwnL W0 [(wa.heap.size, [.int .i64 (a), .int .i64 (b)]), (wb.heap.size, [.int .i64 (c), .int .i64 (d)]), (w4.heap.size, [.int .i64 (p1), .int .i64 (p2)])] := by
          rw [hW0]; simp only [OwnL, cellsL]
          refine ⟨⟨?_, ?_, ⟨?_, ?_, trivial⟩⟩, ⟨?_, ?_, ⟨?_, ?_, trivial⟩⟩, ⟨?_, ?_, ⟨?_, ?_, trivial⟩⟩, trivial⟩
          all_goals first | (with_reducible assumption) | omega | (simp; omega) | (simp [go_sem]; done) | (simp [go_sem, *]; done) | (intro o; first | (simp [go_sem]; done) | (simp [go_sem, *]; done))
        clear hW0 hF hB hs
        (with_reducible refine (T2.out _).mono ?_)
        rintro e w5 ⟨rfl, hb⟩
        have hF := OwnL.ext hb H0
        simp only [OwnL, cellsL, and_true] at hF
        have hB := Ext.from hb hB0 hB0.size
        have hs := hB.size
        clear hb H0 hB0
        go_wp2_with fail
        refine at_calls (fun W0 hW0 => ?_)
        have hB0 : Below wr.heap.size wr W0 := by rw [hW0]; first | (with_reducible assumption) | (go_grown; done)
        have H0 : OwnL W0 [(wa.heap.size, [.int .i64 (a), .int .i64 (b)]), (wb.heap.size, [.int .i64 (c), .int .i64 (d)]), (w4.heap.size, [.int .i64 (p1), .int .i64 (p2)]), (w5.heap.size, [.int .i64 (p1), .int .i64 (p2)])] := by
          rw [hW0]; simp only [OwnL, cellsL]
          refine ⟨⟨?_, ?_, ⟨?_, ?_, trivial⟩⟩, ⟨?_, ?_, ⟨?_, ?_, trivial⟩⟩, ⟨?_, ?_, ⟨?_, ?_, trivial⟩⟩, ⟨?_, ?_, ⟨?_, ?_, trivial⟩⟩, trivial⟩
          all_goals first | (with_reducible assumption) | omega | (simp; omega) | (simp [go_sem]; done) | (simp [go_sem, *]; done) | (intro o; first | (simp [go_sem]; done) | (simp [go_sem, *]; done))
        clear hW0 hF hB hs
        (with_reducible refine (T3.out _).mono ?_)
        rintro e w6 ⟨rfl, hb⟩
        have hF := OwnL.ext hb H0
        simp only [OwnL, cellsL, and_true] at hF
        have hB := Ext.from hb hB0 hB0.size
        have hs := hB.size
        clear hb H0 hB0
        go_wp2_with fail
        refine at_calls (fun W0 hW0 => ?_)
        have hB0 : Below wr.heap.size wr W0 := by rw [hW0]; first | (with_reducible assumption) | (go_grown; done)
        have H0 : OwnL W0 [(wa.heap.size, [.int .i64 (a), .int .i64 (b)]), (wb.heap.size, [.int .i64 (c), .int .i64 (d)]), (w4.heap.size, [.int .i64 (p1), .int .i64 (p2)]), (w5.heap.size, [.int .i64 (p1), .int .i64 (p2)]), (w6.heap.size, [.int .i64 (r1), .int .i64 (r2)])] := by
          rw [hW0]; simp only [OwnL, cellsL]
          refine ⟨⟨?_, ?_, ⟨?_, ?_, trivial⟩⟩, ⟨?_, ?_, ⟨?_, ?_, trivial⟩⟩, ⟨?_, ?_, ⟨?_, ?_, trivial⟩⟩, ⟨?_, ?_, ⟨?_, ?_, trivial⟩⟩, ⟨?_, ?_, ⟨?_, ?_, trivial⟩⟩, trivial⟩
          all_goals first | (with_reducible assumption) | omega | (simp; omega) | (simp [go_sem]; done) | (simp [go_sem, *]; done) | (intro o; first | (simp [go_sem]; done) | (simp [go_sem, *]; done))
        clear hW0 hF hB hs
        (with_reducible refine (T4.out _).mono ?_)
        rintro e w7 ⟨rfl, hb⟩
        have hF := OwnL.ext hb H0
        simp only [OwnL, cellsL, and_true] at hF
        have hB := Ext.from hb hB0 hB0.size
        have hs := hB.size
        clear hb H0 hB0
        go_upto_region 12 with fail
        refine at_world (fun W0 hW0 => ?_)
        have hB0 : Below wr.heap.size wr W0 := by rw [hW0]; first | (with_reducible assumption) | (go_grown; done)
        have H0 : OwnL W0 [(wa.heap.size, [.int .i64 (a), .int .i64 (b)]), (wb.heap.size, [.int .i64 (c), .int .i64 (d)]), (w4.heap.size, [.int .i64 (p1), .int .i64 (p2)]), (w5.heap.size, [.int .i64 (p1), .int .i64 (p2)]), (w6.heap.size, [.int .i64 (r1), .int .i64 (r2)]), (w7.heap.size, [.int .i64 (r1), .int .i64 (r2)])] := by
          rw [hW0]; simp only [OwnL, cellsL]
          refine ⟨⟨?_, ?_, ⟨?_, ?_, trivial⟩⟩, ⟨?_, ?_, ⟨?_, ?_, trivial⟩⟩, ⟨?_, ?_, ⟨?_, ?_, trivial⟩⟩, ⟨?_, ?_, ⟨?_, ?_, trivial⟩⟩, ⟨?_, ?_, ⟨?_, ?_, trivial⟩⟩, ⟨?_, ?_, ⟨?_, ?_, trivial⟩⟩, trivial⟩
          all_goals first | (with_reducible assumption) | omega | (simp; omega) | (simp [go_sem]; done) | (simp [go_sem, *]; done) | (intro o; first | (simp [go_sem]; done) | (simp [go_sem, *]; done))
        clear hW0 hF hB hs
        refine wp_region_lex 27 (by kernel_rfl) (by kernel_rfl) (fun _ _ _ _ _ h => h) ?_
        simp only [List.take_succ_cons, List.take_zero, List.drop_succ_cons, List.drop_zero]
        repeat first | (refine seq_take ?_ (by rfl) (fun wk hb => ?_) ?_; rotate_left; (have hF := OwnL.ext hb H0; simp only [OwnL, cellsL, and_true] at hF; go_simp; first | exact OkX.val | (refine OkX.eqv (OkX.call (T5.out _)) ?_; exact rfl) | (refine OkX.eqv (OkX.call (T6.out _)) ?_; exact rfl)); simp only [Act.put, List.setIfInBounds_toArray, List.set_cons_zero, List.set_cons_succ]) | (refine seq_skip (by rfl) ?_; simp only [Act.put, List.setIfInBounds_toArray, List.set_cons_zero, List.set_cons_succ])
        refine seq_nil (fun w8 hb => ?_)
        have hF := OwnL.ext hb H0
        simp only [OwnL, cellsL, and_true] at hF
        have hB := Ext.from hb hB0 hB0.size
        have hs := hB.size
        clear hb H0 hB0
        clear hF hs T1 T2 T3 T4 T5 T6 hcell
        go_wp2
        go_roundw
        case rel => exact ⟨k + 1, by omega, by go_num, HR.out.ext hB, HE.out.trans hB⟩
        case measure => simp [intOf]; omega
      · skip
        have hA := Lib.hid ((Ext.drew wr).trans ka)
        have zA := hA.out.size
        clear ka
        ((with_reducible refine op_of ?_ ?_ ?_ ?_); rotate_left; (rfl); (first | exact want_none rfl | exact want_some rfl rfl rfl rfl))
        go_simp
        refine ⟨(LBelow_way _).ext ((Below.refl _ _).alloc (Nat.le_refl _) _), fun wb kb => ?_⟩
        have hO := Lib.hid (OwnL.ext kb (show OwnL (wa.alloc (.cells #[.int .i64 0, .int .i64 0] 23)) [(wa.heap.size, [.int .i64 0, .int .i64 0])] by simp only [OwnL, cellsL]; refine ⟨⟨?_, ?_, ?_, ?_, trivial⟩, trivial⟩ <;> first | (simp; done) | (simp [go_sem]; done)))
        have hA := Lib.hid ((hA.out.trans ((Below.refl _ _).alloc (Nat.le_refl _) _)).trans kb)
        have zB : wa.heap.size < wb.heap.size := by have := kb.size; simp at this; omega
        clear kb
        ((with_reducible refine op_of ?_ ?_ ?_ ?_); rotate_left; (rfl); (first | exact want_none rfl | exact want_some rfl rfl rfl rfl))
        go_simp
        refine ⟨(LBelow_way _).ext ((Below.refl _ _).alloc (Nat.le_refl _) _), ?_⟩
        try simp only [Act.put, List.setIfInBounds_toArray, List.set_cons_zero, List.set_cons_succ]
        have hX : Ext wb (wb.alloc (.cells #[.int .i64 0, .int .i64 0] 23)) := (Below.refl _ _).alloc (Nat.le_refl _) _
        have hO := Lib.hid (OwnL.ext hX hO.out)
        have hP := Lib.hid (show OwnL (wb.alloc (.cells #[.int .i64 0, .int .i64 0] 23)) [(wb.heap.size, [.int .i64 0, .int .i64 0])] by simp only [OwnL, cellsL]; refine ⟨⟨?_, ?_, ?_, ?_, trivial⟩, trivial⟩ <;> first | (simp; done) | (simp [go_sem]; done))
        have hA := Lib.hid (hA.out.trans hX)
        clear hX
        ((with_reducible refine plan_step ?_ ?_ ?_ (fun wk k1 => ?_)); rotate_left; (rfl); (first | exact want_none rfl | exact want_some rfl rfl rfl rfl))
        have hA := Lib.hid (hA.out.trans k1)
        have hO := Lib.hid (OwnL.ext k1 hO.out)
        have hP := Lib.hid (OwnL.ext k1 hP.out)
        have fO := hO.out; have fP := hP.out
        simp only [OwnL, cellsL, and_true] at fO fP
        clear k1
        go_simp
        refine ⟨fun _ => ((Below.refl _ _).setCell (by simp; omega) _).setCell (by simp; omega) _, ?_⟩
        try simp only [Act.put, List.setIfInBounds_toArray, List.set_cons_zero, List.set_cons_succ]
        refine at_P (fun V8 hV8 => ?_)
        have hO8 : OwnL V8 [(wa.heap.size, [.int .i64 0, .int .i64 0])] := by rw [hV8]; simp only [OwnL, cellsL]; refine ⟨⟨?_, ?_, ?_, ?_, trivial⟩, trivial⟩ <;> first | (with_reducible assumption) | (simp; omega) | (simp [go_sem]; done) | (simp [go_sem, *]; done) | (intro o; first | (simp [go_sem]; done) | (simp [go_sem, *]; done))
        have hP8 : OwnL V8 [(wb.heap.size, [.int .i64 (a), .int .i64 (b)])] := by rw [hV8]; simp only [OwnL, cellsL]; refine ⟨⟨?_, ?_, ?_, ?_, trivial⟩, trivial⟩ <;> first | (with_reducible assumption) | (simp; omega) | (simp [go_sem]; done) | (simp [go_sem, *]; done) | (intro o; first | (simp [go_sem]; done) | (simp [go_sem, *]; done))
        have hA8 : Ext wr V8 := by rw [hV8]; exact (Below.setCell hA.out (by simp; omega) _).setCell (by simp; omega) _
        clear hV8 fO fP hO hP hA
        have hO := Lib.hid hO8; have hP := Lib.hid hP8; have hA := Lib.hid hA8; clear hO8 hP8 hA8
        ((with_reducible refine plan_step ?_ ?_ ?_ (fun wk k1 => ?_)); rotate_left; (rfl); (first | exact want_none rfl | exact want_some rfl rfl rfl rfl))
        have hA := Lib.hid (hA.out.trans k1)
        have hO := Lib.hid (OwnL.ext k1 hO.out)
        have hP := Lib.hid (OwnL.ext k1 hP.out)
        have fO := hO.out; have fP := hP.out
        simp only [OwnL, cellsL, and_true] at fO fP
        clear k1
        go_simp
        refine ⟨fun _ => ((Below.refl _ _).setCell (by simp; omega) _).setCell (by simp; omega) _, ?_⟩
        try simp only [Act.put, List.setIfInBounds_toArray, List.set_cons_zero, List.set_cons_succ]
        refine at_P (fun V9 hV9 => ?_)
        have hO9 : OwnL V9 [(wa.heap.size, [.int .i64 (c), .int .i64 (d)])] := by rw [hV9]; simp only [OwnL, cellsL]; refine ⟨⟨?_, ?_, ?_, ?_, trivial⟩, trivial⟩ <;> first | (with_reducible assumption) | (simp; omega) | (simp [go_sem]; done) | (simp [go_sem, *]; done) | (intro o; first | (simp [go_sem]; done) | (simp [go_sem, *]; done))
        have hP9 : OwnL V9 [(wb.heap.size, [.int .i64 (a), .int .i64 (b)])] := by rw [hV9]; simp only [OwnL, cellsL]; refine ⟨⟨?_, ?_, ?_, ?_, trivial⟩, trivial⟩ <;> first | (with_reducible assumption) | (simp; omega) | (simp [go_sem]; done) | (simp [go_sem, *]; done) | (intro o; first | (simp [go_sem]; done) | (simp [go_sem, *]; done))
        have hA9 : Ext wr V9 := by rw [hV9]; exact (Below.setCell hA.out (by simp; omega) _).setCell (by simp; omega) _
        clear hV9 fO fP hO hP hA
        refine plan_done (fun w2 k1 => ?_)
        have hF : OwnL w2 [(wa.heap.size, [.int .i64 (c), .int .i64 (d)]), (wb.heap.size, [.int .i64 (a), .int .i64 (b)])] := by
          have f2 := OwnL.ext k1 hO9; have f3 := OwnL.ext k1 hP9
          simp only [OwnL, and_true] at f2 f3 ⊢
          exact ⟨f2, f3⟩
        simp only [OwnL, cellsL, and_true] at hF
        have hB : Below wr.heap.size wr w2 := hA9.trans k1
        have hs := hB.size
        clear hA9 hO9 hP9 k1
        go_wp2_with fail
        refine at_calls (fun W0 hW0 => ?_)
        have hB0 : Below wr.heap.size wr W0 := by rw [hW0]; first | (with_reducible assumption) | (go_grown; done)
        have H0 : OwnL W0 [(wa.heap.size, [.int .i64 (c), .int .i64 (d)]), (wb.heap.size, [.int .i64 (a), .int .i64 (b)])] := by
          rw [hW0]; simp only [OwnL, cellsL]
          refine ⟨⟨?_, ?_, ⟨?_, ?_, trivial⟩⟩, ⟨?_, ?_, ⟨?_, ?_, trivial⟩⟩, trivial⟩
          all_goals first | (with_reducible assumption) | omega | (simp; omega) | (simp [go_sem]; done) | (simp [go_sem, *]; done) | (intro o; first | (simp [go_sem]; done) | (simp [go_sem, *]; done))
        clear hW0 hF hB hs
        (with_reducible refine (T1.out _).mono ?_)
        rintro e w4 ⟨rfl, hb⟩
        have hF := OwnL.ext hb H0
        simp only [OwnL, cellsL, and_true] at hF
        have hB := Ext.from hb hB0 hB0.size
        have hs := hB.size
        clear hb H0 hB0
        go_wp2_with fail
        refine at_calls (fun W0 hW0 => ?_)
        have hB0 : Below wr.heap.size wr W0 := by rw [hW0]; first | (with_reducible assumption) | (go_grown; done)
        have H0 : OwnL W0 [(wa.heap.size, [.int .i64 (c), .int .i64 (d)]), (wb.heap.size, [.int .i64 (a), .int .i64 (b)]), (w4.heap.size, [.int .i64 (p1), .int .i64 (p2)])] := by
          rw [hW0]; simp only [OwnL, cellsL]
          refine ⟨⟨?_, ?_, ⟨?_, ?_, trivial⟩⟩, ⟨?_, ?_, ⟨?_, ?_, trivial⟩⟩, ⟨?_, ?_, ⟨?_, ?_, trivial⟩⟩, trivial⟩
          all_goals first | (with_reducible assumption) | omega | (simp; omega) | (simp [go_sem]; done) | (simp [go_sem, *]; done) | (intro o; first | (simp [go_sem]; done) | (simp [go_sem, *]; done))
        clear hW0 hF hB hs
        (with_reducible refine (T2.out _).mono ?_)
        rintro e w5 ⟨rfl, hb⟩
        have hF := OwnL.ext hb H0
        simp only [OwnL, cellsL, and_true] at hF
        have hB := Ext.from hb hB0 hB0.size
        have hs := hB.size
        clear hb H0 hB0
        go_wp2_with fail
        refine at_calls (fun W0 hW0 => ?_)
        have hB0 : Below wr.heap.size wr W0 := by rw [hW0]; first | (with_reducible assumption) | (go_grown; done)
        have H0 : OwnL W0 [(wa.heap.size, [.int .i64 (c), .int .i64 (d)]), (wb.heap.size, [.int .i64 (a), .int .i64 (b)]), (w4.heap.size, [.int .i64 (p1), .int .i64 (p2)]), (w5.heap.size, [.int .i64 (p1), .int .i64 (p2)])] := by
          rw [hW0]; simp only [OwnL, cellsL]
          refine ⟨⟨?_, ?_, ⟨?_, ?_, trivial⟩⟩, ⟨?_, ?_, ⟨?_, ?_, trivial⟩⟩, ⟨?_, ?_, ⟨?_, ?_, trivial⟩⟩, ⟨?_, ?_, ⟨?_, ?_, trivial⟩⟩, trivial⟩
          all_goals first | (with_reducible assumption) | omega | (simp; omega) | (simp [go_sem]; done) | (simp [go_sem, *]; done) | (intro o; first | (simp [go_sem]; done) | (simp [go_sem, *]; done))
        clear hW0 hF hB hs
        (with_reducible refine (T3.out _).mono ?_)
        rintro e w6 ⟨rfl, hb⟩
        have hF := OwnL.ext hb H0
        simp only [OwnL, cellsL, and_true] at hF
        have hB := Ext.from hb hB0 hB0.size
        have hs := hB.size
        clear hb H0 hB0
        go_wp2_with fail
        refine at_calls (fun W0 hW0 => ?_)
        have hB0 : Below wr.heap.size wr W0 := by rw [hW0]; first | (with_reducible assumption) | (go_grown; done)
        have H0 : OwnL W0 [(wa.heap.size, [.int .i64 (c), .int .i64 (d)]), (wb.heap.size, [.int .i64 (a), .int .i64 (b)]), (w4.heap.size, [.int .i64 (p1), .int .i64 (p2)]), (w5.heap.size, [.int .i64 (p1), .int .i64 (p2)]), (w6.heap.size, [.int .i64 (r1), .int .i64 (r2)])] := by
          rw [hW0]; simp only [OwnL, cellsL]
          refine ⟨⟨?_, ?_, ⟨?_, ?_, trivial⟩⟩, ⟨?_, ?_, ⟨?_, ?_, trivial⟩⟩, ⟨?_, ?_, ⟨?_, ?_, trivial⟩⟩, ⟨?_, ?_, ⟨?_, ?_, trivial⟩⟩, ⟨?_, ?_, ⟨?_, ?_, trivial⟩⟩, trivial⟩
          all_goals first | (with_reducible assumption) | omega | (simp; omega) | (simp [go_sem]; done) | (simp [go_sem, *]; done) | (intro o; first | (simp [go_sem]; done) | (simp [go_sem, *]; done))
        clear hW0 hF hB hs
        (with_reducible refine (T4.out _).mono ?_)
        rintro e w7 ⟨rfl, hb⟩
        have hF := OwnL.ext hb H0
        simp only [OwnL, cellsL, and_true] at hF
        have hB := Ext.from hb hB0 hB0.size
        have hs := hB.size
        clear hb H0 hB0
        go_upto_region 12 with fail
        refine at_world (fun W0 hW0 => ?_)
        have hB0 : Below wr.heap.size wr W0 := by rw [hW0]; first | (with_reducible assumption) | (go_grown; done)
        have H0 : OwnL W0 [(wa.heap.size, [.int .i64 (c), .int .i64 (d)]), (wb.heap.size, [.int .i64 (a), .int .i64 (b)]), (w4.heap.size, [.int .i64 (p1), .int .i64 (p2)]), (w5.heap.size, [.int .i64 (p1), .int .i64 (p2)]), (w6.heap.size, [.int .i64 (r1), .int .i64 (r2)]), (w7.heap.size, [.int .i64 (r1), .int .i64 (r2)])] := by
          rw [hW0]; simp only [OwnL, cellsL]
          refine ⟨⟨?_, ?_, ⟨?_, ?_, trivial⟩⟩, ⟨?_, ?_, ⟨?_, ?_, trivial⟩⟩, ⟨?_, ?_, ⟨?_, ?_, trivial⟩⟩, ⟨?_, ?_, ⟨?_, ?_, trivial⟩⟩, ⟨?_, ?_, ⟨?_, ?_, trivial⟩⟩, ⟨?_, ?_, ⟨?_, ?_, trivial⟩⟩, trivial⟩
          all_goals first | (with_reducible assumption) | omega | (simp; omega) | (simp [go_sem]; done) | (simp [go_sem, *]; done) | (intro o; first | (simp [go_sem]; done) | (simp [go_sem, *]; done))
        clear hW0 hF hB hs
        refine wp_region_lex 27 (by kernel_rfl) (by kernel_rfl) (fun _ _ _ _ _ h => h) ?_
        simp only [List.take_succ_cons, List.take_zero, List.drop_succ_cons, List.drop_zero]
        repeat first | (refine seq_take ?_ (by rfl) (fun wk hb => ?_) ?_; rotate_left; (have hF := OwnL.ext hb H0; simp only [OwnL, cellsL, and_true] at hF; go_simp; first | exact OkX.val | (refine OkX.eqv (OkX.call (T5.out _)) ?_; exact rfl) | (refine OkX.eqv (OkX.call (T6.out _)) ?_; exact rfl)); simp only [Act.put, List.setIfInBounds_toArray, List.set_cons_zero, List.set_cons_succ]) | (refine seq_skip (by rfl) ?_; simp only [Act.put, List.setIfInBounds_toArray, List.set_cons_zero, List.set_cons_succ])
        refine seq_nil (fun w8 hb => ?_)
        have hF := OwnL.ext hb H0
        simp only [OwnL, cellsL, and_true] at hF
        have hB := Ext.from hb hB0 hB0.size
        have hs := hB.size
        clear hb H0 hB0
        clear hF hs T1 T2 T3 T4 T5 T6 hcell
        go_wp2
        go_roundw
        case rel => exact ⟨k + 1, by omega, by go_num, HR.out.ext hB, HE.out.trans hB⟩
        case measure => simp [intOf]; omega
    · go_wp2
      go_ret
      exact ⟨by simp, HE.out⟩

theorem own : ownKnob Try.prog.godebug = none := by kernel_rfl
theorem cellsVec : Try.prog.cellsOf 23 = 2 := by kernel_rfl
set_option maxRecDepth 100000 in
theorem lifted (os : Os) (started : os.Started) (H : Type) (enc : TypeId × Value → H) :
    ReturnsInHanded {} Try.checked os 3 .any (Rows.rvecSumsSpec.pre6 enc Try.prog Try.f3 Rows.rvecSumsRow.domain false) (Rows.rvecSumsSpec.post enc Try.prog Try.f3 false true false false) := by
  refine returnsInHanded_of_change (C := Try.checked) own started (by kernel_rfl) Try.func3
    (ChangeSpec.witness6 (enc := enc) (C := Try.checked) false ⟨#[], #[.agg #[.int .i64 0, .int .i64 0], .agg #[.int .i64 0, .int .i64 0], .int .i64 0], []⟩ 8 (by kernel_rfl) (by kernel_rfl) (by kernel_rfl) (by kernel_rfl)) ?_
  intro W base args ds gs before hval0 hW hcnd _
  have hval : ∀ (j : Nat) t v, Try.f3.params[j]? = some t → args[j]? = some v → Value.okWide Try.prog W .any base t v := hval0
  have hW' := hW
  obtain ⟨p, q, hA0, hV, rfl, hfz, hnd⟩ := hW
  have hA : DataW.TrodAll enc Try.prog W 0 (fun _ => true) true Try.f3.params.toList args.toList ds p := hA0
  rw [Try.params3] at hA hval
  obtain ⟨v0, vs0, d0, ds0, p0, q0, hargs, rfl, rfl, h0, r0⟩ := trodAll_cons hA
  obtain ⟨v1, vs1, d1, ds1, p1, q1, rfl, rfl, rfl, h1, r1⟩ := trodAll_cons r0
  obtain ⟨v2, vs2, d2, ds2, p2, q2, rfl, rfl, rfl, h2, r2⟩ := trodAll_cons r1
  obtain ⟨rfl, rfl, rfl⟩ := trodAll_nil r2
  obtain rfl : args = #[v0, v1, v2] := by cases args; simp_all
  obtain ⟨rfl, rfl⟩ := trodVars_none hV
  obtain ⟨c0, e0, y0, z0, m0, rfl, rfl, rfl, hy0, hz0⟩ := open_agg2 Try.underlying23 (by kernel_rfl) cellsVec (hval 0 23 v0 rfl rfl) h0
  obtain ⟨a0, ea0, rfl, wa0⟩ := DataW.trod_int Try.underlying3 hy0
  obtain ⟨b0, eb0, rfl, wb0⟩ := DataW.trod_int Try.underlying3 hz0
  simp at ea0 eb0
  subst ea0 eb0
  obtain ⟨c1, e1, y1, z1, m1, rfl, rfl, rfl, hy1, hz1⟩ := open_agg2 Try.underlying23 (by kernel_rfl) cellsVec (hval 1 23 v1 rfl rfl) h1
  obtain ⟨a1, ea1, rfl, wa1⟩ := DataW.trod_int Try.underlying3 hy1
  obtain ⟨b1, eb1, rfl, wb1⟩ := DataW.trod_int Try.underlying3 hz1
  simp at ea1 eb1
  subst ea1 eb1
  obtain ⟨a2, rfl, rfl, rfl, w2⟩ := open_int Try.underlying3 (hval 2 3 v2 rfl rfl) h2
  clear hA0 hval0
  have structReads0 : ∀ (W' : World) (sp : Nat → Bool), DataW.Trod enc Try.prog W' 0 sp true 23 (.agg #[.int .i64 a0, .int .i64 b0]) (.agg [.lit (.int .i64 a0), .lit (.int .i64 b0)]) [] := fun W' sp =>
    shut_agg2 (y0 := (.lit (.int .i64 a0), [])) (y1 := (.lit (.int .i64 b0), [])) Try.underlying23 (by kernel_rfl) cellsVec ⟨1, by simp [DataW.trod, Try.underlying3, wa0]⟩ ⟨1, by simp [DataW.trod, Try.underlying3, wb0]⟩
  have structReads1 : ∀ (W' : World) (sp : Nat → Bool), DataW.Trod enc Try.prog W' 0 sp true 23 (.agg #[.int .i64 a1, .int .i64 b1]) (.agg [.lit (.int .i64 a1), .lit (.int .i64 b1)]) [] := fun W' sp =>
    shut_agg2 (y0 := (.lit (.int .i64 a1), [])) (y1 := (.lit (.int .i64 b1), [])) Try.underlying23 (by kernel_rfl) cellsVec ⟨1, by simp [DataW.trod, Try.underlying3, wa1]⟩ ⟨1, by simp [DataW.trod, Try.underlying3, wb1]⟩
  refine (walk a0 b0 wa0 wb0 a1 b1 wa1 wb1 a2 w2 W).mono fun e W' ⟨he, bel⟩ => ?_
  subst he
  exact ⟨_, rfl, _, _, _, [], _, [], hW', trodAll_mk1 (shut_bool Try.underlying4 _), (trodAll_cons_mk (structReads0 W' _) (trodAll_cons_mk (structReads1 W' _) (trodAll_cons_mk (shut_int Try.underlying3 w2) trodAll_mk0))), rfl, bel.frame _, fun h => by cases h⟩

theorem over : Rows.rvecSumsRow.holds Try.pinned (OpenSpec.ofChange Rows.rvecSumsSpec) :=
  OpenClaim.holds_of_wide 3 Try.f3 rfl rfl rfl rfl rfl rfl rfl ⟨rfl, rfl, rfl, rfl, rfl⟩ rfl rfl rfl rfl rfl (by kernel_rfl) Try.func3 (by kernel_rfl)
    (of_decide_eq_true (by kernel_rfl)) (by unfold Func.isWrapper; first | (rw [if_pos (by decide +kernel)]; kernel_rfl) | (rw [if_neg (by decide +kernel)]; exact ⟨rfl, rfl⟩))
    (fun os started H enc _ => lifted os started H enc)

theorem proved : Rows.RvecSumsSaid := over
#print axioms proved

end Go.Proofs.Ytlifgdhieelihaa.RvecSums
