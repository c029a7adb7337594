/- The law AsksPlay holds at every input: whatever is set, taken, and missed, a list is what the document says, and so is what is pending. No condition. -/
import Derived.Test.YtbocpkdnlpobkaaAkG
import Derived.Test.YtbocpkdnlpobkaaAkO
import Derived.Test.YtbocpkdnlpobkaaAkQ
import Derived.Test.YtbocpkdnlpobkaaAkR2
import Derived.Test.YtbocpkdnlpobkaaAkR3
import Derived.ChangeSlices
import Derived.OpenShut
import Derived.ChangeOld
import Derived.ChangeSame
import Derived.ChangeMaps
import Derived.JoinedOf
import Derived.JoinedAt
import Derived.RowKit3
import Derived.Lib.SmallJoins
namespace Go.Proofs.Ytbocpkdnlpobkaa.AsksPlay
open Go.ChangeShapes Go.WideShapes Go.ChangeAt Go.RowKit Go.Joins

theorem hdA_of {w : World} {B n : Nat} {v : Value} {ds : List AD} (h : w.ownsRow B 25 8 v n (acells ds)) (hn : n = ds.length) : HdA w v ds := by subst hn; exact Hd.of_own h
theorem good_count (a : AD) : 0 ≤ (goodA a).count ∧ (goodA a).count ≤ 5 := by unfold goodA; simp only; omega
theorem setL_two (ds : List AD) (a : AD) : (setE ds a = 0 ∧ setL ds a = setA ds a ∧ (setA ds a).length ≤ 8) ∨ (setE ds a = 4 ∧ setL ds a = []) := by
  unfold setE setL
  by_cases h : (setA ds a).length > 8
  · right; rw [if_pos h, if_pos h]; exact ⟨rfl, rfl⟩
  · left; rw [if_neg h, if_neg h]; exact ⟨rfl, rfl, by omega⟩
theorem takeA_len {ds : List AD} (hs : SrtA ds) (p : Int) : (takeA ds p).length ≤ ds.length := by
  cases hh : hasA p ds with
  | false => unfold takeA; rw [hh]; exact Nat.le_refl _
  | true =>
    obtain ⟨k, hk, rfl⟩ := hasA_idx hh
    unfold takeA
    rw [hh, if_pos rfl, getA_at hs k hk]
    unfold putA midA
    rw [show ({ ds[k] with count := ds[k].count - 1, missed := 0 } : AD).prio = ds[k].prio from rfl, lowA_at hs k hk, highA_at hs k hk]
    have := (setOne_ok { ds[k] with count := ds[k].count - 1, missed := 0 }).1
    rw [List.length_append, List.length_append, List.length_take, List.length_drop]
    omega

set_option maxRecDepth 100000 in
set_option maxHeartbeats 12800000 in
theorem walk (w : World) (v : Value) (N : Nat) (f : Nat → Nat → Int) (r0 : RdS 8 w v N f) (u : Value) (ls : List Int) (r1 : Rd w u (ls.map (Value.int .i64))) (_ : ∀ x ∈ ls, (Lit.int .i64 x).wf = true) :
    Calls Try.prog 4 #[v, u] w fun e w' => e = .returned (.bool true) ∧ Below w.heap.size w w' := by
  obtain ⟨A, c, rfl, hc1, hc2, hcell⟩ := r0
  unfold maxLen at hc2
  have HC := Lib.hid hcell
  obtain ⟨A', M, c', rfl, hM, hc1', hc2', hcell'⟩ := ints_open r1
  have HC' := Lib.hid hcell'
  have HM := Lib.hid hM
  clear hcell hcell' r1 hM
  go_enter Try.func4, Try.ntmps4
  go_wp2_with fail
  (with_reducible refine (known9_any _).mono ?_)
  rintro e w1 ⟨rfl, hx1⟩
  have X1 := Lib.hid hx1
  clear hx1
  go_wp2
  go_loopw [5, 6, 7] (fun va vb i wr => ∃ (k : Nat) (ds : List AD), k ≤ N ∧ k ≤ M ∧ k ≤ 60 ∧ i = .int .i64 k ∧ wr.ownsRow w.heap.size 25 8 va ds.length (acells ds) ∧ wr.ownsRow w.heap.size 25 8 vb ds.length (acells ds) ∧ SrtA ds ∧ OkA ds ∧ ds.length ≤ 8 ∧ Ext w wr) (fun _ _ i _ => 60 - (intOf i).toNat)
  case atStart => exact ⟨0, [], by omega, by omega, by omega, rfl, World.ownsRow_nil _ _ _ 8, World.ownsRow_nil _ _ _ 8, List.Pairwise.nil, OkA.nil, by simp, X1.out⟩
  case round =>
    obtain ⟨k, ds, hkN, hkM, hk60, rfl, hoa, hob, hsr, hok, hl8, hx⟩ := hrel
    have HX := Lib.hid hx
    have HSR := Lib.hid hsr
    have HOK := Lib.hid hok
    have HL8 := Lib.hid hl8
    obtain ⟨n, hn⟩ : ∃ n, n = ds.length := ⟨_, rfl⟩
    rw [← hn] at hoa hob
    obtain ⟨Aa, ca, rfl, ha1, ha2⟩ := own_shape hoa
    obtain ⟨Ab, cb, rfl, hb1, hb2⟩ := own_shape hob
    have HNN := Lib.hid hn
    have HOA := Lib.hid hoa
    have HOB := Lib.hid hob
    have hn8 : n ≤ 8 := by omega
    clear hx hsr hok hl8 hoa hob hn
    have k0 : (0 : Int) ≤ (k : Int) := by omega
    by_cases hlt : k < N
    case neg =>
      obtain rfl : k = N := by omega
      have k1 : ¬ (k : Int) < (k : Int) := by omega
      go_wp2
      go_ret
      exact ⟨rfl, HX.out⟩
    by_cases hlt2 : k < M
    case neg =>
      obtain rfl : k = M := by omega
      have k1 : (k : Int) < (N : Int) := by omega
      have k2 : ¬ (k : Int) < (k : Int) := by omega
      go_wp2
      go_ret
      exact ⟨rfl, HX.out⟩
    by_cases hlt3 : k < 60
    case neg =>
      obtain rfl : k = 60 := by omega
      have k1 : (((60 : Nat) : Int)) < (N : Int) := by omega
      have k2 : (((60 : Nat) : Int)) < (M : Int) := by omega
      go_wp2
      go_ret
      exact ⟨rfl, HX.out⟩
    have k1 : (k : Int) < (N : Int) := by omega
    have k2 : (k : Int) < (M : Int) := by omega
    have k3 : (k : Int) < 60 := by omega
    have HK1 := Lib.hid (show k + 1 ≤ N ∧ k + 1 ≤ M ∧ k + 1 ≤ 60 by omega)
    obtain ⟨a, rfl, hb, hcs⟩ := HC.out (by omega)
    obtain ⟨q0, q1, q2, q3, q4, q5, q6, q7⟩ := ask_cells (fun j hj => HX.out.cell' (hcs k hlt j hj))
    obtain ⟨a', rfl, hb', hcs'⟩ := HC'.out (by omega)
    have q8 := HX.out.cell' (hcs' k (by have := HM.out; omega))
    obtain ⟨z, hz⟩ : ∃ z, z = ls[k]'(by have := HM.out; omega) := ⟨_, rfl⟩
    rw [← hz] at q8
    have HGD := Lib.hid (fun W => good_any ⟨f k 0, f k 1, f k 2, f k 3, f k 4, f k 5, f k 6, f k 7⟩ W)
    have HGC := Lib.hid (good_count ⟨f k 0, f k 1, f k 2, f k 3, f k 4, f k 5, f k 6, f k 7⟩)
    obtain ⟨x0, e0⟩ : ∃ x, x = f k 0 := ⟨_, rfl⟩
    obtain ⟨x1, e1⟩ : ∃ x, x = f k 1 := ⟨_, rfl⟩
    obtain ⟨x2, e2⟩ : ∃ x, x = f k 2 := ⟨_, rfl⟩
    obtain ⟨x3, e3⟩ : ∃ x, x = f k 3 := ⟨_, rfl⟩
    obtain ⟨x4, e4⟩ : ∃ x, x = f k 4 := ⟨_, rfl⟩
    obtain ⟨x5, e5⟩ : ∃ x, x = f k 5 := ⟨_, rfl⟩
    obtain ⟨x6, e6⟩ : ∃ x, x = f k 6 := ⟨_, rfl⟩
    obtain ⟨x7, e7⟩ : ∃ x, x = f k 7 := ⟨_, rfl⟩
    rw [← e0] at q0 HGD HGC
    rw [← e1] at q1 HGD HGC
    rw [← e2] at q2 HGD HGC
    rw [← e3] at q3 HGD HGC
    rw [← e4] at q4 HGD HGC
    rw [← e5] at q5 HGD HGC
    rw [← e6] at q6 HGD HGC
    rw [← e7] at q7 HGD HGC
    clear e0 e1 e2 e3 e4 e5 e6 e7 hz hcs hcs'
    obtain ⟨g, hg⟩ : ∃ g, g = goodA ⟨x0, x1, x2, x3, x4, x5, x6, x7⟩ := ⟨_, rfl⟩
    rw [← hg] at HGD HGC
    clear hg
    obtain ⟨g0, g1, g2, g3, g4, g5, g6, g7⟩ := g
    simp only [askV] at HGD HGC
    have HW4 := Lib.hid (fun W => within9_some z 4 4 W rfl ⟨by omega, by omega⟩)
    go_wp2_with fail
    (with_reducible refine (HGD.out _).mono ?_)
    rintro e w2 ⟨rfl, hx2⟩
    have q8 := hx2.cell' q8
    clear q0 q1 q2 q3 q4 q5 q6 q7
    go_upto_region 8 with fail
    refine at_world (fun W3 hW3 => ?_)
    have HB3 := Lib.hid (show W3.heap[w2.heap.size]? = some (.cells #[.int .i64 g0, .int .i64 g1, .int .i64 g2, .int .i64 g3, .int .i64 g4, .int .i64 g5, .int .i64 g6, .int .i64 g7] 25 (0, 0)) by rw [hW3]; exact heap_alloc_new w2 _)
    have XR3 := Lib.hid (show Ext wr W3 by rw [hW3]; exact hx2.trans (ext_alloc _ _))
    have q8 := (show Ext w2 W3 by rw [hW3]; exact ext_alloc _ _).cell' q8
    have X3 := Lib.hid (HX.out.trans XR3.out)
    have HOA3 := Lib.hid (own_ExtK HOA.out XR3.out)
    have HOB3 := Lib.hid (own_ExtK HOB.out XR3.out)
    obtain ⟨B, hB⟩ : ∃ B, B = w2.heap.size := ⟨_, rfl⟩
    rw [← hB] at HB3 ⊢
    clear hW3 hB hx2 HOA HOB HX
    go_wp2_with fail
    (with_reducible refine (HW4.out _).mono ?_)
    rintro e w4 ⟨y, rfl, _, hy, rfl⟩
    clear q8
    have c0 := bcel HB3.out 0 (.int .i64 g0) rfl
    have c1 := bcel HB3.out 1 (.int .i64 g1) rfl
    have c2 := bcel HB3.out 2 (.int .i64 g2) rfl
    have c3 := bcel HB3.out 3 (.int .i64 g3) rfl
    have c4 := bcel HB3.out 4 (.int .i64 g4) rfl
    have c5 := bcel HB3.out 5 (.int .i64 g5) rfl
    have c6 := bcel HB3.out 6 (.int .i64 g6) rfl
    have c7 := bcel HB3.out 7 (.int .i64 g7) rfl
    have hcase : y = 0 ∨ y = 1 ∨ y = 2 ∨ y = 3 := by omega
    rcases hcase with rfl | rfl | rfl | rfl
    case' inl =>
      have HS1 := Set_any ds (.slice Aa n ca) ⟨g0, g1, g2, g3, g4, g5, g6, g7⟩ W3 (hdA_of HOA3.out HNN.out) (by have := HL8.out; omega) HSR.out
      have HS1 := Lib.hid HS1
      have HS2 := Lib.hid (fun W (x : Ext W3 W) => rSet_any ds (.slice Ab n cb) ⟨g0, g1, g2, g3, g4, g5, g6, g7⟩ W (hdA_of (own_ExtK HOB3.out x) HNN.out) (by have := HL8.out; omega) HSR.out)
      have HTW := Lib.hid (setL_two ds ⟨g0, g1, g2, g3, g4, g5, g6, g7⟩)
      have HSL := Lib.hid (HSR.out.setL ⟨g0, g1, g2, g3, g4, g5, g6, g7⟩)
      have HKL := Lib.hid (HOK.out.setL (a := ⟨g0, g1, g2, g3, g4, g5, g6, g7⟩) ⟨HGC.out.1, by have := HGC.out.2; simp only at this ⊢; omega⟩)
      obtain ⟨SE, hSE⟩ : ∃ SE, SE = setE ds ⟨g0, g1, g2, g3, g4, g5, g6, g7⟩ := ⟨_, rfl⟩
      obtain ⟨SL, hSL⟩ : ∃ SL, SL = setL ds ⟨g0, g1, g2, g3, g4, g5, g6, g7⟩ := ⟨_, rfl⟩
      rw [← hSE] at HS1 HS2 HTW
      rw [← hSL] at HS1 HS2 HTW HSL HKL
      clear hSE hSL
      simp only [askV] at HS1 HS2
      go_wp2_with fail
      (with_reducible refine (HS1.out).mono ?_)
      rintro e w5 ⟨vp, rfl, hop, hx5⟩
      obtain ⟨np, hnp⟩ : ∃ np, np = SL.length := ⟨_, rfl⟩
      rw [← hnp] at hop
      have HNP := Lib.hid hnp
      clear hnp
      obtain ⟨Ap, cp, rfl, hp1, hp2⟩ := own_shape hop
      have HOP := Lib.hid (own_lower hop X3.out.size)
      have X5 := Lib.hid hx5
      have HB5 := Lib.hid (ext_blk hx5 HB3.out)
      clear c0 c1 c2 c3 c4 c5 c6 c7 hop hx5 HS1
      have c0 := bcel HB5.out 0 (.int .i64 g0) rfl
      have c1 := bcel HB5.out 1 (.int .i64 g1) rfl
      have c2 := bcel HB5.out 2 (.int .i64 g2) rfl
      have c3 := bcel HB5.out 3 (.int .i64 g3) rfl
      have c4 := bcel HB5.out 4 (.int .i64 g4) rfl
      have c5 := bcel HB5.out 5 (.int .i64 g5) rfl
      have c6 := bcel HB5.out 6 (.int .i64 g6) rfl
      have c7 := bcel HB5.out 7 (.int .i64 g7) rfl
      go_wp2_with fail
      (with_reducible refine (HS2.out _ X5.out).mono ?_)
      rintro e w6 ⟨vq, rfl, hoq, hx6⟩
      rw [← HNP.out] at hoq
      obtain ⟨Aq, cq, rfl, hq1, hq2⟩ := own_shape hoq
      have X6 := Lib.hid ((X3.out.trans X5.out).trans hx6)
      have HOQ := Lib.hid (own_lower hoq (X3.out.trans X5.out).size)
      have HOP6 := Lib.hid (own_ExtK HOP.out hx6)
      have HOA6 := Lib.hid (own_ExtK HOA3.out (X5.out.trans hx6))
      have HOB6 := Lib.hid (own_ExtK HOB3.out (X5.out.trans hx6))
      clear c0 c1 c2 c3 c4 c5 c6 c7 hoq hx6 HS2
      have tse : (SE != SE) = false := by simp
      rcases HTW.out with ⟨h1, h2, h3⟩ | ⟨h1, h2⟩
      case' inl =>
        subst h1
        have HSA := Lib.hid (And.intro h2 h3)
        clear h2 h3 HTW
        go_upto_region 25 with fail
        refine at_world (fun W9 hW9 => ?_)
        obtain ⟨ds2, m, A1, c1, A2, c2, hd2⟩ : ∃ ds2 m A1 c1 A2 c2, ds2 = SL ∧ m = np ∧ A1 = Ap ∧ c1 = cp ∧ A2 = Aq ∧ c2 = cq := ⟨_, _, _, _, _, _, rfl, rfl, rfl, rfl, rfl, rfl⟩
        obtain ⟨rfl, rfl, rfl, rfl, rfl, rfl⟩ := hd2
        have HF1 := Lib.hid (show W9.ownsRow w.heap.size 25 8 (.slice A1 m c1) m (acells ds2) by rw [hW9]; exact HOP6.out)
        have HF2 := Lib.hid (show W9.ownsRow w.heap.size 25 8 (.slice A2 m c2) m (acells ds2) by rw [hW9]; exact HOQ.out)
        have HF3 := Lib.hid (show Ext w W9 by rw [hW9]; exact X6.out)
        have HF4 := Lib.hid (show m = ds2.length ∧ SrtA ds2 ∧ OkA ds2 ∧ ds2.length ≤ 8 from ⟨HNP.out, HSL.out, HKL.out, by rw [HSA.out.1]; exact HSA.out.2⟩)
        clear hW9
      case' inr =>
        subst h1
        subst h2
        obtain rfl : np = 0 := HNP.out
        clear HTW
        go_upto_region 25 with fail
        refine at_world (fun W9 hW9 => ?_)
        obtain ⟨ds2, m, A1, c1, A2, c2, hd2⟩ : ∃ ds2 m A1 c1 A2 c2, ds2 = ds ∧ m = n ∧ A1 = Aa ∧ c1 = ca ∧ A2 = Ab ∧ c2 = cb := ⟨_, _, _, _, _, _, rfl, rfl, rfl, rfl, rfl, rfl⟩
        obtain ⟨rfl, rfl, rfl, rfl, rfl, rfl⟩ := hd2
        have HF1 := Lib.hid (show W9.ownsRow w.heap.size 25 8 (.slice A1 m c1) m (acells ds2) by rw [hW9]; exact HOA6.out)
        have HF2 := Lib.hid (show W9.ownsRow w.heap.size 25 8 (.slice A2 m c2) m (acells ds2) by rw [hW9]; exact HOB6.out)
        have HF3 := Lib.hid (show Ext w W9 by rw [hW9]; exact X6.out)
        have HF4 := Lib.hid (show m = ds2.length ∧ SrtA ds2 ∧ OkA ds2 ∧ ds2.length ≤ 8 from ⟨HNN.out, HSR.out, HOK.out, HL8.out⟩)
        clear hW9
    case' inr.inl =>
      have HS1 := Set_any ds (.slice Aa n ca) ⟨g0, g1, g2, g3, g4, g5, g6, g7⟩ W3 (hdA_of HOA3.out HNN.out) (by have := HL8.out; omega) HSR.out
      have HS1 := Lib.hid HS1
      have HS2 := Lib.hid (fun W (x : Ext W3 W) => rSet_any ds (.slice Ab n cb) ⟨g0, g1, g2, g3, g4, g5, g6, g7⟩ W (hdA_of (own_ExtK HOB3.out x) HNN.out) (by have := HL8.out; omega) HSR.out)
      have HTW := Lib.hid (setL_two ds ⟨g0, g1, g2, g3, g4, g5, g6, g7⟩)
      have HSL := Lib.hid (HSR.out.setL ⟨g0, g1, g2, g3, g4, g5, g6, g7⟩)
      have HKL := Lib.hid (HOK.out.setL (a := ⟨g0, g1, g2, g3, g4, g5, g6, g7⟩) ⟨HGC.out.1, by have := HGC.out.2; simp only at this ⊢; omega⟩)
      obtain ⟨SE, hSE⟩ : ∃ SE, SE = setE ds ⟨g0, g1, g2, g3, g4, g5, g6, g7⟩ := ⟨_, rfl⟩
      obtain ⟨SL, hSL⟩ : ∃ SL, SL = setL ds ⟨g0, g1, g2, g3, g4, g5, g6, g7⟩ := ⟨_, rfl⟩
      rw [← hSE] at HS1 HS2 HTW
      rw [← hSL] at HS1 HS2 HTW HSL HKL
      clear hSE hSL
      simp only [askV] at HS1 HS2
      go_wp2_with fail
      (with_reducible refine (HS1.out).mono ?_)
      rintro e w5 ⟨vp, rfl, hop, hx5⟩
      obtain ⟨np, hnp⟩ : ∃ np, np = SL.length := ⟨_, rfl⟩
      rw [← hnp] at hop
      have HNP := Lib.hid hnp
      clear hnp
      obtain ⟨Ap, cp, rfl, hp1, hp2⟩ := own_shape hop
      have HOP := Lib.hid (own_lower hop X3.out.size)
      have X5 := Lib.hid hx5
      have HB5 := Lib.hid (ext_blk hx5 HB3.out)
      clear c0 c1 c2 c3 c4 c5 c6 c7 hop hx5 HS1
      have c0 := bcel HB5.out 0 (.int .i64 g0) rfl
      have c1 := bcel HB5.out 1 (.int .i64 g1) rfl
      have c2 := bcel HB5.out 2 (.int .i64 g2) rfl
      have c3 := bcel HB5.out 3 (.int .i64 g3) rfl
      have c4 := bcel HB5.out 4 (.int .i64 g4) rfl
      have c5 := bcel HB5.out 5 (.int .i64 g5) rfl
      have c6 := bcel HB5.out 6 (.int .i64 g6) rfl
      have c7 := bcel HB5.out 7 (.int .i64 g7) rfl
      go_wp2_with fail
      (with_reducible refine (HS2.out _ X5.out).mono ?_)
      rintro e w6 ⟨vq, rfl, hoq, hx6⟩
      rw [← HNP.out] at hoq
      obtain ⟨Aq, cq, rfl, hq1, hq2⟩ := own_shape hoq
      have X6 := Lib.hid ((X3.out.trans X5.out).trans hx6)
      have HOQ := Lib.hid (own_lower hoq (X3.out.trans X5.out).size)
      have HOP6 := Lib.hid (own_ExtK HOP.out hx6)
      have HOA6 := Lib.hid (own_ExtK HOA3.out (X5.out.trans hx6))
      have HOB6 := Lib.hid (own_ExtK HOB3.out (X5.out.trans hx6))
      clear c0 c1 c2 c3 c4 c5 c6 c7 hoq hx6 HS2
      have tse : (SE != SE) = false := by simp
      rcases HTW.out with ⟨h1, h2, h3⟩ | ⟨h1, h2⟩
      case' inl =>
        subst h1
        have HSA := Lib.hid (And.intro h2 h3)
        clear h2 h3 HTW
        go_upto_region 25 with fail
        refine at_world (fun W9 hW9 => ?_)
        obtain ⟨ds2, m, A1, c1, A2, c2, hd2⟩ : ∃ ds2 m A1 c1 A2 c2, ds2 = SL ∧ m = np ∧ A1 = Ap ∧ c1 = cp ∧ A2 = Aq ∧ c2 = cq := ⟨_, _, _, _, _, _, rfl, rfl, rfl, rfl, rfl, rfl⟩
        obtain ⟨rfl, rfl, rfl, rfl, rfl, rfl⟩ := hd2
        have HF1 := Lib.hid (show W9.ownsRow w.heap.size 25 8 (.slice A1 m c1) m (acells ds2) by rw [hW9]; exact HOP6.out)
        have HF2 := Lib.hid (show W9.ownsRow w.heap.size 25 8 (.slice A2 m c2) m (acells ds2) by rw [hW9]; exact HOQ.out)
        have HF3 := Lib.hid (show Ext w W9 by rw [hW9]; exact X6.out)
        have HF4 := Lib.hid (show m = ds2.length ∧ SrtA ds2 ∧ OkA ds2 ∧ ds2.length ≤ 8 from ⟨HNP.out, HSL.out, HKL.out, by rw [HSA.out.1]; exact HSA.out.2⟩)
        clear hW9
      case' inr =>
        subst h1
        subst h2
        obtain rfl : np = 0 := HNP.out
        clear HTW
        go_upto_region 25 with fail
        refine at_world (fun W9 hW9 => ?_)
        obtain ⟨ds2, m, A1, c1, A2, c2, hd2⟩ : ∃ ds2 m A1 c1 A2 c2, ds2 = ds ∧ m = n ∧ A1 = Aa ∧ c1 = ca ∧ A2 = Ab ∧ c2 = cb := ⟨_, _, _, _, _, _, rfl, rfl, rfl, rfl, rfl, rfl⟩
        obtain ⟨rfl, rfl, rfl, rfl, rfl, rfl⟩ := hd2
        have HF1 := Lib.hid (show W9.ownsRow w.heap.size 25 8 (.slice A1 m c1) m (acells ds2) by rw [hW9]; exact HOA6.out)
        have HF2 := Lib.hid (show W9.ownsRow w.heap.size 25 8 (.slice A2 m c2) m (acells ds2) by rw [hW9]; exact HOB6.out)
        have HF3 := Lib.hid (show Ext w W9 by rw [hW9]; exact X6.out)
        have HF4 := Lib.hid (show m = ds2.length ∧ SrtA ds2 ∧ OkA ds2 ∧ ds2.length ≤ 8 from ⟨HNN.out, HSR.out, HOK.out, HL8.out⟩)
        clear hW9
    case' inr.inr.inl =>
      have HS1 := Take_any ds (.slice Aa n ca) g0 W3 (hdA_of HOA3.out HNN.out) (by have := HL8.out; omega) HSR.out HOK.out
      have HS1 := Lib.hid HS1
      have HS2 := Lib.hid (fun W (x : Ext W3 W) => rTake_any ds (.slice Ab n cb) g0 W (hdA_of (own_ExtK HOB3.out x) HNN.out) (by have := HL8.out; omega) HSR.out HOK.out)
      have HSL := Lib.hid (HSR.out.take g0)
      have HKL := Lib.hid (HOK.out.take g0)
      have HL := Lib.hid (takeA_len HSR.out g0)
      obtain ⟨SE, hSE⟩ : ∃ SE, SE = hasA g0 ds := ⟨_, rfl⟩
      obtain ⟨SL, hSL⟩ : ∃ SL, SL = takeA ds g0 := ⟨_, rfl⟩
      rw [← hSE] at HS1 HS2
      rw [← hSL] at HS1 HS2 HSL HKL HL
      clear hSE hSL
      go_wp2_with fail
      (with_reducible refine (HS1.out).mono ?_)
      rintro e w5 ⟨vp, rfl, hop, hx5⟩
      obtain ⟨np, hnp⟩ : ∃ np, np = SL.length := ⟨_, rfl⟩
      rw [← hnp] at hop
      have HNP := Lib.hid hnp
      clear hnp
      obtain ⟨Ap, cp, rfl, hp1, hp2⟩ := own_shape hop
      have HOP := Lib.hid (own_lower hop X3.out.size)
      have X5 := Lib.hid hx5
      have HB5 := Lib.hid (ext_blk hx5 HB3.out)
      clear c0 c1 c2 c3 c4 c5 c6 c7 hop hx5 HS1
      have c0 := bcel HB5.out 0 (.int .i64 g0) rfl
      have c1 := bcel HB5.out 1 (.int .i64 g1) rfl
      have c2 := bcel HB5.out 2 (.int .i64 g2) rfl
      have c3 := bcel HB5.out 3 (.int .i64 g3) rfl
      have c4 := bcel HB5.out 4 (.int .i64 g4) rfl
      have c5 := bcel HB5.out 5 (.int .i64 g5) rfl
      have c6 := bcel HB5.out 6 (.int .i64 g6) rfl
      have c7 := bcel HB5.out 7 (.int .i64 g7) rfl
      go_wp2_with fail
      (with_reducible refine (HS2.out _ X5.out).mono ?_)
      rintro e w6 ⟨vq, rfl, hoq, hx6⟩
      rw [← HNP.out] at hoq
      obtain ⟨Aq, cq, rfl, hq1, hq2⟩ := own_shape hoq
      have X6 := Lib.hid ((X3.out.trans X5.out).trans hx6)
      have HOQ := Lib.hid (own_lower hoq (X3.out.trans X5.out).size)
      have HOP6 := Lib.hid (own_ExtK HOP.out hx6)
      clear c0 c1 c2 c3 c4 c5 c6 c7 hoq hx6 HS2
      have tse : (SE != SE) = false := by simp
      go_upto_region 25 with fail
      refine at_world (fun W9 hW9 => ?_)
      obtain ⟨ds2, m, A1, c1, A2, c2, hd2⟩ : ∃ ds2 m A1 c1 A2 c2, ds2 = SL ∧ m = np ∧ A1 = Ap ∧ c1 = cp ∧ A2 = Aq ∧ c2 = cq := ⟨_, _, _, _, _, _, rfl, rfl, rfl, rfl, rfl, rfl⟩
      obtain ⟨rfl, rfl, rfl, rfl, rfl, rfl⟩ := hd2
      have HF1 := Lib.hid (show W9.ownsRow w.heap.size 25 8 (.slice A1 m c1) m (acells ds2) by rw [hW9]; exact HOP6.out)
      have HF2 := Lib.hid (show W9.ownsRow w.heap.size 25 8 (.slice A2 m c2) m (acells ds2) by rw [hW9]; exact HOQ.out)
      have HF3 := Lib.hid (show Ext w W9 by rw [hW9]; exact X6.out)
      have HF4 := Lib.hid (show m = ds2.length ∧ SrtA ds2 ∧ OkA ds2 ∧ ds2.length ≤ 8 from ⟨HNP.out, HSL.out, HKL.out, by have := HL.out; have := HL8.out; omega⟩)
      clear hW9
    case' inr.inr.inr =>
      have HS1 := Lib.hid (fun W (x : Ext W3 W) => Miss_any ds (.slice Aa n ca) g0 W (hdA_of (own_ExtK HOA3.out x) HNN.out) (by have := HL8.out; omega) HSR.out HOK.out)
      have HS2 := Lib.hid (fun W (x : Ext W3 W) => rMiss_any ds (.slice Ab n cb) g0 w.heap.size W (by rw [← HNN.out]; exact own_ExtK HOB3.out x) (by have := HL8.out; omega) HOK.out)
      have HSL := Lib.hid (HSR.out.miss g0)
      have HKL := Lib.hid (HOK.out.miss g0)
      have HL := Lib.hid (missA_len ds g0)
      obtain ⟨SL, hSL⟩ : ∃ SL, SL = missA ds g0 := ⟨_, rfl⟩
      rw [← hSL] at HS1 HS2 HSL HKL HL
      clear hSL
      go_upto_region 24 with fail
      refine wp_region_sched Ext ext_way [(0, true), (1, true), (2, true), (4, true), (5, true), (6, true), (3, false), (7, false), (8, true), (9, true)] (by kernel_rfl) (by kernel_rfl) (fun _ _ _ _ _ h => h) ?_
      repeat first | ((with_reducible refine sched_free ?_ ?_ ?_ ?_ (fun wk k1 => ?_) ?_); rotate_left 2; (rfl); (first | exact want_none rfl | exact want_some rfl rfl rfl rfl); (go_simp; first | exact OkX.val | (have y0 := ((Ext.drew _).trans k1).cell c0; go_simp; exact OkX.val)); simp only [Act.put, List.setIfInBounds_toArray, List.set_cons_zero, List.set_cons_succ]) | ((with_reducible refine sched_skip ?_ ?_ ?_ ?_); rotate_left; (rfl); (exact want_not rfl rfl rfl rfl rfl); simp only [Act.put, List.setIfInBounds_toArray, List.set_cons_zero, List.set_cons_succ])
      ((with_reducible refine sched_step ?_ ?_ ?_ (fun wk k1 => ?_)); rotate_left; (rfl); (first | exact want_none rfl | exact want_some rfl rfl rfl rfl))
      have E4 := Lib.hid ((Ext.drew _).trans k1)
      clear k1
      go_simp
      (with_reducible refine (HS1.out _ E4.out).mono ?_)
      rintro e w5 ⟨vp, rfl, hop, hx5⟩
      obtain ⟨np, hnp⟩ : ∃ np, np = SL.length := ⟨_, rfl⟩
      rw [← hnp] at hop
      have HNP := Lib.hid hnp
      clear hnp
      obtain ⟨Ap, cp, rfl, hp1, hp2⟩ := own_shape hop
      refine ⟨hx5, ?_⟩
      try simp only [Act.put, List.setIfInBounds_toArray, List.set_cons_zero, List.set_cons_succ]
      have HOP := Lib.hid (own_lower hop (X3.out.trans E4.out).size)
      have X5 := Lib.hid (E4.out.trans hx5)
      clear hop hx5 HS1
      ((with_reducible refine sched_step ?_ ?_ ?_ (fun wk k1 => ?_)); rotate_left; (rfl); (first | exact want_none rfl | exact want_some rfl rfl rfl rfl))
      have X5' := Lib.hid (X5.out.trans k1)
      have HOP' := Lib.hid (own_ExtK HOP.out k1)
      clear k1
      go_simp
      (with_reducible refine (HS2.out _ X5'.out).mono ?_)
      rintro e w6 ⟨vq, rfl, hoq, hx6⟩
      rw [← HNP.out] at hoq
      obtain ⟨Aq, cq, rfl, hq1, hq2⟩ := own_shape hoq
      refine ⟨hx6, ?_⟩
      try simp only [Act.put, List.setIfInBounds_toArray, List.set_cons_zero, List.set_cons_succ]
      have X6 := Lib.hid ((X3.out.trans X5'.out).trans hx6)
      have HOQ := Lib.hid (own_lower hoq (X3.out.trans X5'.out).size)
      have HOP6 := Lib.hid (own_ExtK HOP'.out hx6)
      clear c0 c1 c2 c3 c4 c5 c6 c7 hoq hx6 HS2
      repeat first | ((with_reducible refine sched_free ?_ ?_ ?_ ?_ (fun wk k1 => ?_) ?_); rotate_left 2; (rfl); (first | exact want_none rfl | exact want_some rfl rfl rfl rfl); (go_simp; first | exact OkX.val); simp only [Act.put, List.setIfInBounds_toArray, List.set_cons_zero, List.set_cons_succ]) | ((with_reducible refine sched_skip ?_ ?_ ?_ ?_); rotate_left; (rfl); (exact want_not rfl rfl rfl rfl rfl); simp only [Act.put, List.setIfInBounds_toArray, List.set_cons_zero, List.set_cons_succ])
      refine sched_done (fun W8 k8 => ?_)
      go_upto_region 25 with fail
      refine at_world (fun W9 hW9 => ?_)
      obtain ⟨ds2, m, A1, c1, A2, c2, hd2⟩ : ∃ ds2 m A1 c1 A2 c2, ds2 = SL ∧ m = np ∧ A1 = Ap ∧ c1 = cp ∧ A2 = Aq ∧ c2 = cq := ⟨_, _, _, _, _, _, rfl, rfl, rfl, rfl, rfl, rfl⟩
      obtain ⟨rfl, rfl, rfl, rfl, rfl, rfl⟩ := hd2
      have HF1 := Lib.hid (show W9.ownsRow w.heap.size 25 8 (.slice A1 m c1) m (acells ds2) by rw [hW9]; exact own_ExtK HOP6.out k8)
      have HF2 := Lib.hid (show W9.ownsRow w.heap.size 25 8 (.slice A2 m c2) m (acells ds2) by rw [hW9]; exact own_ExtK HOQ.out k8)
      have HF3 := Lib.hid (show Ext w W9 by rw [hW9]; exact X6.out.trans k8)
      have HF4 := Lib.hid (show m = ds2.length ∧ SrtA ds2 ∧ OkA ds2 ∧ ds2.length ≤ 8 from ⟨HNP.out, HSL.out, HKL.out, by have := HL.out; have := HL8.out; omega⟩)
      clear hW9 k8
    all_goals
      have HLA := Lib.hid (show HdA W9 (.slice A1 m c1) ds2 from hdA_of HF1.out HF4.out.1)
      have HLB := Lib.hid (show HdA W9 (.slice A2 m c2) ds2 from hdA_of HF2.out HF4.out.1)
      have hl2 : ds2.length ≤ 1000 := by have := HF4.out.2.2.2; omega
      have HP1 := Lib.hid (fun W (x : Ext W9 W) => same_any ds2 (.slice A1 m c1) (.slice A2 m c2) W (HLA.out.ext x) (HLB.out.ext x) hl2)
      have HP2 := Lib.hid (fun W (x : Ext W9 W) => Pending_any ds2 (.slice A1 m c1) 0 W (HLA.out.ext x) hl2)
      have HP3 := Lib.hid (fun W (x : Ext W9 W) => rPending_any ds2 (.slice A2 m c2) 0 W (HLB.out.ext x) hl2)
      have HP4 := Lib.hid (fun W (x : Ext W9 W) => Pending_any ds2 (.slice A1 m c1) 1 W (HLA.out.ext x) hl2)
      have HP5 := Lib.hid (fun W (x : Ext W9 W) => rPending_any ds2 (.slice A2 m c2) 1 W (HLB.out.ext x) hl2)
      obtain ⟨p1, hp1⟩ : ∃ p, p = (pendA ds2 0).1 := ⟨_, rfl⟩
      obtain ⟨p2, hp2⟩ : ∃ p, p = (pendA ds2 0).2 := ⟨_, rfl⟩
      obtain ⟨p3, hp3⟩ : ∃ p, p = (pendA ds2 1).1 := ⟨_, rfl⟩
      obtain ⟨p4, hp4⟩ : ∃ p, p = (pendA ds2 1).2 := ⟨_, rfl⟩
      rw [← hp1, ← hp2] at HP2 HP3
      rw [← hp3, ← hp4] at HP4 HP5
      clear hp1 hp2 hp3 hp4 hl2
      go_wp2_with fail
      (with_reducible refine (HP1.out _ (Ext.refl _)).mono ?_)
      rintro e v1 ⟨rfl, hx1⟩
      have Y1 := Lib.hid hx1
      clear hx1
      go_wp2_with fail
      (with_reducible refine (HP2.out _ Y1.out).mono ?_)
      rintro e v2 ⟨rfl, hx1⟩
      have Y2 := Lib.hid (Y1.out.trans hx1)
      clear hx1
      go_wp2_with fail
      (with_reducible refine (HP3.out _ Y2.out).mono ?_)
      rintro e v3 ⟨rfl, hx1⟩
      have Y3 := Lib.hid (Y2.out.trans hx1)
      clear hx1
      go_wp2_with fail
      (with_reducible refine (HP4.out _ Y3.out).mono ?_)
      rintro e v4 ⟨rfl, hx1⟩
      have Y4 := Lib.hid (Y3.out.trans hx1)
      clear hx1
      go_wp2_with fail
      (with_reducible refine (HP5.out _ Y4.out).mono ?_)
      rintro e v5 ⟨rfl, hx1⟩
      have Y5 := Lib.hid (Y4.out.trans hx1)
      clear hx1
      go_wp2
      go_roundw
      case rel =>
        obtain ⟨f1, f2, f3, f4⟩ := HF4.out
        exact ⟨k + 1, ds2, HK1.out.1, HK1.out.2.1, HK1.out.2.2, by simp, by rw [← f1]; exact own_ExtK HF1.out Y5.out, by rw [← f1]; exact own_ExtK HF2.out Y5.out, f2, f3, f4, HF3.out.trans Y5.out⟩
      case measure => simp [intOf]; omega
theorem own : ownKnob Try.prog.godebug = none := by kernel_rfl
theorem laidOut : laidOutB Try.prog = true := by kernel_rfl
set_option maxRecDepth 100000 in
theorem lifted (os : Os) (started : os.Started) (H : Type) (enc : TypeId × Value → H) :
    ReturnsInHanded {} Try.checked os 4 .any (Rows.asksPlaySpec.pre6 enc Try.prog Try.f4 Rows.asksPlayRow.domain false) (Rows.asksPlaySpec.post enc Try.prog Try.f4 false true false false) := by
  refine returnsInHanded_of_change (C := Try.checked) own started (by kernel_rfl) Try.func4
    (ChangeSpec.witness6 (enc := enc) (C := Try.checked) false ⟨#[], #[.slice none 0 0, .slice none 0 0], []⟩ 8 (by kernel_rfl) (by kernel_rfl) (by kernel_rfl) (by kernel_rfl)) ?_
  intro W base args ds gs before hval0 hW hcnd _
  have hval : ∀ (j : Nat) t v, Try.f4.params[j]? = some t → args[j]? = some v → Value.okWide Try.prog W .any base t v := hval0
  have hW' := hW
  obtain ⟨p, q, hA0, hV, rfl, hfz, hnd⟩ := hW
  have hA : DataW.TrodAll enc Try.prog W 0 (fun _ => true) true Try.f4.params.toList args.toList ds p := hA0
  rw [Try.params4] at hA hval
  obtain ⟨v0, vs0, d0, ds0, p0, q0, hargs, rfl, rfl, h0, r0⟩ := trodAll_cons hA
  obtain ⟨v1, vs1, d1, ds1, p1, q1, rfl, rfl, rfl, h1, r1⟩ := trodAll_cons r0
  obtain ⟨rfl, rfl, rfl⟩ := trodAll_nil r1
  obtain rfl : args = #[v0, v1] := by cases args; simp_all
  obtain ⟨rfl, rfl⟩ := trodVars_none hV
  have hlt0 : ∀ x ∈ p0, x.block < W.heap.size := fun x hx => by simpa using hW'.lt x (by simp [hx])
  obtain ⟨n0, f0, rd0⟩ := open_structs Try.underlying33 (by kernel_rfl) (by decide) askInts (hval 0 33 v0 rfl rfl) h0
  have hlt1 : ∀ x ∈ p1, x.block < W.heap.size := fun x hx => by simpa using hW'.lt x (by simp [hx])
  obtain ⟨l1, rd1, wf1⟩ := open_rd Try.underlying34 Try.underlying3 (by kernel_rfl) (hval 1 34 v1 rfl rfl) h1
  clear hA0 hval0
  refine (walk W v0 n0 f0 rd0 v1 l1 rd1 wf1).mono fun e W' ⟨he, bel⟩ => ?_
  subst he
  exact ⟨_, rfl, _, _, _, [], _, [], hW', trodAll_mk1 (shut_bool Try.underlying4 _), (trodAll_cons_mk (Below.trod laidOut (by kernel_rfl) (of_decide_eq_true (by kernel_rfl)) h0 bel hlt0) (trodAll_cons_mk (Below.trod laidOut (by kernel_rfl) (of_decide_eq_true (by kernel_rfl)) h1 bel hlt1) trodAll_mk0)), rfl, bel.frame _, fun h => by cases h⟩

theorem over : Rows.asksPlayRow.holds Try.pinned (OpenSpec.ofChange Rows.asksPlaySpec) :=
  OpenClaim.holds_of_wide 4 Try.f4 rfl rfl rfl rfl rfl rfl rfl ⟨rfl, rfl, rfl, rfl, rfl⟩ rfl rfl rfl rfl rfl (by kernel_rfl) Try.func4 (by kernel_rfl)
    (of_decide_eq_true (by kernel_rfl)) (by unfold Func.isWrapper; first | (rw [if_pos (by decide +kernel)]; kernel_rfl) | (rw [if_neg (by decide +kernel)]; exact ⟨rfl, rfl⟩))
    (fun os started H enc _ => lifted os started H enc)

theorem proved : Rows.AsksPlaySaid := over
#print axioms proved
end Go.Proofs.Ytbocpkdnlpobkaa.AsksPlay
