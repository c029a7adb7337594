/- The law AsksAlone holds at every input: setting, taking, missing one ask leaves all others as they were. No condition. -/
import Derived.Test.YtbocpkdnlpobkaaAkX
import Derived.Deep.CutBlock
import Derived.ChangeSlices
import Derived.OpenShut
import Derived.ChangeOld
import Derived.ChangeSame
import Derived.ChangeMaps
import Derived.JoinedOf
import Derived.JoinedAt
import Derived.RowKit3
import Derived.Lib.SmallJoins
namespace Go.Proofs.Ytbocpkdnlpobkaa.AsksAlone
open Go.ChangeShapes Go.WideShapes Go.ChangeAt Go.RowKit Go.Joins

set_option maxRecDepth 100000 in
set_option maxHeartbeats 12800000 in
theorem walk (w : World) (v : Value) (N : Nat) (f : Nat → Nat → Int) (r0 : RdS 8 w v N f) (a : AD) (kind : Int) (_ : (Lit.int .i64 kind).wf = true) :
    Calls Try.prog 7 #[v, askV a, .int .i64 kind] w fun e w' => e = .returned (.bool true) ∧ Below w.heap.size w w' := by
  obtain ⟨i0, hc, hcz0, hcz1, hcz2⟩ := info_parts Try.infoAk
  obtain ⟨A, c, rfl, hc1, hc2, hcell⟩ := r0
  unfold maxLen at hc2
  have HC := Lib.hid hcell
  have HGA := Lib.hid (fun W => good_any a W)
  have HGAC := Lib.hid (good_count a)
  obtain ⟨b, hb⟩ : ∃ b, b = goodA a := ⟨_, rfl⟩
  rw [← hb] at HGA HGAC
  have HW3 := Lib.hid (fun W => within9_some kind 3 3 W rfl ⟨by omega, by omega⟩)
  clear hcell hb
  obtain ⟨ap, al, am, ac, an, ao, ar, ami⟩ := a
  obtain ⟨b0, b1, b2, b3, b4, b5, b6, b7⟩ := b
  simp only [askV] at HGA HGAC ⊢
  go_enter Try.func7, Try.ntmps7
  go_wp2_with fail
  (with_reducible refine (known9_any _).mono ?_)
  rintro e w1 ⟨rfl, hx1⟩
  have X1 := Lib.hid ((ext_alloc w (.cells #[.int .i64 ap, .int .i64 al, .int .i64 am, .int .i64 ac, .int .i64 an, .int .i64 ao, .int .i64 ar, .int .i64 ami] 25)).trans hx1)
  have HB1 := Lib.hid (ext_blk hx1 (heap_alloc_new w (.cells #[.int .i64 ap, .int .i64 al, .int .i64 am, .int .i64 ac, .int .i64 an, .int .i64 ao, .int .i64 ar, .int .i64 ami] 25)))
  obtain ⟨B, hB⟩ : ∃ B, B = w.heap.size := ⟨_, rfl⟩
  have HBB := Lib.hid hB
  obtain ⟨U, hU⟩ : ∃ U, U = w.heap.size + 1 := ⟨_, rfl⟩
  have HUB := Lib.hid hU
  have HU := Lib.hid (show ∀ W, Ext w1 W → U ≤ W.heap.size from fun W x => by
    have h1 := x.size
    have h2 := (Array.getElem?_eq_some_iff.1 HB1.out).1
    omega)
  rw [← hB] at HB1 ⊢
  clear hx1 hB hU
  go_wp2
  go_loopw [7, 8] (fun va i wr => ∃ (k : Nat) (ds : List AD), k ≤ N ∧ k ≤ 8 ∧ i = .int .i64 k ∧ wr.ownsRow U 25 8 va ds.length (acells ds) ∧ SrtA ds ∧ OkA ds ∧ ds.length ≤ 8 ∧ Ext w1 wr) (fun _ i _ => 8 - (intOf i).toNat)
  case atStart => exact ⟨0, [], by omega, by omega, rfl, World.ownsRow_nil _ _ _ 8, List.Pairwise.nil, OkA.nil, by simp, Ext.refl _⟩
  case round =>
    obtain ⟨k, ds, hkN, hk8, rfl, hoa, hsr, hok, hl8, hx⟩ := hrel
    have HY := Lib.hid hx
    have HX := Lib.hid (X1.out.trans hx)
    have HSR := Lib.hid hsr
    have HOK := Lib.hid hok
    have HL8 := Lib.hid hl8
    obtain ⟨n, hn⟩ : ∃ n, n = ds.length := ⟨_, rfl⟩
    rw [← hn] at hoa
    obtain ⟨Aa, ca, rfl, ha1, ha2⟩ := own_shape hoa
    have HNN := Lib.hid hn
    have HOA := Lib.hid hoa
    have hn8 : n ≤ 8 := by omega
    clear hx hsr hok hl8 hoa hn
    have k0 : (0 : Int) ≤ (k : Int) := by omega
    obtain ⟨tb, htb⟩ : ∃ tb : Bool, tb = (decide (k < N) && decide (k < 8)) := ⟨_, rfl⟩
    have HTB := Lib.hid htb
    clear htb
    go_upto_region 5 with fail
    go_cut [27] from 20 to 27 (fun s27 wx => s27 = .bool tb ∧ wx = wr)
    case first =>
      by_cases hlt : k < N
      · have k1 : (k : Int) < (N : Int) := by omega
        by_cases hlt2 : k < 8
        · have k2 : (k : Int) < 8 := by omega
          obtain rfl : tb = true := by rw [HTB.out]; simp [hlt, hlt2]
          go_wp2_with fail
          go_meet
          case rel => exact ⟨rfl, rfl⟩
        · have k2 : ¬ (k : Int) < 8 := by omega
          obtain rfl : tb = false := by rw [HTB.out]; simp [hlt2]
          go_wp2_with fail
          go_meet
          case rel => exact ⟨rfl, rfl⟩
      · have k1 : ¬ (k : Int) < (N : Int) := by omega
        obtain rfl : tb = false := by rw [HTB.out]; simp [hlt]
        go_wp2_with fail
        go_meet
        case rel => exact ⟨rfl, rfl⟩
    case rest =>
     obtain ⟨rfl, rfl⟩ := hcut
     cases tb
     case' true =>
      obtain ⟨hlt, hlt2⟩ : k < N ∧ k < 8 := by simpa using HTB.out.symm
      have k1 : (k : Int) < (N : Int) := by omega
      have k2 : (k : Int) < 8 := by omega
      have HK1 := Lib.hid (show k + 1 ≤ N ∧ k + 1 ≤ 8 by omega)
      obtain ⟨a_, rfl, hb_, hcs⟩ := HC.out (by omega)
      obtain ⟨q0, q1, q2, q3, q4, q5, q6, q7⟩ := ask_cells (fun j hj => HX.out.cell' (hcs k hlt j hj))
      have HGD := Lib.hid (fun W => good_any ⟨f k 0, f k 1, f k 2, f k 3, f k 4, f k 5, f k 6, f k 7⟩ W)
      have HGC := Lib.hid (good_count ⟨f k 0, f k 1, f k 2, f k 3, f k 4, f k 5, f k 6, f k 7⟩)
      obtain ⟨x0, e0⟩ : ∃ x, x = f k 0 := ⟨_, rfl⟩
      rw [← e0] at q0 HGD HGC
      obtain ⟨x1, e1⟩ : ∃ x, x = f k 1 := ⟨_, rfl⟩
      rw [← e1] at q1 HGD HGC
      obtain ⟨x2, e2⟩ : ∃ x, x = f k 2 := ⟨_, rfl⟩
      rw [← e2] at q2 HGD HGC
      obtain ⟨x3, e3⟩ : ∃ x, x = f k 3 := ⟨_, rfl⟩
      rw [← e3] at q3 HGD HGC
      obtain ⟨x4, e4⟩ : ∃ x, x = f k 4 := ⟨_, rfl⟩
      rw [← e4] at q4 HGD HGC
      obtain ⟨x5, e5⟩ : ∃ x, x = f k 5 := ⟨_, rfl⟩
      rw [← e5] at q5 HGD HGC
      obtain ⟨x6, e6⟩ : ∃ x, x = f k 6 := ⟨_, rfl⟩
      rw [← e6] at q6 HGD HGC
      obtain ⟨x7, e7⟩ : ∃ x, x = f k 7 := ⟨_, rfl⟩
      rw [← e7] at q7 HGD HGC
      clear e0 e1 e2 e3 e4 e5 e6 e7 hcs hb_
      obtain ⟨g, hg⟩ : ∃ g, g = goodA ⟨x0, x1, x2, x3, x4, x5, x6, x7⟩ := ⟨_, rfl⟩
      rw [← hg] at HGD HGC
      clear hg
      obtain ⟨g0, g1, g2, g3, g4, g5, g6, g7⟩ := g
      simp only [askV] at HGD HGC
      go_wp2_with fail
      (with_reducible refine (HGD.out _).mono ?_)
      rintro e w2 ⟨rfl, hx2⟩
      have Y2 := Lib.hid (HY.out.trans hx2)
      have HOA2 := Lib.hid (own_ExtK HOA.out hx2)
      clear q0 q1 q2 q3 q4 q5 q6 q7 hx2
      have HS1 := Set_any ds (.slice Aa n ca) ⟨g0, g1, g2, g3, g4, g5, g6, g7⟩ w2 (hdA_of HOA2.out HNN.out) (by have := HL8.out; omega) HSR.out
      have HS1 := Lib.hid HS1
      have HTW := Lib.hid (setL_two ds ⟨g0, g1, g2, g3, g4, g5, g6, g7⟩)
      have HSL := Lib.hid (HSR.out.setL ⟨g0, g1, g2, g3, g4, g5, g6, g7⟩)
      have HKL := Lib.hid (HOK.out.setL (a := ⟨g0, g1, g2, g3, g4, g5, g6, g7⟩) ⟨HGC.out.1, by have := HGC.out.2; simp only at this ⊢; omega⟩)
      obtain ⟨SE, hSE⟩ : ∃ SE, SE = setE ds ⟨g0, g1, g2, g3, g4, g5, g6, g7⟩ := ⟨_, rfl⟩
      obtain ⟨SL, hSL⟩ : ∃ SL, SL = setL ds ⟨g0, g1, g2, g3, g4, g5, g6, g7⟩ := ⟨_, rfl⟩
      rw [← hSE] at HS1 HTW
      rw [← hSL] at HS1 HTW HSL HKL
      clear hSE
      have HSLE := Lib.hid hSL
      clear hSL
      simp only [askV] at HS1
      go_wp2_with fail
      (with_reducible refine (HS1.out).mono ?_)
      rintro e w5 ⟨vp, rfl, hop, hx5⟩
      obtain ⟨np, hnp⟩ : ∃ np, np = SL.length := ⟨_, rfl⟩
      rw [← hnp] at hop
      obtain ⟨Ap, cp, rfl, hp1, hp2⟩ := own_shape hop
      have HOP := Lib.hid (own_lower (B' := U) hop (by have := HU.out _ Y2.out; omega))
      have X5 := Lib.hid hx5
      have X5w := Lib.hid (Y2.out.trans hx5)
      have HOA5 := Lib.hid (own_ExtK HOA2.out hx5)
      have HNP := Lib.hid hnp
      clear hop hx5 HS1 hnp
      rcases HTW.out with ⟨h1, h2, h3⟩ | ⟨h1, h2, h3⟩
      · subst h1
        have HSA := Lib.hid (And.intro h2 h3)
        clear h2 h3 HTW
        go_wp2
        go_roundw
        case rel => exact ⟨k + 1, SL, HK1.out.1, HK1.out.2, by simp, by rw [← HNP.out]; exact HOP.out, HSL.out, HKL.out, by rw [HSA.out.1]; exact HSA.out.2, X5w.out⟩
        case measure => simp [intOf]; omega
      · subst h1
        clear h2 h3 HTW
        go_wp2
        go_roundw
        case rel => exact ⟨k + 1, ds, HK1.out.1, HK1.out.2, by simp, by rw [← HNN.out]; exact HOA5.out, HSR.out, HOK.out, HL8.out, X5w.out⟩
        case measure => simp [intOf]; omega
     case' false =>
      have HBR := Lib.hid (ext_blk HY.out HB1.out)
      have c0 := bcel HBR.out 0 (.int .i64 ap) rfl
      have c1 := bcel HBR.out 1 (.int .i64 al) rfl
      have c2 := bcel HBR.out 2 (.int .i64 am) rfl
      have c3 := bcel HBR.out 3 (.int .i64 ac) rfl
      have c4 := bcel HBR.out 4 (.int .i64 an) rfl
      have c5 := bcel HBR.out 5 (.int .i64 ao) rfl
      have c6 := bcel HBR.out 6 (.int .i64 ar) rfl
      have c7 := bcel HBR.out 7 (.int .i64 ami) rfl

      go_wp2_with fail
      (with_reducible refine (HGA.out _).mono ?_)
      rintro e w3 ⟨rfl, hx3⟩
      have X3 := Lib.hid (HX.out.trans hx3)
      have Y3 := Lib.hid (HY.out.trans hx3)
      have HB3 := Lib.hid (ext_blk hx3 HBR.out)
      have HOA3 := Lib.hid (own_ExtK HOA.out hx3)
      clear hx3 c0 c1 c2 c3 c4 c5 c6 c7
      have c0 := bcel HB3.out 0 (.int .i64 ap) rfl
      have c1 := bcel HB3.out 1 (.int .i64 al) rfl
      have c2 := bcel HB3.out 2 (.int .i64 am) rfl
      have c3 := bcel HB3.out 3 (.int .i64 ac) rfl
      have c4 := bcel HB3.out 4 (.int .i64 an) rfl
      have c5 := bcel HB3.out 5 (.int .i64 ao) rfl
      have c6 := bcel HB3.out 6 (.int .i64 ar) rfl
      have c7 := bcel HB3.out 7 (.int .i64 ami) rfl
      have ff := fun j => bfre HB3.out j
      go_upto_region 11 with fail
      refine at_world (fun W4 hW4 => ?_)
      have HB4 := Lib.hid (show W4.heap[B]? = some (.cells #[.int .i64 b0, .int .i64 b1, .int .i64 b2, .int .i64 b3, .int .i64 b4, .int .i64 b5, .int .i64 b6, .int .i64 b7] 25 (0, 0)) by rw [hW4]; exact bsetI8 HB3.out _ _ _ _ _ _ _ _)
      have X4 := Lib.hid (show Ext w W4 by rw [hW4]; have := HBB.out; exact ext_set8 X3.out (by omega) _ _ _ _ _ _ _ _)
      have HFT := Lib.hid (show FootL (fun i => i = B) w3 W4 by
        rw [hW4]
        exact foot_set8 w3 B _ _ _ _ _ _ _ _)
      have HOA4 := Lib.hid (own_footL HOA3.out HFT.out (fun g hg hq => by have h1 := (HOA3.out.lt g hg).1; have h2 := HUB.out; have h3 := HBB.out; omega))
      have HU4 := Lib.hid (show U ≤ W4.heap.size by have := HU.out _ Y3.out; have := HFT.out.size; omega)
      clear hW4 ff c0 c1 c2 c3 c4 c5 c6 c7 HFT HOA3 HB3 X3 HOA HBR HX
      go_wp2_with fail
      (with_reducible refine (HW3.out _).mono ?_)
      rintro e w5 ⟨y, rfl, _, hy, rfl⟩
      go_upto_block 2 with fail
      have HUE := Lib.hid (show ∀ W, Ext W4 W → U ≤ W.heap.size from fun W x => Nat.le_trans HU4.out x.size)
      have HPS := Lib.hid (outP_set HSR.out ⟨b0, b1, b2, b3, b4, b5, b6, b7⟩)
      have HPT := Lib.hid (outP_take HSR.out b0)
      have HPM := Lib.hid (outP_miss ds b0)
      simp only at HPS
      have c0 := bcel HB4.out 0 (.int .i64 b0) rfl
      have c1 := bcel HB4.out 1 (.int .i64 b1) rfl
      have c2 := bcel HB4.out 2 (.int .i64 b2) rfl
      have c3 := bcel HB4.out 3 (.int .i64 b3) rfl
      have c4 := bcel HB4.out 4 (.int .i64 b4) rfl
      have c5 := bcel HB4.out 5 (.int .i64 b5) rfl
      have c6 := bcel HB4.out 6 (.int .i64 b6) rfl
      have c7 := bcel HB4.out 7 (.int .i64 b7) rfl
      go_cut [11, 12, 13] from 47 (fun s11 s12 s13 wx => ∃ (es : List AD) (m : Nat) (A2 : Option Addr) (c2 : Nat), s11 = .slice A2 m c2 ∧ wx.ownsRow U 25 8 (.slice Aa n ca) n (acells ds) ∧ wx.ownsRow U 25 8 (.slice A2 m c2) m (acells es) ∧ Ext W4 wx ∧ m = es.length ∧ es.length ≤ 9 ∧ outP b0 es = outP b0 ds)
      case first =>
        have hcase : y = 0 ∨ y = 1 ∨ y = 2 := by omega
        rcases hcase with rfl | rfl | rfl
        case inl =>
          have HS1 := Set_any ds (.slice Aa n ca) ⟨b0, b1, b2, b3, b4, b5, b6, b7⟩ W4 (hdA_of HOA4.out HNN.out) (by have := HL8.out; omega) HSR.out
          have HS1 := Lib.hid HS1
          have HTW := Lib.hid (setL_two ds ⟨b0, b1, b2, b3, b4, b5, b6, b7⟩)
          have HSL := Lib.hid (HSR.out.setL ⟨b0, b1, b2, b3, b4, b5, b6, b7⟩)
          have HKL := Lib.hid (HOK.out.setL (a := ⟨b0, b1, b2, b3, b4, b5, b6, b7⟩) ⟨HGAC.out.1, by have := HGAC.out.2; simp only at this ⊢; omega⟩)
          obtain ⟨SE, hSE⟩ : ∃ SE, SE = setE ds ⟨b0, b1, b2, b3, b4, b5, b6, b7⟩ := ⟨_, rfl⟩
          obtain ⟨SL, hSL⟩ : ∃ SL, SL = setL ds ⟨b0, b1, b2, b3, b4, b5, b6, b7⟩ := ⟨_, rfl⟩
          rw [← hSE] at HS1 HTW
          rw [← hSL] at HS1 HTW HSL HKL
          clear hSE
          have HSLE := Lib.hid hSL
          clear hSL
          simp only [askV] at HS1
          go_wp2_with fail
          (with_reducible refine (HS1.out).mono ?_)
          rintro e w5 ⟨vp, rfl, hop, hx5⟩
          obtain ⟨np, hnp⟩ : ∃ np, np = SL.length := ⟨_, rfl⟩
          rw [← hnp] at hop
          obtain ⟨Ap, cp, rfl, hp1, hp2⟩ := own_shape hop
          have HOP := Lib.hid (own_lower (B' := U) hop (by have := HUE.out _ (Ext.refl _); omega))
          have X5 := Lib.hid hx5
          have X5w := Lib.hid (X4.out.trans hx5)
          have HOA5 := Lib.hid (own_ExtK HOA4.out hx5)
          have HNP := Lib.hid hnp
          clear hop hx5 HS1 hnp
          have HB5 := Lib.hid (ext_blk X5.out HB4.out)
          clear c0 c1 c2 c3 c4 c5 c6 c7
          rcases HTW.out with ⟨h1, h2, h3⟩ | ⟨h1, h2, h3⟩
          case inl =>
            subst h1
            have HSA := Lib.hid (And.intro h2 h3)
            clear h2 h3 HTW
            go_wp2_with fail
            go_meet
            case rel => exact ⟨SL, np, Ap, cp, rfl, HOA5.out, HOP.out, X5.out, HNP.out, by rw [HSA.out.1]; have := HSA.out.2; omega, by rw [HSA.out.1]; exact HPS.out⟩
          case inr =>
            subst h1
            have hn9 : n = 8 := by have h4 := setA_len HSR.out ⟨b0, b1, b2, b3, b4, b5, b6, b7⟩; have h5 := HL8.out; have h6 := HNN.out; omega
            subst hn9
            clear h2 h3 HTW
            go_wp2
            go_ret
            exact ⟨rfl, X5w.out⟩
        case inr.inl =>
          have HS1 := Lib.hid (Take_any ds (.slice Aa n ca) b0 W4 (hdA_of HOA4.out HNN.out) (by have := HL8.out; omega) HSR.out HOK.out)
          obtain ⟨SL, hSL⟩ : ∃ SL, SL = takeA ds b0 := ⟨_, rfl⟩
          rw [← hSL] at HS1
          have HSLE := Lib.hid hSL
          clear hSL
          go_wp2_with fail
          (with_reducible refine (HS1.out).mono ?_)
          rintro e w5 ⟨vp, rfl, hop, hx5⟩
          obtain ⟨np, hnp⟩ : ∃ np, np = SL.length := ⟨_, rfl⟩
          rw [← hnp] at hop
          obtain ⟨Ap, cp, rfl, hp1, hp2⟩ := own_shape hop
          have HOP := Lib.hid (own_lower (B' := U) hop HU4.out)
          have X5 := Lib.hid hx5
          have HOA5 := Lib.hid (own_ExtK HOA4.out hx5)
          have HNP := Lib.hid hnp
          have HB5 := Lib.hid (ext_blk hx5 HB4.out)
          clear hop hx5 HS1 hnp c0 c1 c2 c3 c4 c5 c6 c7
          obtain ⟨hb0, hhb0⟩ : ∃ q, q = hasA b0 ds := ⟨_, rfl⟩
          rw [← hhb0]
          clear hhb0
          go_wp2_with fail
          go_meet
          case rel => exact ⟨SL, np, Ap, cp, rfl, HOA5.out, HOP.out, X5.out, HNP.out, by rw [HSLE.out]; have := takeA_len HSR.out b0; have := HL8.out; omega, by rw [HSLE.out]; exact HPT.out⟩
        case inr.inr =>
          have HS1 := Lib.hid (Miss_any ds (.slice Aa n ca) b0 W4 (hdA_of HOA4.out HNN.out) (by have := HL8.out; omega) HSR.out HOK.out)
          obtain ⟨SL, hSL⟩ : ∃ SL, SL = missA ds b0 := ⟨_, rfl⟩
          rw [← hSL] at HS1
          have HSLE := Lib.hid hSL
          clear hSL
          go_wp2_with fail
          (with_reducible refine (HS1.out).mono ?_)
          rintro e w5 ⟨vp, rfl, hop, hx5⟩
          obtain ⟨np, hnp⟩ : ∃ np, np = SL.length := ⟨_, rfl⟩
          rw [← hnp] at hop
          obtain ⟨Ap, cp, rfl, hp1, hp2⟩ := own_shape hop
          have HOP := Lib.hid (own_lower (B' := U) hop HU4.out)
          have X5 := Lib.hid hx5
          have HOA5 := Lib.hid (own_ExtK HOA4.out hx5)
          have HNP := Lib.hid hnp
          have HB5 := Lib.hid (ext_blk hx5 HB4.out)
          clear hop hx5 HS1 hnp c0 c1 c2 c3 c4 c5 c6 c7
          go_wp2_with fail
          go_meet
          case rel => exact ⟨SL, np, Ap, cp, rfl, HOA5.out, HOP.out, X5.out, HNP.out, by rw [HSLE.out, missA_len]; have := HL8.out; omega, by rw [HSLE.out]; exact HPM.out⟩
      case rest =>
        obtain ⟨es, m, A2, c2, rfl, hf1, hf2, hf3, hf4⟩ := hcut
        have HF1 := Lib.hid hf1
        have HF2 := Lib.hid hf2
        have HF3 := Lib.hid hf3
        have HF4 := Lib.hid hf4
        obtain ⟨W9, hW9⟩ : ∃ W9, W9 = wc := ⟨_, rfl⟩
        subst hW9
        clear hf1 hf2 hf3 hf4
        have HBX := Lib.hid (ext_blk HF3.out HB4.out)
        have HN9 := Lib.hid (show n = ds.length ∧ n ≤ 9 from ⟨HNN.out, by have := HL8.out; have := HNN.out; omega⟩)
        go_wp2
        go_loopw [14, 16] (fun vp i wr => ∃ (k : Nat), k ≤ n ∧ i = .int .i64 k ∧ wr.ownsRow W9.heap.size 25 8 vp (outP b0 (ds.take k)).length (acells (outP b0 (ds.take k))) ∧ Ext W9 wr) (fun _ i _ => n - (intOf i).toNat)
        case atStart => exact ⟨0, by omega, rfl, World.ownsRow_nil _ _ _ 8, Ext.refl _⟩
        case round =>
          obtain ⟨k, hkn, rfl, hop, hx⟩ := hrel
          have HX := Lib.hid hx
          have hlk := outP_len b0 (ds.take k)
          rw [List.length_take] at hlk
          obtain ⟨np, hnp⟩ : ∃ np, np = (outP b0 (ds.take k)).length := ⟨_, rfl⟩
          rw [← hnp] at hop hlk
          obtain ⟨Ap, cp, rfl, hp1, hp2⟩ := own_shape hop
          have HNP := Lib.hid hnp
          have HOP := Lib.hid hop
          have hn9 : np ≤ 9 := by have := HN9.out; omega
          clear hx hnp hop hlk
          have k0 : (0 : Int) ≤ (k : Int) := by omega
          by_cases hlt : k < n
          case pos =>
            have k1 : (k : Int) < (n : Int) := by omega
            have hkd : k < ds.length := by have := HN9.out; omega
            obtain ⟨A_, N_, c_, e_, hN_, _, _, hcell⟩ := (hdA_of HF1.out HN9.out.1).ask
            injection e_ with e1 e2 e3
            subst e1 e2 e3
            obtain ⟨g, rfl, _, hg⟩ := hcell (by omega)
            obtain ⟨q0, q1, q2, q3, q4, q5, q6, q7⟩ := (hg k hkd).ext HX.out
            have HSN := Lib.hid (show outP b0 (ds.take (k + 1)) = if ds[k].prio = b0 then outP b0 (ds.take k) else outP b0 (ds.take k) ++ [ds[k]] by rw [show ds.take (k + 1) = ds.take k ++ [ds[k]] from (List.take_append_getElem hkd).symm, outP_snoc])
            obtain ⟨d, hd⟩ : ∃ d, d = ds[k] := ⟨_, rfl⟩
            rw [← hd] at q0 q1 q2 q3 q4 q5 q6 q7 HSN
            clear hd hg hcell hN_
            obtain ⟨dp, dl, dm, dc, dnn, dno, dr, dmi⟩ := d
            simp only at q0 q1 q2 q3 q4 q5 q6 q7 HSN
            have z0 := bcel (ext_blk HX.out HBX.out) 0 (.int .i64 b0) rfl
            by_cases hE : dp = b0
            · have t3 : (dp != b0) = false := by simpa using hE
              have HF := Lib.hid (HSN.out.trans (if_pos hE))
              clear hE
              go_wp2_with fail
              go_quiet (fail)
              have X4 := Lib.hid (HX.out.trans (ext_drewN wr nq))
              have HO4 := Lib.hid (own_ExtK HOP.out (ext_drewN wr nq))
              generalize wr.drewN nq = W_ at X4 HO4 ⊢
              go_wp2
              go_roundw
              case rel => exact ⟨k + 1, by omega, by simp, by rw [HF.out, ← HNP.out]; exact HO4.out, X4.out⟩
              case measure => simp [intOf]; omega
            · have t3 : (dp != b0) = true := by simpa using hE
              have HF := Lib.hid (HSN.out.trans (if_neg hE))
              clear hE
              go_wp2_with fail
              go_quiet (fail)
              have d0' := (ext_drewN wr nq).cell q0
              have d1' := (ext_drewN wr nq).cell q1
              have d2' := (ext_drewN wr nq).cell q2
              have d3' := (ext_drewN wr nq).cell q3
              have d4' := (ext_drewN wr nq).cell q4
              have d5' := (ext_drewN wr nq).cell q5
              have d6' := (ext_drewN wr nq).cell q6
              have d7' := (ext_drewN wr nq).cell q7
              have X4 := Lib.hid (HX.out.trans (ext_drewN wr nq))
              have HO4 := Lib.hid (own_ExtK HOP.out (ext_drewN wr nq))
              generalize wr.drewN nq = W_ at X4 HO4 d0' d1' d2' d3' d4' d5' d6' d7' ⊢
              clear q0 q1 q2 q3 q4 q5 q6 q7 z0
              go_wp2_with (at_builtin; go_loud (refine wpList_append_own_at _ rfl (.tmp 94) (.tmp 99) 33 rfl W9.heap.size 25 i0 _ 8 64 Try.underlying33 hc hcz0 hcz1 hcz2 rfl (by decide) _ np _ rfl (HO4.out.alloc _) ⟨_, 0, none⟩ 1 1 (aenc ⟨dp, dl, dm, dc, dnn, dno, dr, dmi⟩) rfl rfl (cell_eight_new W_ ⟨dp, dl, dm, dc, dnn, dno, dr, dmi⟩) (aenc_one _) (by simp [maxLen]; omega) (by omega) (by have := X4.out.size; simp; omega) ?_))
              intro v' w5_ ho5 hg5 _ hat5
              have X6 := Lib.hid (ext_app_own X4.out HO4.out (Nat.le_refl _) hg5)
              obtain ⟨A5, c5_, rfl, hv5, hv6⟩ := own_shape ho5
              have HO5 := Lib.hid ho5
              clear ho5 hg5 hat5
              go_wp2
              go_roundw
              case rel =>
                refine ⟨k + 1, by omega, by simp, ?_, X6.out⟩
                have := HO5.out
                rw [HF.out, List.length_append, List.length_singleton, ← HNP.out, acells_snoc]
                exact this
              case measure => simp [intOf]; omega
          case neg =>
            obtain rfl : k = n := by omega
            have k1 : ¬ (k : Int) < (k : Int) := by omega
            have HTK := Lib.hid (show ds.take k = ds by rw [HN9.out.1, List.take_length])
            rw [HTK.out] at HNP HOP
            have HP1 := Lib.hid HX.out
            have HOP1 := Lib.hid HOP.out
            have HNP1 := Lib.hid HNP.out
            obtain ⟨Ap1, np1, cp1, hd3⟩ : ∃ Ap1 np1 cp1, Ap1 = Ap ∧ np1 = np ∧ cp1 = cp := ⟨_, _, _, rfl, rfl, rfl⟩
            obtain ⟨rfl, rfl, rfl⟩ := hd3
            obtain ⟨WA, hWA⟩ : ∃ WA, WA = wr := ⟨_, rfl⟩
            subst hWA
            have HB9 := Lib.hid (ext_blk HX.out HBX.out)
            have HF9 := Lib.hid (own_ExtK HF2.out HX.out)
            clear HN9 HX HOP HNP HTK hp1 hp2 hn9
            have HN9 := Lib.hid (show m = es.length ∧ m ≤ 9 from ⟨HF4.out.1, by have := HF4.out; omega⟩)
            go_wp2
            go_loopw [15, 17] (fun vp i wr => ∃ (k : Nat), k ≤ m ∧ i = .int .i64 k ∧ wr.ownsRow WA.heap.size 25 8 vp (outP b0 (es.take k)).length (acells (outP b0 (es.take k))) ∧ Ext WA wr) (fun _ i _ => m - (intOf i).toNat)
            case atStart => exact ⟨0, by omega, rfl, World.ownsRow_nil _ _ _ 8, Ext.refl _⟩
            case round =>
              obtain ⟨k, hkn, rfl, hop, hx⟩ := hrel
              have HX := Lib.hid hx
              have hlk := outP_len b0 (es.take k)
              rw [List.length_take] at hlk
              obtain ⟨np, hnp⟩ : ∃ np, np = (outP b0 (es.take k)).length := ⟨_, rfl⟩
              rw [← hnp] at hop hlk
              obtain ⟨Ap, cp, rfl, hp1, hp2⟩ := own_shape hop
              have HNP := Lib.hid hnp
              have HOP := Lib.hid hop
              have hn9 : np ≤ 9 := by have := HN9.out; omega
              clear hx hnp hop hlk
              have k0 : (0 : Int) ≤ (k : Int) := by omega
              by_cases hlt : k < m
              case pos =>
                have k1 : (k : Int) < (m : Int) := by omega
                have hkd : k < es.length := by have := HN9.out; omega
                obtain ⟨A_, N_, c_, e_, hN_, _, _, hcell⟩ := (hdA_of HF9.out HN9.out.1).ask
                injection e_ with e1 e2 e3
                subst e1 e2 e3
                obtain ⟨g, rfl, _, hg⟩ := hcell (by omega)
                obtain ⟨q0, q1, q2, q3, q4, q5, q6, q7⟩ := (hg k hkd).ext HX.out
                have HSN := Lib.hid (show outP b0 (es.take (k + 1)) = if es[k].prio = b0 then outP b0 (es.take k) else outP b0 (es.take k) ++ [es[k]] by rw [show es.take (k + 1) = es.take k ++ [es[k]] from (List.take_append_getElem hkd).symm, outP_snoc])
                obtain ⟨d, hd⟩ : ∃ d, d = es[k] := ⟨_, rfl⟩
                rw [← hd] at q0 q1 q2 q3 q4 q5 q6 q7 HSN
                clear hd hg hcell hN_
                obtain ⟨dp, dl, dm, dc, dnn, dno, dr, dmi⟩ := d
                simp only at q0 q1 q2 q3 q4 q5 q6 q7 HSN
                have z0 := bcel (ext_blk HX.out HB9.out) 0 (.int .i64 b0) rfl
                by_cases hE : dp = b0
                · have t3 : (dp != b0) = false := by simpa using hE
                  have HF := Lib.hid (HSN.out.trans (if_pos hE))
                  clear hE
                  go_wp2_with fail
                  go_quiet (fail)
                  have X4 := Lib.hid (HX.out.trans (ext_drewN wr nq))
                  have HO4 := Lib.hid (own_ExtK HOP.out (ext_drewN wr nq))
                  generalize wr.drewN nq = W_ at X4 HO4 ⊢
                  go_wp2
                  go_roundw
                  case rel => exact ⟨k + 1, by omega, by simp, by rw [HF.out, ← HNP.out]; exact HO4.out, X4.out⟩
                  case measure => simp [intOf]; omega
                · have t3 : (dp != b0) = true := by simpa using hE
                  have HF := Lib.hid (HSN.out.trans (if_neg hE))
                  clear hE
                  go_wp2_with fail
                  go_quiet (fail)
                  have d0' := (ext_drewN wr nq).cell q0
                  have d1' := (ext_drewN wr nq).cell q1
                  have d2' := (ext_drewN wr nq).cell q2
                  have d3' := (ext_drewN wr nq).cell q3
                  have d4' := (ext_drewN wr nq).cell q4
                  have d5' := (ext_drewN wr nq).cell q5
                  have d6' := (ext_drewN wr nq).cell q6
                  have d7' := (ext_drewN wr nq).cell q7
                  have X4 := Lib.hid (HX.out.trans (ext_drewN wr nq))
                  have HO4 := Lib.hid (own_ExtK HOP.out (ext_drewN wr nq))
                  generalize wr.drewN nq = W_ at X4 HO4 d0' d1' d2' d3' d4' d5' d6' d7' ⊢
                  clear q0 q1 q2 q3 q4 q5 q6 q7 z0
                  go_wp2_with (at_builtin; go_loud (refine wpList_append_own_at _ rfl (.tmp 115) (.tmp 120) 33 rfl WA.heap.size 25 i0 _ 8 64 Try.underlying33 hc hcz0 hcz1 hcz2 rfl (by decide) _ np _ rfl (HO4.out.alloc _) ⟨_, 0, none⟩ 1 1 (aenc ⟨dp, dl, dm, dc, dnn, dno, dr, dmi⟩) rfl rfl (cell_eight_new W_ ⟨dp, dl, dm, dc, dnn, dno, dr, dmi⟩) (aenc_one _) (by simp [maxLen]; omega) (by omega) (by have := X4.out.size; simp; omega) ?_))
                  intro v' w5_ ho5 hg5 _ hat5
                  have X6 := Lib.hid (ext_app_own X4.out HO4.out (Nat.le_refl _) hg5)
                  obtain ⟨A5, c5_, rfl, hv5, hv6⟩ := own_shape ho5
                  have HO5 := Lib.hid ho5
                  clear ho5 hg5 hat5
                  go_wp2
                  go_roundw
                  case rel =>
                    refine ⟨k + 1, by omega, by simp, ?_, X6.out⟩
                    have := HO5.out
                    rw [HF.out, List.length_append, List.length_singleton, ← HNP.out, acells_snoc]
                    exact this
                  case measure => simp [intOf]; omega
              case neg =>
                obtain rfl : k = m := by omega
                have k1 : ¬ (k : Int) < (k : Int) := by omega
                have HTK := Lib.hid (show es.take k = es by rw [HN9.out.1, List.take_length])
                rw [HTK.out] at HNP HOP
                go_wp2_with fail
                have HE := Lib.hid (show outP b0 es = outP b0 ds from HF4.out.2.2)
                rw [HE.out] at HNP HOP
                (with_reducible refine (same_any (outP b0 ds) _ _ _ (hdA_of (own_ExtK HOP1.out HX.out) HNP1.out) (hdA_of HOP.out HNP.out) (by have := outP_len b0 ds; have := HL8.out; omega)).mono ?_)
                rintro e w_ ⟨rfl, hx_⟩
                have XF := Lib.hid (((X4.out.trans HF3.out).trans HP1.out).trans (HX.out.trans hx_))
                clear hx_
                go_wp2
                go_ret
                exact ⟨rfl, XF.out⟩
theorem own : ownKnob Try.prog.godebug = none := by kernel_rfl
theorem laidOut : laidOutB Try.prog = true := by kernel_rfl
set_option maxRecDepth 100000 in
theorem lifted (os : Os) (started : os.Started) (H : Type) (enc : TypeId × Value → H) :
    ReturnsInHanded {} Try.checked os 7 .any (Rows.asksAloneSpec.pre6 enc Try.prog Try.f7 Rows.asksAloneRow.domain false) (Rows.asksAloneSpec.post enc Try.prog Try.f7 false true false false) := by
  refine returnsInHanded_of_change (C := Try.checked) own started (by kernel_rfl) Try.func7
    (ChangeSpec.witness6 (enc := enc) (C := Try.checked) false ⟨#[], #[.slice none 0 0, .agg #[.int .i64 0, .int .i64 0, .int .i64 0, .int .i64 0, .int .i64 0, .int .i64 0, .int .i64 0, .int .i64 0], .int .i64 0], []⟩ 8 (by kernel_rfl) (by kernel_rfl) (by kernel_rfl) (by kernel_rfl)) ?_
  intro W base args ds gs before hval0 hW hcnd _
  have hval : ∀ (j : Nat) t v, Try.f7.params[j]? = some t → args[j]? = some v → Value.okWide Try.prog W .any base t v := hval0
  have hW' := hW
  obtain ⟨p, q, hA0, hV, rfl, hfz, hnd⟩ := hW
  have hA : DataW.TrodAll enc Try.prog W 0 (fun _ => true) true Try.f7.params.toList args.toList ds p := hA0
  rw [Try.params7] at hA hval
  obtain ⟨v0, vs0, d0, ds0, p0, q0, hargs, rfl, rfl, h0, r0⟩ := trodAll_cons hA
  obtain ⟨v1, vs1, d1, ds1, p1, q1, rfl, rfl, rfl, h1, r1⟩ := trodAll_cons r0
  obtain ⟨v2, vs2, d2, ds2, p2, q2, rfl, rfl, rfl, h2, r2⟩ := trodAll_cons r1
  obtain ⟨rfl, rfl, rfl⟩ := trodAll_nil r2
  obtain rfl : args = #[v0, v1, v2] := by cases args; simp_all
  obtain ⟨rfl, rfl⟩ := trodVars_none hV
  have hlt0 : ∀ x ∈ p0, x.block < W.heap.size := fun x hx => by simpa using hW'.lt x (by simp [hx])
  obtain ⟨n0, f0, rd0⟩ := open_structs Try.underlying33 (by kernel_rfl) (by decide) askInts (hval 0 33 v0 rfl rfl) h0
  have hlt1 : ∀ x ∈ p1, x.block < W.heap.size := fun x hx => by simpa using hW'.lt x (by simp [hx])
  obtain ⟨A10, A11, A12, A13, A14, A15, A16, A17, rfl⟩ := open_ints8 Try.underlying25 (by kernel_rfl) askInts (hval 1 25 v1 rfl rfl) h1
  obtain ⟨a2, rfl, rfl, rfl, w2⟩ := open_int Try.underlying3 (hval 2 3 v2 rfl rfl) h2
  clear hA0 hval0
  refine (walk W v0 n0 f0 rd0 ⟨A10, A11, A12, A13, A14, A15, A16, A17⟩ a2 w2).mono fun e W' ⟨he, bel⟩ => ?_
  subst he
  exact ⟨_, rfl, _, _, _, [], _, [], hW', trodAll_mk1 (shut_bool Try.underlying4 _), (trodAll_cons_mk (Below.trod laidOut (by kernel_rfl) (of_decide_eq_true (by kernel_rfl)) h0 bel hlt0) (trodAll_cons_mk (Below.trod laidOut (by kernel_rfl) (of_decide_eq_true (by kernel_rfl)) h1 bel hlt1) (trodAll_cons_mk (shut_int Try.underlying3 w2) trodAll_mk0))), rfl, bel.frame _, fun h => by cases h⟩

theorem over : Rows.asksAloneRow.holds Try.pinned (OpenSpec.ofChange Rows.asksAloneSpec) :=
  OpenClaim.holds_of_wide 7 Try.f7 rfl rfl rfl rfl rfl rfl rfl ⟨rfl, rfl, rfl, rfl, rfl⟩ rfl rfl rfl rfl rfl (by kernel_rfl) Try.func7 (by kernel_rfl)
    (of_decide_eq_true (by kernel_rfl)) (by unfold Func.isWrapper; first | (rw [if_pos (by decide +kernel)]; kernel_rfl) | (rw [if_neg (by decide +kernel)]; exact ⟨rfl, rfl⟩))
    (fun os started H enc _ => lifted os started H enc)

theorem proved : Rows.AsksAloneSaid := over
#print axioms proved
end Go.Proofs.Ytbocpkdnlpobkaa.AsksAlone
