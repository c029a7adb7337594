/- The law AsksOrder holds at every input: a list stands by Prio, each once, none of nothing, at most eight of them; what is missed counts up to a hundred. No condition. -/
import Derived.Test.YtbocpkdnlpobkaaAkX
import Derived.Deep.CutBlock
import Derived.ChangeSlices
import Derived.OpenShut
import Derived.ChangeOld
import Derived.ChangeSame
import Derived.ChangeMaps
import Derived.JoinedOf
import Derived.JoinedAt
import Derived.RowKit3
import Derived.Lib.SmallJoins
namespace Go.Proofs.Ytbocpkdnlpobkaa.AsksOrder
open Go.ChangeShapes Go.WideShapes Go.ChangeAt Go.RowKit Go.Joins

/-- Nothing was missed yet. -/
def ZeroM (ds : List AD) : Prop := ∀ x ∈ ds, x.missed = 0
theorem ZeroM.set {ds : List AD} (h : ZeroM ds) (a : AD) : ZeroM (setA ds a) := by
  intro y hy
  unfold setA putA midA at hy
  rcases List.mem_append.1 hy with hy | hy
  · rcases List.mem_append.1 hy with hy | hy
    · exact h y (List.mem_filter.1 hy).1
    · unfold setOne at hy
      split at hy
      · simp at hy
      · rw [List.mem_singleton] at hy; subst hy; rfl
  · exact h y (List.mem_filter.1 hy).1
/-- One of a Prio was missed j times. -/
def missJ (ds : List AD) (p : Int) (j : Nat) : List AD := ds.map (fun x => if x.prio = p then { x with missed := min (j : Int) 100 } else x)
theorem missJ_len (ds : List AD) (p : Int) (j : Nat) : (missJ ds p j).length = ds.length := by simp [missJ]
theorem missJ_zero {ds : List AD} (h : ZeroM ds) (p : Int) : missJ ds p 0 = ds := by
  unfold missJ
  conv => rhs; rw [← List.map_id ds]
  refine List.map_congr_left fun x hx => ?_
  split
  · have := h x hx
    cases x
    simp at this
    subst this
    rfl
  · rfl
theorem missJ_step (ds : List AD) (p : Int) (j : Nat) : missA (missJ ds p j) p = missJ ds p (j + 1) := by
  unfold missA missJ
  rw [List.map_map]
  refine List.map_congr_left fun x _ => ?_
  simp only [Function.comp]
  by_cases h : x.prio = p
  · rw [if_pos h, if_pos h, if_pos h]
    have : min (min (j : Int) 100 + 1) 100 = min (((j + 1 : Nat)) : Int) 100 := by omega
    rw [this]
  · rw [if_neg h, if_neg h, if_neg h]
theorem missJ_srt {ds : List AD} (h : SrtA ds) (p : Int) (j : Nat) : SrtA (missJ ds p j) := by
  unfold missJ SrtA
  rw [List.pairwise_map]
  refine List.Pairwise.imp ?_ h
  intro a b hab
  have e : ∀ x : AD, (if x.prio = p then { x with missed := min (j : Int) 100 } else x).prio = x.prio := fun x => by split <;> rfl
  rw [e, e]
  exact hab
theorem missJ_ok {ds : List AD} (h : OkA ds) (p : Int) (j : Nat) : OkA (missJ ds p j) := by
  intro y hy
  unfold missJ at hy
  rw [List.mem_map] at hy
  obtain ⟨x, hx, rfl⟩ := hy
  have := h x hx
  split
  · refine ⟨this.1, this.2.1, ?_, ?_⟩
    · show 0 ≤ min (j : Int) 100; omega
    · show min (j : Int) 100 ≤ 100; omega
  · exact this
theorem missJ_get (ds : List AD) (p : Int) (j k : Nat) (hk : k < (missJ ds p j).length) : (missJ ds p j)[k] = if (ds[k]'(by rw [missJ_len] at hk; exact hk)).prio = p then { ds[k]'(by rw [missJ_len] at hk; exact hk) with missed := min (j : Int) 100 } else ds[k]'(by rw [missJ_len] at hk; exact hk) := by simp [missJ]

set_option maxRecDepth 100000 in
set_option maxHeartbeats 12800000 in
theorem walk (w : World) (v : Value) (N : Nat) (f : Nat → Nat → Int) (r0 : RdS 8 w v N f) (prio : Int) (_ : (Lit.int .i64 prio).wf = true) (misses : Int) (_ : (Lit.int .i64 misses).wf = true) :
    Calls Try.prog 6 #[v, .int .i64 prio, .int .i64 misses] w fun e w' => e = .returned (.bool true) ∧ Below w.heap.size w w' := by
  obtain ⟨A, c, rfl, hc1, hc2, hcell⟩ := r0
  unfold maxLen at hc2
  have HC := Lib.hid hcell
  have HW1 := Lib.hid (fun W => within9_some misses 130 130 W rfl ⟨by omega, by omega⟩)
  have HW2 := Lib.hid (fun W => within9_some prio 10 10 W rfl ⟨by omega, by omega⟩)
  clear hcell
  obtain ⟨U, hU⟩ : ∃ U, U = w.heap.size := ⟨_, rfl⟩
  have HU := Lib.hid (show ∀ W, Ext w W → U ≤ W.heap.size from fun W x => by rw [hU]; exact x.size)
  clear hU
  go_enter Try.func6, Try.ntmps6
  go_wp2_with fail
  (with_reducible refine (known9_any _).mono ?_)
  rintro e w1 ⟨rfl, hx1⟩
  have X1 := Lib.hid hx1
  clear hx1
  go_wp2
  go_loopw [7, 8] (fun va i wr => ∃ (k : Nat) (ds : List AD), k ≤ N ∧ k ≤ 30 ∧ i = .int .i64 k ∧ wr.ownsRow U 25 8 va ds.length (acells ds) ∧ SrtA ds ∧ OkA ds ∧ ds.length ≤ 8 ∧ ZeroM ds ∧ Ext w wr) (fun _ i _ => 30 - (intOf i).toNat)
  case atStart => exact ⟨0, [], by omega, by omega, rfl, World.ownsRow_nil _ _ _ 8, List.Pairwise.nil, OkA.nil, by simp, fun x hx => absurd hx (by simp), X1.out⟩
  case round =>
    obtain ⟨k, ds, hkN, hk8, rfl, hoa, hsr, hok, hl8, hzm, hx⟩ := hrel
    have HX := Lib.hid hx
    have HSR := Lib.hid hsr
    have HOK := Lib.hid hok
    have HL8 := Lib.hid hl8
    have HZM := Lib.hid hzm
    obtain ⟨n, hn⟩ : ∃ n, n = ds.length := ⟨_, rfl⟩
    rw [← hn] at hoa
    obtain ⟨Aa, ca, rfl, ha1, ha2⟩ := own_shape hoa
    have HNN := Lib.hid hn
    have HOA := Lib.hid hoa
    have hn8 : n ≤ 8 := by omega
    clear hx hsr hok hl8 hoa hn hzm
    have k0 : (0 : Int) ≤ (k : Int) := by omega
    obtain ⟨tb, htb⟩ : ∃ tb : Bool, tb = (decide (k < N) && decide (k < 30)) := ⟨_, rfl⟩
    have HTB := Lib.hid htb
    clear htb
    go_upto_region 5 with fail
    go_cut [26] from 19 to 26 (fun s_ wx => s_ = .bool tb ∧ wx = wr)
    case first =>
      by_cases hlt : k < N
      · have k1 : (k : Int) < (N : Int) := by omega
        by_cases hlt2 : k < 30
        · have k2 : (k : Int) < 30 := by omega
          obtain rfl : tb = true := by rw [HTB.out]; simp [hlt, hlt2]
          go_wp2_with fail
          go_meet
          case rel => exact ⟨rfl, rfl⟩
        · have k2 : ¬ (k : Int) < 30 := by omega
          obtain rfl : tb = false := by rw [HTB.out]; simp [hlt2]
          go_wp2_with fail
          go_meet
          case rel => exact ⟨rfl, rfl⟩
      · have k1 : ¬ (k : Int) < (N : Int) := by omega
        obtain rfl : tb = false := by rw [HTB.out]; simp [hlt]
        go_wp2_with fail
        go_meet
        case rel => exact ⟨rfl, rfl⟩
    case rest =>
     obtain ⟨rfl, rfl⟩ := hcut
     cases tb
     case true =>
      obtain ⟨hlt, hlt2⟩ : k < N ∧ k < 30 := by simpa using HTB.out.symm
      have k1 : (k : Int) < (N : Int) := by omega
      have HK1 := Lib.hid (show k + 1 ≤ N ∧ k + 1 ≤ 30 by omega)
      obtain ⟨a_, rfl, hb_, hcs⟩ := HC.out (by omega)
      obtain ⟨q0, q1, q2, q3, q4, q5, q6, q7⟩ := ask_cells (fun j hj => HX.out.cell' (hcs k hlt j hj))
      have HGD := Lib.hid (fun W => good_any ⟨f k 0, f k 1, f k 2, f k 3, f k 4, f k 5, f k 6, f k 7⟩ W)
      have HGC := Lib.hid (good_count ⟨f k 0, f k 1, f k 2, f k 3, f k 4, f k 5, f k 6, f k 7⟩)
      obtain ⟨x0, e0⟩ : ∃ x, x = f k 0 := ⟨_, rfl⟩
      rw [← e0] at q0 HGD HGC
      obtain ⟨x1, e1⟩ : ∃ x, x = f k 1 := ⟨_, rfl⟩
      rw [← e1] at q1 HGD HGC
      obtain ⟨x2, e2⟩ : ∃ x, x = f k 2 := ⟨_, rfl⟩
      rw [← e2] at q2 HGD HGC
      obtain ⟨x3, e3⟩ : ∃ x, x = f k 3 := ⟨_, rfl⟩
      rw [← e3] at q3 HGD HGC
      obtain ⟨x4, e4⟩ : ∃ x, x = f k 4 := ⟨_, rfl⟩
      rw [← e4] at q4 HGD HGC
      obtain ⟨x5, e5⟩ : ∃ x, x = f k 5 := ⟨_, rfl⟩
      rw [← e5] at q5 HGD HGC
      obtain ⟨x6, e6⟩ : ∃ x, x = f k 6 := ⟨_, rfl⟩
      rw [← e6] at q6 HGD HGC
      obtain ⟨x7, e7⟩ : ∃ x, x = f k 7 := ⟨_, rfl⟩
      rw [← e7] at q7 HGD HGC
      clear e0 e1 e2 e3 e4 e5 e6 e7 hcs hb_
      obtain ⟨g, hg⟩ : ∃ g, g = goodA ⟨x0, x1, x2, x3, x4, x5, x6, x7⟩ := ⟨_, rfl⟩
      rw [← hg] at HGD HGC
      clear hg
      obtain ⟨g0, g1, g2, g3, g4, g5, g6, g7⟩ := g
      simp only [askV] at HGD HGC
      go_wp2_with fail
      (with_reducible refine (HGD.out _).mono ?_)
      rintro e w2 ⟨rfl, hx2⟩
      go_upto_region 8 with fail
      refine at_world (fun W3 hW3 => ?_)
      have HB3 := Lib.hid (show W3.heap[w2.heap.size]? = some (.cells #[.int .i64 g0, .int .i64 g1, .int .i64 g2, .int .i64 g3, .int .i64 g4, .int .i64 g5, .int .i64 g6, .int .i64 g7] 25 (0, 0)) by rw [hW3]; exact heap_alloc_new w2 _)
      have Y2 := Lib.hid (HX.out.trans (show Ext wc W3 by rw [hW3]; exact hx2.trans (ext_alloc _ _)))
      have HOA2 := Lib.hid (own_ExtK HOA.out (show Ext wc W3 by rw [hW3]; exact hx2.trans (ext_alloc _ _)))
      obtain ⟨B, hB⟩ : ∃ B, B = w2.heap.size := ⟨_, rfl⟩
      rw [← hB] at HB3 ⊢
      clear q0 q1 q2 q3 q4 q5 q6 q7 hx2 hW3 hB
      have c0 := bcel HB3.out 0 (.int .i64 g0) rfl
      have c1 := bcel HB3.out 1 (.int .i64 g1) rfl
      have c2 := bcel HB3.out 2 (.int .i64 g2) rfl
      have c3 := bcel HB3.out 3 (.int .i64 g3) rfl
      have c4 := bcel HB3.out 4 (.int .i64 g4) rfl
      have c5 := bcel HB3.out 5 (.int .i64 g5) rfl
      have c6 := bcel HB3.out 6 (.int .i64 g6) rfl
      have c7 := bcel HB3.out 7 (.int .i64 g7) rfl
      have HS1 := Set_any ds (.slice Aa n ca) ⟨g0, g1, g2, g3, g4, g5, g6, g7⟩ W3 (hdA_of HOA2.out HNN.out) (by have := HL8.out; omega) HSR.out
      have HS1 := Lib.hid HS1
      have HTW := Lib.hid (setL_two ds ⟨g0, g1, g2, g3, g4, g5, g6, g7⟩)
      have HSL := Lib.hid (HSR.out.setL ⟨g0, g1, g2, g3, g4, g5, g6, g7⟩)
      have HKL := Lib.hid (HOK.out.setL (a := ⟨g0, g1, g2, g3, g4, g5, g6, g7⟩) ⟨HGC.out.1, by have := HGC.out.2; simp only at this ⊢; omega⟩)
      obtain ⟨SE, hSE⟩ : ∃ SE, SE = setE ds ⟨g0, g1, g2, g3, g4, g5, g6, g7⟩ := ⟨_, rfl⟩
      obtain ⟨SL, hSL⟩ : ∃ SL, SL = setL ds ⟨g0, g1, g2, g3, g4, g5, g6, g7⟩ := ⟨_, rfl⟩
      rw [← hSE] at HS1 HTW
      rw [← hSL] at HS1 HTW HSL HKL
      clear hSE
      have HSLE := Lib.hid hSL
      clear hSL
      simp only [askV] at HS1
      go_wp2_with fail
      (with_reducible refine (HS1.out).mono ?_)
      rintro e w5 ⟨vp, rfl, hop, hx5⟩
      obtain ⟨np, hnp⟩ : ∃ np, np = SL.length := ⟨_, rfl⟩
      rw [← hnp] at hop
      obtain ⟨Ap, cp, rfl, hp1, hp2⟩ := own_shape hop
      have HOP := Lib.hid (own_lower (B' := U) hop (by have := HU.out _ Y2.out; omega))
      have X5 := Lib.hid hx5
      have X5w := Lib.hid (Y2.out.trans hx5)
      have HOA5 := Lib.hid (own_ExtK HOA2.out hx5)
      have HNP := Lib.hid hnp
      clear hop hx5 HS1 hnp
      clear c0 c1 c2 c3 c4 c5 c6 c7
      rcases HTW.out with ⟨h1, h2, h3⟩ | ⟨h1, h2, h3⟩
      · subst h1
        have HSA := Lib.hid (And.intro h2 h3)
        clear h2 h3 HTW
        go_wp2
        go_roundw
        case rel => exact ⟨k + 1, SL, HK1.out.1, HK1.out.2, by simp, by rw [← HNP.out]; exact HOP.out, HSL.out, HKL.out, by rw [HSA.out.1]; exact HSA.out.2, by rw [HSA.out.1]; exact HZM.out.set _, X5w.out⟩
        case measure => simp [intOf]; omega
      · subst h1
        have hn9 : n = 8 := by have h4 := setA_len HSR.out ⟨g0, g1, g2, g3, g4, g5, g6, g7⟩; have h5 := HL8.out; have h6 := HNN.out; omega
        subst hn9
        clear h2 h3 HTW
        go_wp2
        go_roundw
        case rel => exact ⟨k + 1, ds, HK1.out.1, HK1.out.2, by simp, by rw [← HNN.out]; exact HOA5.out, HSR.out, HOK.out, HL8.out, HZM.out, X5w.out⟩
        case measure => simp [intOf]; omega
     case false =>
      clear HTB HC
      go_wp2
      go_loopw [12] (fun i wr => ∃ (j : Nat), j ≤ n ∧ i = .int .i64 j ∧ Ext wc wr) (fun i _ => n - (intOf i).toNat)
      case atStart => exact ⟨0, by omega, rfl, Ext.refl _⟩
      case round =>
        obtain ⟨j, hjn, rfl, hx⟩ := hrel
        have HY := Lib.hid hx
        clear hx
        have j0 : (0 : Int) ≤ (j : Int) := by omega
        by_cases hlt : j < n
        case pos =>
          have j1 : (j : Int) < (n : Int) := by omega
          have hjd : j < ds.length := by have := HNN.out; omega
          obtain ⟨A_, N_, c_, e_, hN_, _, _, hcell⟩ := (hdA_of HOA.out HNN.out).ask
          injection e_ with e1 e2 e3
          subst e1 e2 e3
          obtain ⟨g, rfl, _, hg⟩ := hcell (by omega)
          obtain ⟨q0, q1, q2, q3, q4, q5, q6, q7⟩ := (hg j hjd).ext HY.out
          obtain ⟨hk1, _, _, _⟩ := HOK.out _ (List.getElem_mem hjd)
          have t1 : (ds[j].count == 0) = false := by simp; omega
          cases j with
          | zero =>
            obtain ⟨dc_, hdc⟩ : ∃ q, q = (ds[0]'hjd).count := ⟨_, rfl⟩
            rw [← hdc] at q4 t1
            clear hg hcell hN_ hk1 hdc q0 q1 q2 q3 q5 q6 q7
            go_wp2_with fail
            go_quiet (fail)
            have HY2 := Lib.hid (HY.out.trans (ext_drewN wr nq))
            generalize wr.drewN nq = W_ at HY2 ⊢
            go_wp2
            go_roundw
            case rel => exact ⟨1, by omega, by simp, HY2.out⟩
            case measure => simp [intOf]; omega
          | succ i =>
            have p0 := ((hg i (by omega)).ext HY.out).1
            have hpp : ds[i].prio < ds[i + 1].prio := (List.pairwise_iff_getElem.1 HSR.out) i (i + 1) (by omega) hjd (by omega)
            obtain ⟨m, hm⟩ : ∃ m, m = i + 1 := ⟨_, rfl⟩
            obtain ⟨dc_, hdc⟩ : ∃ q, q = (ds[i + 1]'hjd).count := ⟨_, rfl⟩
            obtain ⟨dp_, hdp⟩ : ∃ q, q = (ds[i + 1]'hjd).prio := ⟨_, rfl⟩
            obtain ⟨ep_, hep⟩ : ∃ q, q = (ds[i]'(by omega)).prio := ⟨_, rfl⟩
            rw [← hdc] at q4 t1
            rw [← hdp] at q0 hpp
            rw [← hep] at p0 hpp
            rw [← hm] at q0 q4 j0 j1 ⊢
            have hw1 : IntKind.wrap .i64 ((m : Int) - 1) = (i : Int) := by rw [IntKind.wrap_i64]; omega
            have hw2 : wrap64 ((m : Int) - 1) = (i : Int) := by unfold wrap64; omega
            have t2 : decide ((m : Int) > 0) = true := by simp; omega
            have t2n : 0 < m := by omega
            have t2m : decide (0 < m) = true := by simpa using t2n
            have t2' : decide ((0 : Int) < (m : Int)) = true := by simp; omega
            have t3 : decide (ep_ ≥ dp_) = false := by simp; omega
            have t3' : decide (dp_ ≤ ep_) = false := by simp; omega
            have i0 : (0 : Int) ≤ (i : Int) := by omega
            have i1 : (i : Int) < (n : Int) := by omega
            have HMN := Lib.hid (show m + 1 ≤ n by omega)
            clear hg hcell hN_ hk1 hdc hdp hep q1 q2 q3 q5 q6 q7 hm hpp
            go_wp2_with fail
            refine wp_region_sched Ext ext_way [(0, true), (1, true), (2, true), (3, true), (4, true), (5, true), (6, true), (7, true), (8, true), (9, true), (10, true), (11, true), (12, true), (13, true), (14, true), (15, true), (16, true), (17, true), (18, true), (19, true), (20, true), (21, true), (22, true), (23, true)] (by kernel_rfl) (by kernel_rfl) (fun _ _ _ _ _ h => h) ?_
            repeat first | ((with_reducible refine sched_free ?_ ?_ ?_ ?_ (fun wk k1 => ?_) ?_); rotate_left 2; (rfl); (first | exact want_none rfl | exact want_some rfl rfl rfl rfl); (go_simp; first | exact OkX.val | (have y0 := ((Ext.drew _).trans k1).cell q0; have y4 := ((Ext.drew _).trans k1).cell q4; have yp := ((Ext.drew _).trans k1).cell p0; go_simp; first | exact OkX.val | (simp only [hw1, hw2]; exact OkX.val))); simp only [Act.put, List.setIfInBounds_toArray, List.set_cons_zero, List.set_cons_succ]) | ((with_reducible refine sched_skip ?_ ?_ ?_ ?_); rotate_left; (rfl); (exact want_not rfl rfl rfl rfl rfl); simp only [Act.put, List.setIfInBounds_toArray, List.set_cons_zero, List.set_cons_succ])
            refine sched_done (fun W_ k1 => ?_)
            have HY2 := Lib.hid (HY.out.trans ((Ext.drew _).trans k1))
            clear hw1 hw2 k1
            go_wp2
            go_roundw
            case rel => exact ⟨m + 1, HMN.out, by simp, HY2.out⟩
            case measure => simp [intOf]; omega
        case neg =>
          obtain rfl : j = n := by omega
          have j1 : ¬ (j : Int) < (j : Int) := by omega
          have X6 := Lib.hid (HX.out.trans HY.out)
          have HOA6 := Lib.hid (own_ExtK HOA.out HY.out)
          clear HX HY HOA
          obtain ⟨W6, hW6⟩ : ∃ W6, W6 = wr := ⟨_, rfl⟩
          subst hW6
          go_wp2_with fail
          (with_reducible refine (HW1.out _).mono ?_)
          rintro e w5 ⟨y, rfl, hyy, hy, rfl⟩
          clear hyy
          go_wp2_with fail
          (with_reducible refine (HW2.out _).mono ?_)
          rintro e w5 ⟨z, rfl, hzz, hz, rfl⟩
          clear hzz
          go_wp2
          go_loopw [13, 14] (fun vb i wr => ∃ (t : Nat), t ≤ y ∧ i = .int .i64 t ∧ wr.ownsRow U 25 8 vb j (acells (missJ ds (z : Int) t)) ∧ Ext W6 wr) (fun _ i _ => y - (intOf i).toNat)
          case atStart => exact ⟨0, by omega, rfl, by rw [missJ_zero HZM.out]; exact HOA6.out, Ext.refl _⟩
          case round =>
            obtain ⟨t, hty, rfl, hob, hx⟩ := hrel
            have HY := Lib.hid hx
            obtain ⟨Ab, cb, rfl, hb1, hb2⟩ := own_shape hob
            have HOB := Lib.hid hob
            clear hx hob
            have t0 : (0 : Int) ≤ (t : Int) := by omega
            have HML := Lib.hid (show j = (missJ ds (z : Int) t).length by rw [missJ_len]; exact HNN.out)
            by_cases hlt : t < y
            case pos =>
              have t1 : (t : Int) < (y : Int) := by omega
              have HM := Lib.hid (Miss_any (missJ ds (z : Int) t) (.slice Ab j cb) (z : Int) wr (hdA_of HOB.out HML.out) (by have := HML.out; omega) (missJ_srt HSR.out _ _) (missJ_ok HOK.out _ _))
              have HMS := Lib.hid (missJ_step ds (z : Int) t)
              rw [HMS.out] at HM
              go_wp2_with fail
              (with_reducible refine (HM.out).mono ?_)
              rintro e w5 ⟨vp, rfl, hop, hx5⟩
              rw [show (missJ ds (z : Int) (t + 1)).length = j by rw [missJ_len]; exact HNN.out.symm] at hop
              obtain ⟨Ap, cp, rfl, hp1, hp2⟩ := own_shape hop
              have HOP := Lib.hid (own_lower (B' := U) hop (HU.out _ (X6.out.trans HY.out)))
              have X5 := Lib.hid (HY.out.trans hx5)
              clear hop hx5 HM
              go_wp2
              go_roundw
              case rel => exact ⟨t + 1, by omega, by simp, HOP.out, X5.out⟩
              case measure => simp [intOf]; omega
            case neg =>
              obtain rfl : t = y := by omega
              have t1 : ¬ (t : Int) < (t : Int) := by omega
              obtain ⟨W7, hW7⟩ : ∃ W7, W7 = wr := ⟨_, rfl⟩
              subst hW7
              have X7 := Lib.hid (X6.out.trans HY.out)
              clear HY
              go_wp2
              go_loopw [15, 16] (fun i s16 wr => ∃ (m : Nat), m ≤ j ∧ i = .int .i64 m ∧ Ext W7 wr) (fun i _ _ => j - (intOf i).toNat)
              case atStart => exact ⟨0, by omega, rfl, Ext.refl _⟩
              case round =>
                obtain ⟨m, hmj, rfl, hx⟩ := hrel
                have HY := Lib.hid hx
                clear hx
                have m0 : (0 : Int) ≤ (m : Int) := by omega
                by_cases hlt : m < j
                case pos =>
                  have m1 : (m : Int) < (j : Int) := by omega
                  have hmd : m < (missJ ds (z : Int) t).length := by have := HML.out; omega
                  have hmd2 : m < ds.length := by have := HNN.out; omega
                  obtain ⟨A_, N_, c_, e_, hN_, _, _, hcell⟩ := (hdA_of HOB.out HML.out).ask
                  injection e_ with e1 e2 e3
                  subst e1 e2 e3
                  obtain ⟨g, rfl, _, hg⟩ := hcell (by omega)
                  obtain ⟨q0, q1, q2, q3, q4, q5, q6, q7⟩ := (hg m hmd).ext HY.out
                  rw [missJ_get] at q0 q7
                  have hz0 := HZM.out _ (List.getElem_mem hmd2)
                  clear hg hcell hN_ q1 q2 q3 q4 q5 q6
                  by_cases hE : ds[m].prio = (z : Int)
                  · rw [if_pos hE] at q0 q7
                    simp only at q0 q7
                    rw [hE] at q0
                    have t5 : ((z : Int) == (z : Int)) = true := by simp
                    clear hE hz0
                    by_cases h100 : (100 : Int) < (t : Int)
                    · rw [show min (t : Int) 100 = 100 by omega] at q7
                      go_wp2
                      go_roundw
                      case rel => exact ⟨m + 1, by omega, by simp, HY.out⟩
                      case measure => simp [intOf]; omega
                    · rw [show min (t : Int) 100 = (t : Int) by omega] at q7
                      have t6 : ((t : Int) != (t : Int)) = false := by simp
                      go_wp2
                      go_roundw
                      case rel => exact ⟨m + 1, by omega, by simp, HY.out⟩
                      case measure => simp [intOf]; omega
                  · rw [if_neg hE] at q0 q7
                    rw [hz0] at q7
                    obtain ⟨dp_, hdp⟩ : ∃ q, q = (ds[m]'hmd2).prio := ⟨_, rfl⟩
                    rw [← hdp] at q0 hE
                    have t5 : (dp_ == (z : Int)) = false := by simpa using hE
                    clear hE hz0 hdp
                    go_wp2
                    go_roundw
                    case rel => exact ⟨m + 1, by omega, by simp, HY.out⟩
                    case measure => simp [intOf]; omega
                case neg =>
                  obtain rfl : m = j := by omega
                  have m1 : ¬ (m : Int) < (m : Int) := by omega
                  have t6 : decide ((m : Int) ≤ 8) = true := by simp; omega
                  have t7 : ((m : Int) == (m : Int)) = true := by simp
                  go_wp2
                  go_ret
                  exact ⟨rfl, X7.out.trans HY.out⟩

theorem own : ownKnob Try.prog.godebug = none := by kernel_rfl
theorem laidOut : laidOutB Try.prog = true := by kernel_rfl
set_option maxRecDepth 100000 in
theorem lifted (os : Os) (started : os.Started) (H : Type) (enc : TypeId × Value → H) :
    ReturnsInHanded {} Try.checked os 6 .any (Rows.asksOrderSpec.pre6 enc Try.prog Try.f6 Rows.asksOrderRow.domain false) (Rows.asksOrderSpec.post enc Try.prog Try.f6 false true false false) := by
  refine returnsInHanded_of_change (C := Try.checked) own started (by kernel_rfl) Try.func6
    (ChangeSpec.witness6 (enc := enc) (C := Try.checked) false ⟨#[], #[.slice none 0 0, .int .i64 0, .int .i64 0], []⟩ 8 (by kernel_rfl) (by kernel_rfl) (by kernel_rfl) (by kernel_rfl)) ?_
  intro W base args ds gs before hval0 hW hcnd _
  have hval : ∀ (j : Nat) t v, Try.f6.params[j]? = some t → args[j]? = some v → Value.okWide Try.prog W .any base t v := hval0
  have hW' := hW
  obtain ⟨p, q, hA0, hV, rfl, hfz, hnd⟩ := hW
  have hA : DataW.TrodAll enc Try.prog W 0 (fun _ => true) true Try.f6.params.toList args.toList ds p := hA0
  rw [Try.params6] at hA hval
  obtain ⟨v0, vs0, d0, ds0, p0, q0, hargs, rfl, rfl, h0, r0⟩ := trodAll_cons hA
  obtain ⟨v1, vs1, d1, ds1, p1, q1, rfl, rfl, rfl, h1, r1⟩ := trodAll_cons r0
  obtain ⟨v2, vs2, d2, ds2, p2, q2, rfl, rfl, rfl, h2, r2⟩ := trodAll_cons r1
  obtain ⟨rfl, rfl, rfl⟩ := trodAll_nil r2
  obtain rfl : args = #[v0, v1, v2] := by cases args; simp_all
  obtain ⟨rfl, rfl⟩ := trodVars_none hV
  have hlt0 : ∀ x ∈ p0, x.block < W.heap.size := fun x hx => by simpa using hW'.lt x (by simp [hx])
  obtain ⟨n0, f0, rd0⟩ := open_structs Try.underlying33 (by kernel_rfl) (by decide) askInts (hval 0 33 v0 rfl rfl) h0
  obtain ⟨a1, rfl, rfl, rfl, w1⟩ := open_int Try.underlying3 (hval 1 3 v1 rfl rfl) h1
  obtain ⟨a2, rfl, rfl, rfl, w2⟩ := open_int Try.underlying3 (hval 2 3 v2 rfl rfl) h2
  clear hA0 hval0
  refine (walk W v0 n0 f0 rd0 a1 w1 a2 w2).mono fun e W' ⟨he, bel⟩ => ?_
  subst he
  exact ⟨_, rfl, _, _, _, [], _, [], hW', trodAll_mk1 (shut_bool Try.underlying4 _), (trodAll_cons_mk (Below.trod laidOut (by kernel_rfl) (of_decide_eq_true (by kernel_rfl)) h0 bel hlt0) (trodAll_cons_mk (shut_int Try.underlying3 w1) (trodAll_cons_mk (shut_int Try.underlying3 w2) trodAll_mk0))), rfl, bel.frame _, fun h => by cases h⟩

theorem over : Rows.asksOrderRow.holds Try.pinned (OpenSpec.ofChange Rows.asksOrderSpec) :=
  OpenClaim.holds_of_wide 6 Try.f6 rfl rfl rfl rfl rfl rfl rfl ⟨rfl, rfl, rfl, rfl, rfl⟩ rfl rfl rfl rfl rfl (by kernel_rfl) Try.func6 (by kernel_rfl)
    (of_decide_eq_true (by kernel_rfl)) (by unfold Func.isWrapper; first | (rw [if_pos (by decide +kernel)]; kernel_rfl) | (rw [if_neg (by decide +kernel)]; exact ⟨rfl, rfl⟩))
    (fun os started H enc _ => lifted os started H enc)

theorem proved : Rows.AsksOrderSaid := over
#print axioms proved
end Go.Proofs.Ytbocpkdnlpobkaa.AsksOrder
