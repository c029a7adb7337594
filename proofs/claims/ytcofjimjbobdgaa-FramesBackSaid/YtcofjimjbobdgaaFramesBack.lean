/- The law FramesBack holds at every input: a frame is eight bytes longer than what it holds, and holds it. No condition. -/
import Derived.Test.YtcofjimjbobdgaaFrmH
import Derived.JoinedOf
import Derived.JoinedAt
import Derived.RowKit3
import Derived.Lib.SmallJoins
namespace Go.Proofs.Ytcofjimjbobdgaa.FramesBack
open Go.ChangeShapes Go.WideShapes Go.ChangeAt Go.RowKit Go.Joins

theorem scan_many (B : List UInt8) (h : B.length ≤ 4000) (m : Nat) : scan (logB (List.replicate m B)) = List.replicate m B := by
  have := scan_log [] (List.replicate m B) (fun r hr => by rw [List.mem_replicate] at hr; rw [hr.2]; exact h)
  simpa [scan_nil] using this
theorem bulk_many (B : List UInt8) : ∀ m : Nat, bulk (List.replicate m B) = m * (8 + B.length)
  | 0 => by simp [bulk]
  | m + 1 => by rw [List.replicate_succ, bulk_cons, bulk_many B m, Nat.succ_mul]; omega
theorem rep_snoc (B : List UInt8) (m : Nat) : List.replicate (m + 1) B = List.replicate m B ++ [B] := by rw [List.replicate_succ']

set_option maxHeartbeats 1600000 in
theorem walk (w : World) (v0 : Value) (B : List UInt8) (r0 : Rd w v0 (bvs B)) (n : Int) (_ : (Lit.int .i64 n).wf = true) :
    Calls Try.prog 3 #[v0, .int .i64 n] w fun e w' => e = .returned (.bool true) ∧ Below w.heap.size w w' := by
  obtain ⟨i0, hi, hz0, hz1, hz2⟩ := info_parts Try.infoU8
  have R0 := Lib.hid r0
  obtain ⟨A, N, c, rfl, hN, hc1, hc2, hcell⟩ := r0.open
  have HN := Lib.hid hN
  clear hcell r0 hN
  by_cases h1 : (300 : Int) < (N : Int)
  · go_enter Try.func3, Try.ntmps3
    go_wp2_with fail
    refine (known_any _).mono ?_
    rintro e w1 ⟨rfl, hx1⟩
    go_wp2
    go_ret
    exact ⟨rfl, hx1⟩
  · have hn3 : (N : Int) ≤ 300 := by omega
    have hE := Lib.hid (show fE B = 0 by unfold fE; rw [if_neg (by have := HN.out; omega)])
    have hB := Lib.hid (show fB B = frameB B by unfold fB; rw [if_neg (by have := HN.out; omega)])
    have HBL := Lib.hid (show B.length ≤ 300 by have := HN.out; omega)
    go_enter Try.func3, Try.ntmps3
    go_wp2_with fail
    refine (known_any _).mono ?_
    rintro e w1 ⟨rfl, hx1⟩
    have X1 := Lib.hid (show Ext w w1 from hx1)
    clear hx1
    go_wp2_with fail
    (with_reducible refine (within_some n 4 4 _ rfl (by omega)).mono ?_)
    rintro e w' ⟨m, rfl, hm, rfl⟩
    have hm4 : (m : Int) ≤ 3 := by omega
    have X2 := Lib.hid (X1.out.trans (ext_alloc w1 (.cells #[] 5)))
    have HO := Lib.hid (own_empty w1 w.heap.size X1.out.size)
    go_wp2
    go_loopw [5, 6] (fun b i wr => ∃ k : Nat, k ≤ m ∧ i = .int .i64 k ∧ wr.ownsRow w.heap.size 5 1 b (bulk (List.replicate k B)) (bvs (logB (List.replicate k B))) ∧ Ext w wr) (fun _ i _ => m - (intOf i).toNat)
    case atStart => exact ⟨0, Nat.zero_le _, rfl, HO.out, X2.out⟩
    case round =>
      obtain ⟨k, hk, rfl, ho, hx⟩ := hrel
      have HX := Lib.hid hx
      have HO := Lib.hid ho
      obtain ⟨Ab, nb, cb, rfl⟩ := Rd.shape (Rd.of_own ho)
      clear hx ho
      by_cases hlt : k < m
      · have i1 : (k : Int) < (m : Int) := by omega
        go_wp2_with fail
        (with_reducible refine (Frame_all _ B _ (R0.out.ext HX.out)).mono ?_)
        rw [hE.out, hB.out]
        rintro e w1 ⟨v1, rfl, ho1, hx1⟩
        have HS := Lib.hid ((Rd.of_own ho1).src bvs_one Try.underlying22)
        rw [bvs_length, frameB_length] at HS
        have HO1 := Lib.hid (own_Ext HO.out hx1)
        have HX1 := Lib.hid (HX.out.trans hx1)
        obtain ⟨A1, c1, hv1, _, _⟩ := (Rd.of_own ho1).len
        rw [bvs_length, frameB_length, ← HN.out] at hv1
        subst hv1
        have hbm := Lib.hid (bulk_many B k)
        rw [← HN.out] at hbm HS
        have hbk : bulk (List.replicate k B) ≤ 1000 := by
          have := hbm.out
          have h3 : k * (8 + N) ≤ 3 * (8 + N) := Nat.mul_le_mul_right _ (by omega)
          omega
        clear ho1 hx1
        go_wp2_with (at_builtin; refine wpList_app_src _ rfl (.tmp 40) (.tmp 41) 22 22 rfl w.heap.size 5 i0 (.int .u8 0) 1 Try.underlying22 hi hz0 hz1 hz2 rfl _ (bulk (List.replicate k B)) _ rfl HO1.out _ (N + 8) (bvs (frameB B)) rfl HS.out ?c3 ?c4 ?c5 ?_)
        case c3 => simp [maxLen]; omega
        case c4 => omega
        case c5 => exact HX1.out.size
        intro v' w3 hown' hgrow hat' hfr'
        have HE := Lib.hid (HX1.out.trans' (grown_below hgrow HX1.out.size (own_ge HO1.out (Nat.le_refl _))))
        have HO3 := Lib.hid (show w3.ownsRow w.heap.size 5 1 v' (bulk (List.replicate (k + 1) B)) (bvs (logB (List.replicate (k + 1) B))) by
          rw [rep_snoc, bulk_snoc, logB_snoc, bvs_append, ← HN.out, show 8 + N = N + 8 from Nat.add_comm _ _]; exact hown')
        clear hown' hgrow hat' hfr' HS HO1 HX1
        go_wp2
        go_roundw
        case rel => exact ⟨k + 1, by omega, by go_num, HO3.out, HE.out⟩
        case measure => simp [intOf]; omega
      · obtain rfl : k = m := by omega
        have hbm := bulk_many B k
        have hbl : bulk (List.replicate k B) ≤ 1000 := by
          rw [hbm, ← HN.out]
          have h3 : k * (8 + N) ≤ 3 * (8 + N) := Nat.mul_le_mul_right _ (by omega)
          omega
        have HRA := Lib.hid (Rd.of_own HO.out)
        obtain ⟨A1, c1, hv1, _, _⟩ := HRA.out.len
        rw [bvs_length, logB_length] at hv1
        have hn1 : nb = bulk (List.replicate k B) := by injection hv1
        have HN1 := Lib.hid hn1
        clear hbm hv1 hn1
        go_wp2_with fail
        (with_reducible refine (Scan_any _ _ _ HRA.out (by rw [logB_length]; omega)).mono ?_)
        rw [scan_many B (by have := HBL.out; omega)]
        rintro e w4 ⟨A4, n4, c4, rfl, hr4, hx4⟩
        rw [← HN1.out]
        have X4 := Lib.hid (HX.out.trans hx4)
        have HR4 := Lib.hid hr4
        obtain ⟨A5, n5, c5, hv5, hn5, _, _, hcell5⟩ := hr4.open
        injection hv5 with e1 e2 e3
        subst e1 e2 e3
        rw [List.length_replicate] at hn5
        subst hn5
        have HC5 := Lib.hid hcell5
        clear hcell5 hr4 hx4
        go_wp2
        go_loopw [11] (fun i wr => ∃ j : Nat, j ≤ n4 ∧ i = .int .i64 j ∧ Ext w4 wr) (fun i _ => n4 - (intOf i).toNat)
        case atStart => exact ⟨0, Nat.zero_le _, rfl, Ext.refl _⟩
        case round =>
          obtain ⟨j, hj, rfl, hx⟩ := hrel
          have HXJ := Lib.hid hx
          clear hx
          by_cases hlj : j < n4
          · obtain ⟨a, rfl, hb, hcs⟩ := HC5.out (by omega)
            obtain ⟨x, g1, g2⟩ := hcs j (by rw [List.length_replicate]; omega)
            rw [List.getElem_replicate] at g2
            have g3 := HXJ.out.cell' g1
            have s1 := fun q => (g2.ext (HXJ.out.trans (ext_drewN wr q))).str
            have s2 := fun q => (R0.out.ext (X4.out.trans (HXJ.out.trans (ext_drewN wr q)))).str
            obtain ⟨S, hS⟩ : ∃ S : ByteArray, S = ⟨B.toArray⟩ := ⟨_, rfl⟩
            rw [← hS] at s1 s2
            clear hS g1 hcs
            have i0 : (0 : Int) ≤ (j : Int) := by omega
            have i1 : (j : Int) < (n4 : Int) := by omega
            go_wp2
            go_quiet (fail)
            go_wp2
            go_roundw
            case rel => exact ⟨j + 1, by omega, by go_num, HXJ.out.trans (ext_drewN _ _)⟩
            case measure => simp [intOf]; omega
          · obtain rfl : j = n4 := by omega
            go_wp2
            go_ret
            exact ⟨rfl, X4.out.trans HXJ.out⟩

theorem own : ownKnob Try.prog.godebug = none := by kernel_rfl
theorem laidOut : laidOutB Try.prog = true := by kernel_rfl
set_option maxRecDepth 100000 in
theorem lifted (os : Os) (started : os.Started) (H : Type) (enc : TypeId × Value → H) :
    ReturnsInHanded {} Try.checked os 3 .any (Rows.framesBackSpec.pre6 enc Try.prog Try.f3 Rows.framesBackRow.domain false) (Rows.framesBackSpec.post enc Try.prog Try.f3 false true false false) := by
  refine returnsInHanded_of_change (C := Try.checked) own started (by kernel_rfl) Try.func3
    (ChangeSpec.witness6 (enc := enc) (C := Try.checked) false ⟨#[], #[.slice none 0 0, .int .i64 0], []⟩ 8 (by kernel_rfl) (by kernel_rfl) (by kernel_rfl) (by kernel_rfl)) ?_
  intro W base args ds gs before hval0 hW hcnd _
  have hval : ∀ (j : Nat) t v, Try.f3.params[j]? = some t → args[j]? = some v → Value.okWide Try.prog W .any base t v := hval0
  have hW' := hW
  obtain ⟨p, q, hA0, hV, rfl, hfz, hnd⟩ := hW
  have hA : DataW.TrodAll enc Try.prog W 0 (fun _ => true) true Try.f3.params.toList args.toList ds p := hA0
  rw [Try.params3] at hA hval
  obtain ⟨v0, vs0, d0, ds0, p0, q0, hargs, rfl, rfl, h0, r0⟩ := trodAll_cons hA
  obtain ⟨v1, vs1, d1, ds1, p1, q1, rfl, rfl, rfl, h1, r1⟩ := trodAll_cons r0
  obtain ⟨rfl, rfl, rfl⟩ := trodAll_nil r1
  obtain rfl : args = #[v0, v1] := by cases args; simp_all
  obtain ⟨rfl, rfl⟩ := trodVars_none hV
  have hlt0 : ∀ x ∈ p0, x.block < W.heap.size := fun x hx => by simpa using hW'.lt x (by simp [hx])
  obtain ⟨l0, rd0⟩ := open_bytes Try.underlying22 Try.underlying5 (by kernel_rfl) (hval 0 22 v0 rfl rfl) h0
  obtain ⟨a1, rfl, rfl, rfl, w1⟩ := open_int Try.underlying3 (hval 1 3 v1 rfl rfl) h1
  clear hA0 hval0
  refine (walk W v0 l0 rd0 a1 w1).mono fun e W' ⟨he, bel⟩ => ?_
  subst he
  exact ⟨_, rfl, _, _, _, [], _, [], hW', trodAll_mk1 (shut_bool Try.underlying4 _), (trodAll_cons_mk (Below.trod laidOut (by kernel_rfl) (of_decide_eq_true (by kernel_rfl)) h0 bel hlt0) (trodAll_cons_mk (shut_int Try.underlying3 w1) trodAll_mk0)), rfl, bel.frame _, fun h => by cases h⟩

theorem over : Rows.framesBackRow.holds Try.pinned (OpenSpec.ofChange Rows.framesBackSpec) :=
  OpenClaim.holds_of_wide 3 Try.f3 rfl rfl rfl rfl rfl rfl rfl ⟨rfl, rfl, rfl, rfl, rfl⟩ rfl rfl rfl rfl rfl (by kernel_rfl) Try.func3 (by kernel_rfl)
    (of_decide_eq_true (by kernel_rfl)) (by unfold Func.isWrapper; first | (rw [if_pos (by decide +kernel)]; kernel_rfl) | (rw [if_neg (by decide +kernel)]; exact ⟨rfl, rfl⟩))
    (fun os started H enc _ => lifted os started H enc)

theorem proved : Rows.FramesBackSaid := over
#print axioms proved
end Go.Proofs.Ytcofjimjbobdgaa.FramesBack
