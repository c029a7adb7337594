/- The law FramesWrite holds at every input: any bytes' checksum, and frame, is the document's. No condition. -/
import Derived.Test.YtcofjimjbobdgaaFrmH
import Derived.JoinedOf
import Derived.JoinedAt
import Derived.RowKit3
import Derived.Lib.SmallJoins
namespace Go.Proofs.Ytcofjimjbobdgaa.FramesWrite
open Go.ChangeShapes Go.WideShapes Go.ChangeAt Go.RowKit Go.Joins

theorem zeros_bvs (m : Nat) : List.replicate m (Value.int .u8 0) = bvs (List.replicate m 0) := by simp [bvs, bv]

set_option maxHeartbeats 1600000 in
theorem walk (w : World) (v0 : Value) (B : List UInt8) (r0 : Rd w v0 (bvs B)) (n : Int) (_ : (Lit.int .i64 n).wf = true) :
    Calls Try.prog 5 #[v0, .int .i64 n] w fun e w' => e = .returned (.bool true) ∧ Below w.heap.size w w' := by
  obtain ⟨i0, hi, hz0, hz1, hz2⟩ := info_parts Try.infoU8
  have R0 := Lib.hid r0
  obtain ⟨A, N, c, rfl, hN, hc1, hc2, hcell⟩ := r0.open
  have HN := Lib.hid hN
  have tail : ∀ (w1 : World) (x : Value) (l : List UInt8), Ext w w1 → Rd w1 x (bvs l) → True := fun _ _ _ _ _ => trivial
  clear hcell r0 hN tail
  by_cases h1 : (5000 : Int) < (N : Int)
  · go_enter Try.func5, Try.ntmps5
    go_wp2_with fail
    refine (known_any _).mono ?_
    rintro e w1 ⟨rfl, hx1⟩
    go_wp2
    go_ret
    exact ⟨rfl, hx1⟩
  · have hn5 : (N : Int) ≤ 5000 := by omega
    by_cases h2 : (n.tmod 5 == 4) = true
    · go_enter Try.func5, Try.ntmps5
      go_wp2_with fail
      refine (known_any _).mono ?_
      rintro e w1 ⟨rfl, hx1⟩
      have X1 := Lib.hid (show Ext w w1 from hx1)
      have HO := Lib.hid (own_empty w1 w.heap.size X1.out.size)
      have HS := Lib.hid ((R0.out.ext (X1.out.trans (ext_alloc w1 (.cells #[] 5)))).src bvs_one Try.underlying22)
      rw [bvs_length, ← HN.out] at HS
      clear hx1
      go_wp2_with (at_builtin; refine wpList_app_src _ rfl (.tmp 17) (.tmp 18) 22 22 rfl w.heap.size 5 i0 (.int .u8 0) 1 Try.underlying22 hi hz0 hz1 hz2 rfl _ 0 [] rfl HO.out _ N (bvs B) rfl HS.out ?c3 ?c4 ?c5 ?_)
      case c3 => simp [maxLen]; omega
      case c4 => omega
      case c5 => have := X1.out.size; simp; omega
      intro v2 w2 ho2 hgrow _ _
      have X2 := Lib.hid ((X1.out.trans (ext_alloc w1 (.cells #[] 5))).trans' (grown_below hgrow (by have := X1.out.size; simp; omega) (fun k hk => by simp [Value.ownBlock] at hk; have := X1.out.size; omega)))
      have HO2 := Lib.hid ho2
      clear ho2 hgrow HO HS
      go_wp2_with fail
      (with_reducible refine (within_some n 20 20 _ rfl (by omega)).mono ?_)
      rintro e w' ⟨y, rfl, hy, rfl⟩
      go_wp2_with (at_builtin; refine wpList_app_mk _ rfl (.tmp 19) (.tmp 22) 22 3 rfl w.heap.size 5 i0 (.int .u8 0) 1 Try.underlying22 Try.underlying3 hi hz0 hz1 hz2 rfl rfl _ N _ rfl HO2.out _ (3990 + y) rfl ?d1 ?d2 ?d3 ?d4 ?d5 ?_)
      case d1 => omega
      case d2 => omega
      case d3 => simp [maxLen]; omega
      case d4 => omega
      case d5 => exact X2.out.size
      intro v3 w3 ho3 hgrow hat
      have X3 := Lib.hid (X2.out.trans' (grown_below hgrow X2.out.size (own_ge HO2.out (Nat.le_refl _))))
      have HR3 := Lib.hid (show Rd w3 v3 (bvs (B ++ List.replicate (3990 + y) 0)) by rw [bvs_append, ← zeros_bvs]; simpa using Rd.of_own ho3)
      obtain ⟨A3, n3, c3, rfl⟩ := Rd.shape (Rd.of_own ho3)
      clear ho3 hgrow hat HO2 X2
      generalize B ++ List.replicate (3990 + y) 0 = L at *
      go_wp2_with fail
      (with_reducible refine (Frame_all _ L _ HR3.out).mono ?_)
      rintro e w4 ⟨v4, rfl, ho4, hx4⟩
      have X4 := Lib.hid (X3.out.trans hx4)
      have HR4 := Lib.hid (HR3.out.ext hx4)
      have HO4 := Lib.hid (Rd.of_own ho4)
      obtain ⟨A4, n4, c4, rfl⟩ := Rd.shape (Rd.of_own ho4)
      clear ho4 hx4
      go_wp2_with fail
      (with_reducible refine (rFrame_all _ L _ HR4.out).mono ?_)
      rintro e w5 ⟨v5, rfl, ho5, hx5⟩
      have X5 := Lib.hid (X4.out.trans hx5)
      have HR5 := Lib.hid (HR4.out.ext hx5)
      have s4 := (HO4.out.ext hx5).str
      have s5 := (Rd.of_own ho5).str
      obtain ⟨S, hS⟩ : ∃ S : ByteArray, S = ⟨(fB L).toArray⟩ := ⟨_, rfl⟩
      rw [← hS] at s4 s5
      obtain ⟨A5, n5, c5, rfl⟩ := Rd.shape (Rd.of_own ho5)
      clear ho5 hx5 hS HO4
      go_wp2_with fail
      (with_reducible refine (Crc_any _ L _ HR5.out).mono ?_)
      rintro e w' ⟨rfl, rfl⟩
      go_wp2_with fail
      (with_reducible refine (rCrc_any _ L _ HR5.out).mono ?_)
      rintro e w' ⟨rfl, rfl⟩
      go_wp2
      go_ret
      exact ⟨rfl, X5.out⟩
    · have h2 : (n.tmod 5 == 4) = false := by simpa using h2
      go_enter Try.func5, Try.ntmps5
      go_wp2_with fail
      refine (known_any _).mono ?_
      rintro e w3 ⟨rfl, hx1⟩
      have X3 := Lib.hid (show Ext w w3 from hx1)
      have HR3 := Lib.hid (R0.out.ext hx1)
      clear hx1
      generalize B = L at *
      go_wp2_with fail
      (with_reducible refine (Frame_all _ L _ HR3.out).mono ?_)
      rintro e w4 ⟨v4, rfl, ho4, hx4⟩
      have X4 := Lib.hid (X3.out.trans hx4)
      have HR4 := Lib.hid (HR3.out.ext hx4)
      have HO4 := Lib.hid (Rd.of_own ho4)
      obtain ⟨A4, n4, c4, rfl⟩ := Rd.shape (Rd.of_own ho4)
      clear ho4 hx4
      go_wp2_with fail
      (with_reducible refine (rFrame_all _ L _ HR4.out).mono ?_)
      rintro e w5 ⟨v5, rfl, ho5, hx5⟩
      have X5 := Lib.hid (X4.out.trans hx5)
      have HR5 := Lib.hid (HR4.out.ext hx5)
      have s4 := (HO4.out.ext hx5).str
      have s5 := (Rd.of_own ho5).str
      obtain ⟨S, hS⟩ : ∃ S : ByteArray, S = ⟨(fB L).toArray⟩ := ⟨_, rfl⟩
      rw [← hS] at s4 s5
      obtain ⟨A5, n5, c5, rfl⟩ := Rd.shape (Rd.of_own ho5)
      clear ho5 hx5 hS HO4
      go_wp2_with fail
      (with_reducible refine (Crc_any _ L _ HR5.out).mono ?_)
      rintro e w' ⟨rfl, rfl⟩
      go_wp2_with fail
      (with_reducible refine (rCrc_any _ L _ HR5.out).mono ?_)
      rintro e w' ⟨rfl, rfl⟩
      go_wp2
      go_ret
      exact ⟨rfl, X5.out⟩

theorem own : ownKnob Try.prog.godebug = none := by kernel_rfl
theorem laidOut : laidOutB Try.prog = true := by kernel_rfl
set_option maxRecDepth 100000 in
theorem lifted (os : Os) (started : os.Started) (H : Type) (enc : TypeId × Value → H) :
    ReturnsInHanded {} Try.checked os 5 .any (Rows.framesWriteSpec.pre6 enc Try.prog Try.f5 Rows.framesWriteRow.domain false) (Rows.framesWriteSpec.post enc Try.prog Try.f5 false true false false) := by
  refine returnsInHanded_of_change (C := Try.checked) own started (by kernel_rfl) Try.func5
    (ChangeSpec.witness6 (enc := enc) (C := Try.checked) false ⟨#[], #[.slice none 0 0, .int .i64 0], []⟩ 8 (by kernel_rfl) (by kernel_rfl) (by kernel_rfl) (by kernel_rfl)) ?_
  intro W base args ds gs before hval0 hW hcnd _
  have hval : ∀ (j : Nat) t v, Try.f5.params[j]? = some t → args[j]? = some v → Value.okWide Try.prog W .any base t v := hval0
  have hW' := hW
  obtain ⟨p, q, hA0, hV, rfl, hfz, hnd⟩ := hW
  have hA : DataW.TrodAll enc Try.prog W 0 (fun _ => true) true Try.f5.params.toList args.toList ds p := hA0
  rw [Try.params5] at hA hval
  obtain ⟨v0, vs0, d0, ds0, p0, q0, hargs, rfl, rfl, h0, r0⟩ := trodAll_cons hA
  obtain ⟨v1, vs1, d1, ds1, p1, q1, rfl, rfl, rfl, h1, r1⟩ := trodAll_cons r0
  obtain ⟨rfl, rfl, rfl⟩ := trodAll_nil r1
  obtain rfl : args = #[v0, v1] := by cases args; simp_all
  obtain ⟨rfl, rfl⟩ := trodVars_none hV
  have hlt0 : ∀ x ∈ p0, x.block < W.heap.size := fun x hx => by simpa using hW'.lt x (by simp [hx])
  obtain ⟨l0, rd0⟩ := open_bytes Try.underlying22 Try.underlying5 (by kernel_rfl) (hval 0 22 v0 rfl rfl) h0
  obtain ⟨a1, rfl, rfl, rfl, w1⟩ := open_int Try.underlying3 (hval 1 3 v1 rfl rfl) h1
  clear hA0 hval0
  refine (walk W v0 l0 rd0 a1 w1).mono fun e W' ⟨he, bel⟩ => ?_
  subst he
  exact ⟨_, rfl, _, _, _, [], _, [], hW', trodAll_mk1 (shut_bool Try.underlying4 _), (trodAll_cons_mk (Below.trod laidOut (by kernel_rfl) (of_decide_eq_true (by kernel_rfl)) h0 bel hlt0) (trodAll_cons_mk (shut_int Try.underlying3 w1) trodAll_mk0)), rfl, bel.frame _, fun h => by cases h⟩

theorem over : Rows.framesWriteRow.holds Try.pinned (OpenSpec.ofChange Rows.framesWriteSpec) :=
  OpenClaim.holds_of_wide 5 Try.f5 rfl rfl rfl rfl rfl rfl rfl ⟨rfl, rfl, rfl, rfl, rfl⟩ rfl rfl rfl rfl rfl (by kernel_rfl) Try.func5 (by kernel_rfl)
    (of_decide_eq_true (by kernel_rfl)) (by unfold Func.isWrapper; first | (rw [if_pos (by decide +kernel)]; kernel_rfl) | (rw [if_neg (by decide +kernel)]; exact ⟨rfl, rfl⟩))
    (fun os started H enc _ => lifted os started H enc)

theorem proved : Rows.FramesWriteSaid := over
#print axioms proved
end Go.Proofs.Ytcofjimjbobdgaa.FramesWrite
