/- The law FramesLong holds at every input: as long a record as may be is framed; one more is not, nor is it told where its length stands so. No condition. -/
import Derived.Test.YtcofjimjbobdgaaFrmH
import Derived.JoinedOf
import Derived.JoinedAt
import Derived.RowKit3
import Derived.Lib.SmallJoins
namespace Go.Proofs.Ytcofjimjbobdgaa.FramesLong
open Go.ChangeShapes Go.WideShapes Go.ChangeAt Go.RowKit Go.Joins

theorem byte_val {z : Int} (hz : (Lit.int .u8 z).wf = true) : ∃ y : UInt8, z = (y.toNat : Int) := by
  have h : IntKind.u8.min ≤ z ∧ z ≤ IntKind.u8.max := by simpa [Lit.wf] using hz
  have h1 : IntKind.u8.min = 0 := rfl
  have h2 : IntKind.u8.max = 255 := rfl
  exact ⟨UInt8.ofNat z.toNat, by simp only [UInt8.toNat_ofNat']; omega⟩
theorem made_set (m : Nat) (y : UInt8) : ((madeCells #[.int .u8 0] (3998 + m)).setIfInBounds (3997 + m) (bv y)).toList = bvs (List.replicate (3997 + m) 0 ++ [y]) := by
  rw [Array.toList_setIfInBounds, toList_madeCells_one, show 3998 + m = (3997 + m) + 1 from by omega, List.replicate_succ', List.set_append_right _ _ (by simp)]
  simp [bvs, bv]
theorem head8 (n C : Nat) (hn : n < 65536) (hC : C < 4294967296) : [Value.int .u8 0, .int .u8 0, .int .u8 ((n : Int) / 256 % 256), .int .u8 ((n : Int) % 256), .int .u8 ((C : Int) / 16777216), .int .u8 ((C : Int) / 65536 % 256), .int .u8 ((C : Int) / 256 % 256), .int .u8 ((C : Int) % 256)] = bvs (be n 4 ++ be C 4) := by
  rw [bvs_append, ← be4 n (by omega), ← be4 C hC]
  simp only [List.cons_append, List.nil_append]
  rw [show (n : Int) / 16777216 = 0 from by omega, show (n : Int) / 65536 % 256 = 0 from by omega]
theorem own_lit (W : World) (B : Nat) (h : B ≤ W.heap.size) (x : Array Value) (l : List UInt8) (hx : x.toList = bvs l) (hm : l.length ≤ maxLen) : (W.alloc (.cells x 5)).ownsRow B 5 1 (.slice (some ⟨W.heap.size, 0, none⟩) l.length l.length) l.length (bvs l) := by
  have hs : x.size = l.length := by rw [← Array.length_toList, hx, bvs_length]
  exact ⟨by rw [bvs_length]; omega, .inr ⟨W.heap.size, l.length, x, rfl, h, heap_alloc_new W _, Nat.le_refl _, hm, by omega, by rw [hx, List.take_of_length_le (by rw [bvs_length]; omega)]⟩⟩

set_option maxRecDepth 100000 in
set_option maxHeartbeats 1600000 in
theorem walk (n : Int) (_ : (Lit.int .i64 n).wf = true) (z : Int) (hz : (Lit.int .u8 z).wf = true) (w : World) :
    Calls Try.prog 4 #[.int .i64 n, .int .u8 z] w fun e w' => e = .returned (.bool true) ∧ Below w.heap.size w w' := by
  obtain ⟨i0, hi, hz0, hz1, hz2⟩ := info_parts Try.infoU8
  have hmk : ∀ (W : World) (m : Nat), m ≤ 5 → (Instr.makeSlice 22 (.int .i64 (3998 + (m : Int))) (.int .i64 (3998 + (m : Int)))).run Try.prog W = .ok (.slice (some ⟨W.heap.size, 0, none⟩) (3998 + m) (3998 + m)) (W.alloc (.cells (madeCells #[.int .u8 0] (3998 + m)) 5)) := by
    intro W m hm
    have := run_make (P := Try.prog) W 22 5 i0 (.int .u8 0) Try.underlying22 hi hz0 .i64 .i64 (3998 + (m : Int)) (3998 + (m : Int)) (by omega) (by omega) (by rw [hz2]; omega) (by omega)
    rw [this, hz1]
    rw [show (3998 + (m : Int)).toNat = 3998 + m from by omega]
    simp [Value.cells]
  have HMK := Lib.hid hmk
  clear hmk
  go_enter Try.func4, Try.ntmps4
  go_wp2_with fail
  refine (known_any _).mono ?_
  rintro e w1 ⟨rfl, hx1⟩
  have X1 := Lib.hid (show Ext w w1 from hx1)
  clear hx1
  go_wp2_with fail
  (with_reducible refine (within_some n 5 5 _ rfl (by omega)).mono ?_)
  rintro e w' ⟨m, rfl, hm, rfl⟩
  have hmk := fun W => HMK.out W m (by omega)
  have hm4 : (m : Int) ≤ 4 := by omega
  have hget : (madeCells #[.int .u8 0] (3998 + m))[3997 + m]? = some (.int .u8 0) := by
    rw [← Array.getElem?_toList, toList_madeCells_one]; simp
  obtain ⟨y, rfl⟩ := byte_val hz
  have HR2 := Lib.hid (rd_new w1 (List.replicate (3997 + m) 0 ++ [y]) _ (made_set m y) (3998 + m) (by simp; omega) (by simp [maxLen]; omega) (0, 0))
  have HL := Lib.hid (show (List.replicate (3997 + m) 0 ++ [y]).length = 3998 + m by simp; omega)
  have X2 := Lib.hid (X1.out.trans (ext_alloc w1 (.cells ((madeCells #[.int .u8 0] (3998 + m)).setIfInBounds (3997 + m) (bv y)) 5)))
  have hcr := crc_lt (List.replicate (3997 + m) 0 ++ [y])
  unfold bv at HR2 X2
  by_cases hlong : 3 ≤ m
  · have i1 : (4000 : Int) < 3998 + (m : Int) := by omega
    have hE := Lib.hid (show fE (List.replicate (3997 + m) 0 ++ [y]) = 5 by unfold fE; rw [if_pos (by rw [HL.out]; omega)])
    have hB := Lib.hid (show fB (List.replicate (3997 + m) 0 ++ [y]) = [] by unfold fB; rw [if_pos (by rw [HL.out]; omega)])
    generalize List.replicate (3997 + m) 0 ++ [y] = L at *
    go_wp2_with fail
    (with_reducible refine (Frame_all _ L _ HR2.out).mono ?_)
    rw [hE.out, hB.out]
    rintro e w3 ⟨v3, rfl, ho3, hx3⟩
    have X3 := Lib.hid (X2.out.trans hx3)
    have HR3 := Lib.hid (HR2.out.ext hx3)
    obtain ⟨A3, c3, rfl, _, _⟩ := (Rd.of_own ho3).len
    rw [bvs_length, List.length_nil]
    clear ho3 hx3 HR2 X2 hget
    go_wp2_with fail
    (with_reducible refine (Crc_any _ L _ HR3.out).mono ?_)
    rintro e w' ⟨rfl, rfl⟩
    generalize hc : crc L = C at *
    have hhd := Lib.hid (head8 (3998 + m) C (by omega) hcr)
    push_cast at hhd
    have hbl : (be (3998 + m) 4 ++ be C 4).length = 8 := by simp [be_length]
    have HOW := Lib.hid (fun (x : Array Value) (hx : x.toList = bvs (be (3998 + m) 4 ++ be C 4)) => by have := own_lit w3 w.heap.size X3.out.size x _ hx (by simp [be_length, maxLen]); rwa [hbl] at this)
    have HS := Lib.hid (fun x => (HR3.out.ext (ext_alloc w3 (.cells x 5))).src bvs_one Try.underlying22)
    rw [bvs_length, HL.out] at HS
    have HSC := Lib.hid (show scan ((be (3998 + m) 4 ++ be C 4) ++ L) = [] from scan_none (by rw [List.append_assoc, fst?_of _ _ _ (by omega) hcr, if_neg (by omega)]))
    have HTL := Lib.hid (show ((be (3998 + m) 4 ++ be C 4) ++ L).length ≤ 100000000 by rw [List.length_append, hbl, HL.out]; omega)
    clear hc hbl
    go_wp2_with (at_builtin; refine wpList_app_src _ rfl (.tmp 51) (.tmp 52) 22 22 rfl w.heap.size 5 i0 (.int .u8 0) 1 Try.underlying22 hi hz0 hz1 hz2 rfl _ 8 _ rfl (HOW.out _ ?hx) _ (3998 + m) (bvs L) rfl (HS.out _) ?c3 ?c4 ?c5 ?_)
    case hx =>
      refine Eq.trans ?_ hhd.out
      simp only [List.cons.injEq, Value.int.injEq, true_and, and_true]
      omega
    case c3 => simp [maxLen]; omega
    case c4 => omega
    case c5 => have := X3.out.size; simp; omega
    intro v4 w4 ho4 hgrow hat hfr
    have X4 := Lib.hid ((X3.out.trans (ext_alloc w3 _)).trans' (grown_below hgrow (by have := X3.out.size; simp; omega) (fun k hk => by simp [Value.ownBlock] at hk; have := X3.out.size; omega)))
    rw [← bvs_append] at ho4
    have HR4 := Lib.hid (Rd.of_own ho4)
    obtain ⟨A4, n4, c4, rfl⟩ := Rd.shape (Rd.of_own ho4)
    clear ho4 hgrow hat hfr HOW HS hhd
    generalize (be (3998 + m) 4 ++ be C 4) ++ L = RAW at *
    go_wp2_with fail
    (with_reducible refine (Scan_any _ RAW _ HR4.out HTL.out).mono ?_)
    rw [HSC.out]
    rintro e w5 ⟨A5, n5, c5, rfl, hr5, hx5⟩
    obtain ⟨_, _, _, hv5, hn5, _⟩ := hr5.open
    injection hv5 with e1 e2 e3
    rw [← e2, List.length_nil] at hn5
    subst hn5
    rw [show bulk [] = 0 from rfl]
    have X5 := Lib.hid (X4.out.trans hx5)
    clear hr5 hx5 e1 e2 e3
    go_wp2
    go_ret
    exact ⟨rfl, X5.out⟩
  · have i1 : ¬ (4000 : Int) < 3998 + (m : Int) := by omega
    have hE := Lib.hid (show fE (List.replicate (3997 + m) 0 ++ [y]) = 0 by unfold fE; rw [if_neg (by rw [HL.out]; omega)])
    have hB := Lib.hid (show fB (List.replicate (3997 + m) 0 ++ [y]) = frameB (List.replicate (3997 + m) 0 ++ [y]) by unfold fB; rw [if_neg (by rw [HL.out]; omega)])
    generalize List.replicate (3997 + m) 0 ++ [y] = L at *
    go_wp2_with fail
    (with_reducible refine (Frame_all _ L _ HR2.out).mono ?_)
    rw [hE.out, hB.out]
    rintro e w3 ⟨v3, rfl, ho3, hx3⟩
    have X3 := Lib.hid (X2.out.trans hx3)
    have HR3 := Lib.hid (HR2.out.ext hx3)
    have HF := Lib.hid (Rd.of_own ho3)
    obtain ⟨A3, n3, c3, rfl⟩ := Rd.shape (Rd.of_own ho3)
    have HSC := Lib.hid (show scan (frameB L) = [L] by have := scan_frame (r := L) [] (by rw [HL.out]; omega); rwa [List.append_nil, scan_nil] at this)
    clear ho3 hx3 HR2 X2 hget hcr
    go_wp2_with fail
    (with_reducible refine (Scan_any _ (frameB L) _ HF.out (by rw [frameB_length, HL.out]; omega)).mono ?_)
    rw [HSC.out]
    rintro e w5 ⟨A5, n5, c5, rfl, hr5, hx5⟩
    obtain ⟨A6, N6, c6, hv5, hn5, _, _, hcell⟩ := hr5.open
    injection hv5 with e1 e2 e3
    subst e1 e2 e3
    simp only [List.length_cons, List.length_nil, Nat.zero_add] at hn5 hcell
    subst hn5
    obtain ⟨a, rfl, _, hcs⟩ := hcell (by omega)
    obtain ⟨u, h0, hu⟩ := hcs 0 (by omega)
    have h0' : w5.cell? a = some u := by simpa [Addr.add] using h0
    have X5 := Lib.hid (X3.out.trans hx5)
    rw [show bulk [L] = 4006 + m by simp [bulk, HL.out]; omega]
    have s1 := fun q => (hu.ext (ext_drewN w5 q)).str
    have s2 := fun q => (HR3.out.ext (hx5.trans (ext_drewN w5 q))).str
    simp only [List.getElem_cons_zero] at s1
    obtain ⟨S, hS⟩ : ∃ S : ByteArray, S = ⟨L.toArray⟩ := ⟨_, rfl⟩
    rw [← hS] at s1 s2
    have wa := IntWalk.i64_in (3998 + (m : Int) + 8) (by omega)
    have te : (((4006 + m : Nat) : Int) == 3998 + (m : Int) + 8) = true := by simp; omega
    have te' : ((4006 + (m : Int)) == 3998 + (m : Int) + 8) = true := by simp; omega
    clear hr5 hx5 hS hcs hcell hu
    go_wp2
    go_quiet (fail)
    go_wp2
    go_ret
    exact ⟨rfl, X5.out.trans (ext_drewN _ _)⟩

theorem own : ownKnob Try.prog.godebug = none := by kernel_rfl
set_option maxRecDepth 100000 in
theorem lifted (os : Os) (started : os.Started) (H : Type) (enc : TypeId × Value → H) :
    ReturnsInHanded {} Try.checked os 4 .any (Rows.framesLongSpec.pre6 enc Try.prog Try.f4 Rows.framesLongRow.domain false) (Rows.framesLongSpec.post enc Try.prog Try.f4 false true false false) := by
  refine returnsInHanded_of_change (C := Try.checked) own started (by kernel_rfl) Try.func4
    (ChangeSpec.witness6 (enc := enc) (C := Try.checked) false ⟨#[], #[.int .i64 0, .int .u8 0], []⟩ 8 (by kernel_rfl) (by kernel_rfl) (by kernel_rfl) (by kernel_rfl)) ?_
  intro W base args ds gs before hval0 hW hcnd _
  have hval : ∀ (j : Nat) t v, Try.f4.params[j]? = some t → args[j]? = some v → Value.okWide Try.prog W .any base t v := hval0
  have hW' := hW
  obtain ⟨p, q, hA0, hV, rfl, hfz, hnd⟩ := hW
  have hA : DataW.TrodAll enc Try.prog W 0 (fun _ => true) true Try.f4.params.toList args.toList ds p := hA0
  rw [Try.params4] at hA hval
  obtain ⟨v0, vs0, d0, ds0, p0, q0, hargs, rfl, rfl, h0, r0⟩ := trodAll_cons hA
  obtain ⟨v1, vs1, d1, ds1, p1, q1, rfl, rfl, rfl, h1, r1⟩ := trodAll_cons r0
  obtain ⟨rfl, rfl, rfl⟩ := trodAll_nil r1
  obtain rfl : args = #[v0, v1] := by cases args; simp_all
  obtain ⟨rfl, rfl⟩ := trodVars_none hV
  obtain ⟨a0, rfl, rfl, rfl, w0⟩ := open_int Try.underlying3 (hval 0 3 v0 rfl rfl) h0
  obtain ⟨a1, rfl, rfl, rfl, w1⟩ := open_int Try.underlying5 (hval 1 5 v1 rfl rfl) h1
  clear hA0 hval0
  refine (walk a0 w0 a1 w1 W).mono fun e W' ⟨he, bel⟩ => ?_
  subst he
  exact ⟨_, rfl, _, _, _, [], _, [], hW', trodAll_mk1 (shut_bool Try.underlying4 _), (trodAll_cons_mk (shut_int Try.underlying3 w0) (trodAll_cons_mk (shut_int Try.underlying5 w1) trodAll_mk0)), rfl, bel.frame _, fun h => by cases h⟩

theorem over : Rows.framesLongRow.holds Try.pinned (OpenSpec.ofChange Rows.framesLongSpec) :=
  OpenClaim.holds_of_wide 4 Try.f4 rfl rfl rfl rfl rfl rfl rfl ⟨rfl, rfl, rfl, rfl, rfl⟩ rfl rfl rfl rfl rfl (by kernel_rfl) Try.func4 (by kernel_rfl)
    (of_decide_eq_true (by kernel_rfl)) (by unfold Func.isWrapper; first | (rw [if_pos (by decide +kernel)]; kernel_rfl) | (rw [if_neg (by decide +kernel)]; exact ⟨rfl, rfl⟩))
    (fun os started H enc _ => lifted os started H enc)

theorem proved : Rows.FramesLongSaid := over
#print axioms proved
end Go.Proofs.Ytcofjimjbobdgaa.FramesLong
