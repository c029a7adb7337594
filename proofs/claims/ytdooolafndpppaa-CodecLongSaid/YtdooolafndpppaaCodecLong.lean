/- The law CodecLong holds at every input: texts and lists of as many as may be are written whole, of one more without it. No condition. -/
import Derived.Test.YtdooolafndpppaaInts
import Derived.Test.YtdooolafndpppaaKnown
import Derived.Test.YtdooolafndpppaaWith
import Derived.Deep.QuietTactic
import Derived.BigQuiet
import Derived.OpenShut
import Derived.ChangeOld
import Derived.ChangeSame
import Derived.JoinedOf
import Derived.JoinedAt
import Derived.RowKit3
import Derived.Lib.SmallJoins
namespace Go.Proofs.Ytdooolafndpppaa.CodecLong
open Go.ChangeShapes Go.WideShapes Go.ChangeAt Go.RowKit Go.Joins

theorem made_rd (W : World) (z : Value) (e : TypeId) (N : Nat) (hN : N ≤ maxLen) : Rd (W.alloc (.cells (madeCells #[z] N) e)) (.slice (some ⟨W.heap.size, 0, none⟩) N N) (List.replicate N z) := by
  refine ⟨_, N, by rw [List.length_replicate], by rw [List.length_replicate]; exact Nat.le_refl _, hN, fun _ => ⟨_, rfl, by simp, fun j u hu => ?_⟩⟩
  have hadd : (⟨W.heap.size, 0, none⟩ : Addr).add j = ⟨W.heap.size, j, none⟩ := by unfold Addr.add; split <;> simp_all
  rw [hadd, cell_of_row _ W.heap.size j _ e (0, 0) (heap_alloc_new W _), ← Array.getElem?_toList, toList_madeCells_one]
  exact hu

theorem mk_any (t e : TypeId) (z : Value) (ht : Try.prog.underlying t = some (.slice e)) (i0 : TypeInfo) (hi : Try.prog.info? e = some i0) (hz0 : i0.zero = some z) (hz1 : i0.size = 1) (b : Nat) (hz2 : i0.bytes = b) (hb : b ≤ 8) (hc : z.cells = #[z]) (K : Nat) (hK : K ≤ 4) (W : World) :
    (Instr.makeSlice t (.int .i64 (65533 + (K : Int))) (.int .i64 (65533 + (K : Int)))).run Try.prog W = .ok (.slice (some ⟨W.heap.size, 0, none⟩) (65533 + K) (65533 + K)) (W.alloc (.cells (madeCells #[z] (65533 + K)) e)) := by
  have h1 : (i0.bytes : Int) * (65533 + (K : Int)) ≤ 281474976710656 := by
    rw [hz2]
    have : (b : Int) * (65533 + (K : Int)) ≤ 8 * 65537 := Int.mul_le_mul (by omega) (by omega) (by omega) (by omega)
    omega
  have := run_make (P := Try.prog) W t e i0 z ht hi hz0 .i64 .i64 (65533 + (K : Int)) (65533 + (K : Int)) (by omega) (by omega) h1 (by omega)
  rw [this, hz1, hc]
  have e1 : (65533 + (K : Int)).toNat = 65533 + K := by omega
  rw [e1, Nat.mul_one]

theorem zeros (W : World) (N : Nat) (hN : N ≤ 70000) : ∃ S : ByteArray, S.size = N ∧ (convert 22 9 (.slice (some ⟨W.heap.size, 0, none⟩) N N)).run Try.prog (W.alloc (.cells (madeCells #[.int .u8 0] N) 5)) = .ok (.string S) (W.alloc (.cells (madeCells #[.int .u8 0] N) 5)) := by
  have h := made_rd W (.int .u8 0) 5 N (by simp [maxLen]; omega)
  have e : List.replicate N (Value.int .u8 0) = bvs (List.replicate N 0) := by simp [bvs, bv]
  rw [e] at h
  exact ⟨_, by simp [ByteArray.size], h.str⟩

theorem ext_alloc (w : World) (o : Obj) : Ext w (w.alloc o) := (Below.refl _ _).alloc (Nat.le_refl _) o

theorem be2 (n : Nat) : be n 2 = [UInt8.ofNat (n / 256), UInt8.ofNat n] := by simp [be]

/-- A number of two bytes, put together from them. -/
theorem or_i64 (a c : Nat) (ha : a < 256) (hc : c < 256) : bits .or .i64 ((a : Int) * 256) (c : Int) = (a : Int) * 256 + c := by
  have h1 : (BitVec.ofInt 64 ((a : Int) * 256)).toNat = a * 256 := by
    rw [show ((a : Int) * 256) = ((a * 256 : Nat) : Int) from by omega, BitVec.ofInt_natCast, BitVec.toNat_ofNat]
    exact Nat.mod_eq_of_lt (by omega)
  have h2 : (BitVec.ofInt 64 (c : Int)).toNat = c := by
    rw [BitVec.ofInt_natCast, BitVec.toNat_ofNat]
    exact Nat.mod_eq_of_lt (by omega)
  show IntKind.i64.wrap ((BitVec.ofInt 64 ((a : Int) * 256) ||| BitVec.ofInt 64 (c : Int)).toNat : Int) = _
  rw [BitVec.toNat_or, h1, h2, or_byte a c hc, IntWalk.i64_in _ (by omega)]
  omega

theorem got {w w' : World} {m n n' : Nat} {b : List UInt8} {e : Ending} (h : Made n (bvs (([] : List UInt8) ++ be m 2 ++ b)) w e w') (hn : n = n') (h0 : 0 < n') (hm : m < 65536) :
    ∃ (g cap : Nat) (x y : Int), e = .returned (.slice (some ⟨g, 0, none⟩) n' cap) ∧ w'.cell? ⟨g, 0, none⟩ = some (.int .u8 x) ∧ w'.cell? ⟨g, 1, none⟩ = some (.int .u8 y) ∧ Ext w w' ∧
      0 ≤ x ∧ x ≤ 255 ∧ 0 ≤ y ∧ y ≤ 255 ∧ bits .or .i64 (x * 256) y = (m : Int) := by
  subst hn
  obtain ⟨v, rfl, ho, hx⟩ := h
  obtain ⟨g, cap, rfl, hg, hlt⟩ := ho.form h0
  have hcs := ho.cells (g := g) rfl
  refine ⟨g, cap, ((UInt8.ofNat (m / 256)).toNat : Int), ((UInt8.ofNat m).toNat : Int), rfl, ?_, ?_, hx, ?_⟩
  · exact hcs 0 _ (by rw [be2]; rfl)
  · exact hcs 1 _ (by rw [be2]; rfl)
  · have e1 : (UInt8.ofNat (m / 256)).toNat = m / 256 := by simp [UInt8.toNat_ofNat']; omega
    have e2 : (UInt8.ofNat m).toNat = m % 256 := by simp [UInt8.toNat_ofNat']
    rw [e1, e2]
    refine ⟨by omega, by omega, by omega, by omega, ?_⟩
    rw [or_i64 _ _ (by omega) (by omega)]
    omega

theorem ext_drewN (w : World) (n : Nat) : Ext w (w.drewN n) := ⟨rfl, rfl, rfl, Nat.le_refl _, fun _ _ => rfl⟩
theorem zeros_ivs (n : Nat) : List.replicate n (Value.int .i64 0) = ivs (List.replicate n 0) := by simp [ivs]

set_option maxHeartbeats 1000000 in
theorem walk (n : Int) (_ : (Lit.int .i64 n).wf = true) (list : Bool) (w : World) :
    Calls Try.prog 8 #[.int .i64 n, .bool list] w fun e w' => e = .returned (.bool true) ∧ Below w.heap.size w w' := by
  obtain ⟨i0, hi, hz0, hz1, hz2⟩ := info_parts Try.infoU8
  obtain ⟨K, hK⟩ : ∃ K : Nat, n % 5 = (K : Int) := ⟨(n % 5).toNat, by omega⟩
  obtain ⟨m, hm⟩ : ∃ m : Nat, m = 65535 := ⟨_, rfl⟩
  have hm1 : m < 65536 := by omega
  have hm2 : 65535 ≤ m := by omega
  have hm := Lib.hid hm
  have hK4 : K ≤ 4 := by omega
  have hmk := fun W => mk_any 22 5 _ Try.underlying22 i0 hi hz0 hz1 1 hz2 (by decide) rfl K hK4 W
  have hmi := fun W => mk_any 23 3 (.int .i64 0) Try.underlying23 _ rfl rfl rfl 8 rfl (by decide) rfl K hK4 W
  have hK := Lib.hid hK
  by_cases hk2 : K ≤ 2
  · have hk2' : (65533 + (K : Int)) ≤ 65535 := by omega
    cases list
    · skip
      go_enter Try.func8, Try.ntmps8
      go_wp2_with fail
      refine (known_any _).mono ?_
      rintro e w1 ⟨rfl, hx1⟩
      go_wp2_with fail
      refine (within_any _ _ _ ⟨by decide, by decide⟩).mono ?_
      rintro e w1' ⟨rfl, rfl⟩
      rw [hK.out]
      obtain ⟨S, hS, hcv⟩ := zeros w1 (65533 + K) (by omega)
      go_wp2_with fail
      refine (Text_short _ [] S _ (Rd.nil _) (by decide) (by omega)).mono ?_
      rintro e w2 hM
      obtain ⟨g, cap, x, y, rfl, c0, c1, hx2, x0, x1, y0, y1, hor⟩ := got (n' := 65535 + K) hM (by rw [hS]; simp; omega) (by omega) (by omega)
      clear hM
      have hE := Lib.hid ((hx1.trans (ext_alloc w1 _)).trans hx2)
      rw [hS] at hor
      have hor' : bits .or .i64 (x * 256) y = 65533 + (K : Int) := by rw [hor]; omega
      have hlen : (65535 + (K : Int) == 2 + (65533 + (K : Int))) = true := by simp; omega
      clear hor hx1 hx2 hmk hmi hcv hS
      go_wp2
      go_quiet (fail)
      go_wp2
      go_ret
      exact ⟨rfl, hE.out.trans (ext_drewN w2 nq)⟩
    · skip
      go_enter Try.func8, Try.ntmps8
      go_wp2_with fail
      refine (known_any _).mono ?_
      rintro e w1 ⟨rfl, hx1⟩
      go_wp2_with fail
      refine (within_any _ _ _ ⟨by decide, by decide⟩).mono ?_
      rintro e w1' ⟨rfl, rfl⟩
      rw [hK.out]
      obtain ⟨S, hS, hcv⟩ := zeros w1 (65533 + K) (by omega)
      go_wp2_with fail
      refine (Text_short _ [] S _ (Rd.nil _) (by decide) (by omega)).mono ?_
      rintro e w2 hM
      obtain ⟨v2, rfl, _, hx2⟩ := hM
      go_wp2_with fail
      have hz := made_rd w2 (.int .i64 0) 3 (65533 + K) (by simp [maxLen]; omega)
      rw [zeros_ivs] at hz
      refine (Ints_short _ _ [] _ _ (Rd.nil _) hz (by decide) (by rw [List.length_replicate]; omega)).mono ?_
      rintro e w3 hM
      rw [List.length_replicate] at hM
      obtain ⟨g, cap, x, y, rfl, c0, c1, hx3, x0, x1, y0, y1, hor⟩ := got (n' := 524266 + 8 * K) hM (by simp; omega) (by omega) (by omega)
      clear hM hz
      have hE := Lib.hid (((hx1.trans (ext_alloc w1 _)).trans hx2).trans ((ext_alloc w2 _).trans hx3))
      have hor' : bits .or .i64 (x * 256) y = 65533 + (K : Int) := by rw [hor]; omega
      have hlen : (524266 + 8 * (K : Int) == 2 + 8 * (65533 + (K : Int))) = true := by simp; omega
      clear hor hx1 hx2 hx3 hmk hmi hcv hS
      go_wp2
      go_quiet (fail)
      go_wp2
      go_ret
      exact ⟨rfl, hE.out.trans (ext_drewN w3 nq)⟩
  · have hk2' : ¬ (65533 + (K : Int)) ≤ 65535 := by omega
    cases list
    · skip
      go_enter Try.func8, Try.ntmps8
      go_wp2_with fail
      refine (known_any _).mono ?_
      rintro e w1 ⟨rfl, hx1⟩
      go_wp2_with fail
      refine (within_any _ _ _ ⟨by decide, by decide⟩).mono ?_
      rintro e w1' ⟨rfl, rfl⟩
      rw [hK.out]
      obtain ⟨S, hS, hcv⟩ := zeros w1 (65533 + K) (by omega)
      go_wp2_with fail
      refine (Text_long _ [] S _ (Rd.nil _) (by decide) (by omega) (by rw [hS]; simp [maxLen]; omega) m hm.out).mono ?_
      rintro e w2 hM
      obtain ⟨g, cap, x, y, rfl, c0, c1, hx2, x0, x1, y0, y1, hor⟩ := got (n' := 65537) hM (by simp; omega) (by omega) hm1
      clear hM
      have hE := Lib.hid ((hx1.trans (ext_alloc w1 _)).trans hx2)
      have hor' : bits .or .i64 (x * 256) y = 65535 := by rw [hor]; omega
      clear hor hx1 hx2 hmk hmi hcv hS
      go_wp2
      go_quiet (fail)
      go_wp2
      go_ret
      exact ⟨rfl, hE.out.trans (ext_drewN w2 nq)⟩
    · skip
      go_enter Try.func8, Try.ntmps8
      go_wp2_with fail
      refine (known_any _).mono ?_
      rintro e w1 ⟨rfl, hx1⟩
      go_wp2_with fail
      refine (within_any _ _ _ ⟨by decide, by decide⟩).mono ?_
      rintro e w1' ⟨rfl, rfl⟩
      rw [hK.out]
      obtain ⟨S, hS, hcv⟩ := zeros w1 (65533 + K) (by omega)
      go_wp2_with fail
      refine (Text_long _ [] S _ (Rd.nil _) (by decide) (by omega) (by rw [hS]; simp [maxLen]; omega) m hm.out).mono ?_
      rintro e w2 hM
      obtain ⟨v2, rfl, _, hx2⟩ := hM
      go_wp2_with fail
      have hz := made_rd w2 (.int .i64 0) 3 (65533 + K) (by simp [maxLen]; omega)
      rw [zeros_ivs] at hz
      refine (Ints_long _ _ [] _ _ (Rd.nil _) hz (by decide) (by rw [List.length_replicate]; omega) m hm.out).mono ?_
      rintro e w3 hM
      obtain ⟨g, cap, x, y, rfl, c0, c1, hx3, x0, x1, y0, y1, hor⟩ := got (n' := 524282) hM (by simp; omega) (by omega) hm1
      clear hM hz
      have hE := Lib.hid (((hx1.trans (ext_alloc w1 _)).trans hx2).trans ((ext_alloc w2 _).trans hx3))
      have hor' : bits .or .i64 (x * 256) y = 65535 := by rw [hor]; omega
      clear hor hx1 hx2 hx3 hmk hmi hcv hS
      go_wp2
      go_quiet (fail)
      go_wp2
      go_ret
      exact ⟨rfl, hE.out.trans (ext_drewN w3 nq)⟩

theorem own : ownKnob Try.prog.godebug = none := by kernel_rfl
set_option maxRecDepth 100000 in
theorem lifted (os : Os) (started : os.Started) (H : Type) (enc : TypeId × Value → H) :
    ReturnsInHanded {} Try.checked os 8 .any (Rows.codecLongSpec.pre6 enc Try.prog Try.f8 Rows.codecLongRow.domain false) (Rows.codecLongSpec.post enc Try.prog Try.f8 false true false false) := by
  refine returnsInHanded_of_change (C := Try.checked) own started (by kernel_rfl) Try.func8
    (ChangeSpec.witness6 (enc := enc) (C := Try.checked) false ⟨#[], #[.int .i64 0, .bool false], []⟩ 8 (by kernel_rfl) (by kernel_rfl) (by kernel_rfl) (by kernel_rfl)) ?_
  intro W base args ds gs before hval0 hW hcnd _
  have hval : ∀ (j : Nat) t v, Try.f8.params[j]? = some t → args[j]? = some v → Value.okWide Try.prog W .any base t v := hval0
  have hW' := hW
  obtain ⟨p, q, hA0, hV, rfl, hfz, hnd⟩ := hW
  have hA : DataW.TrodAll enc Try.prog W 0 (fun _ => true) true Try.f8.params.toList args.toList ds p := hA0
  rw [Try.params8] at hA hval
  obtain ⟨v0, vs0, d0, ds0, p0, q0, hargs, rfl, rfl, h0, r0⟩ := trodAll_cons hA
  obtain ⟨v1, vs1, d1, ds1, p1, q1, rfl, rfl, rfl, h1, r1⟩ := trodAll_cons r0
  obtain ⟨rfl, rfl, rfl⟩ := trodAll_nil r1
  obtain rfl : args = #[v0, v1] := by cases args; simp_all
  obtain ⟨rfl, rfl⟩ := trodVars_none hV
  obtain ⟨a0, rfl, rfl, rfl, w0⟩ := open_int Try.underlying3 (hval 0 3 v0 rfl rfl) h0
  obtain ⟨a1, rfl, rfl, rfl⟩ := open_bool Try.underlying4 (hval 1 4 v1 rfl rfl) h1
  clear hA0 hval0
  refine (walk a0 w0 a1 W).mono fun e W' ⟨he, bel⟩ => ?_
  subst he
  exact ⟨_, rfl, _, _, _, [], _, [], hW', trodAll_mk1 (shut_bool Try.underlying4 _), (trodAll_cons_mk (shut_int Try.underlying3 w0) (trodAll_cons_mk (shut_bool Try.underlying4 _) trodAll_mk0)), rfl, bel.frame _, fun h => by cases h⟩

theorem over : Rows.codecLongRow.holds Try.pinned (OpenSpec.ofChange Rows.codecLongSpec) :=
  OpenClaim.holds_of_wide 8 Try.f8 rfl rfl rfl rfl rfl rfl rfl ⟨rfl, rfl, rfl, rfl, rfl⟩ rfl rfl rfl rfl rfl (by kernel_rfl) Try.func8 (by kernel_rfl)
    (of_decide_eq_true (by kernel_rfl)) (by unfold Func.isWrapper; first | (rw [if_pos (by decide +kernel)]; kernel_rfl) | (rw [if_neg (by decide +kernel)]; exact ⟨rfl, rfl⟩))
    (fun os started H enc _ => lifted os started H enc)

theorem proved : Rows.CodecLongSaid := over
#print axioms proved
end Go.Proofs.Ytdooolafndpppaa.CodecLong
