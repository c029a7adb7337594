/- The law CodecSigns holds at every input: a number's bytes are its two's complement, the highest first; they are read as it, also behind others. No condition. -/
import Derived.Test.YtdooolafndpppaaRead
import Derived.Test.YtdooolafndpppaaNew
import Derived.Test.YtdooolafndpppaaKnown
import Derived.Test.YtdooolafndpppaaSched
import Derived.OpenShut
import Derived.ChangeOld
import Derived.ChangeSame
import Derived.JoinedOf
import Derived.JoinedAt
import Derived.RowKit3
import Derived.Lib.SmallJoins
namespace Go.Proofs.Ytdooolafndpppaa.CodecSigns
open Go.ChangeShapes Go.WideShapes Go.ChangeAt Go.RowKit Go.Joins

theorem be_get (N : Nat) : ∀ (s j : Nat), j < s → (be N s)[j]? = some (UInt8.ofNat (N / 256 ^ (s - 1 - j)))
  | 0, _, h => by omega
  | s + 1, 0, _ => by simp [be]
  | s + 1, j + 1, h => by
    simp only [be, List.getElem?_cons_succ]
    rw [be_get N s j (by omega)]
    congr 4
    omega

theorem num_eInt (x : Int) (h : (Lit.int .i64 x).wf = true) : num (eInt x) = x := by
  have hx : IntKind.i64.min ≤ x ∧ x ≤ IntKind.i64.max := by simpa [Lit.wf] using h
  have h1 : IntKind.i64.min = -9223372036854775808 := rfl
  have h2 : IntKind.i64.max = 9223372036854775807 := rfl
  unfold num eInt
  rw [va_be]
  have h3 := two_lt x
  have h4 := two_cast x
  have h5 : two x % 256 ^ 8 = two x := Nat.mod_eq_of_lt (by simpa using h3)
  rw [h5, h4]
  unfold wrap64
  omega

/-- What is left of a number behind 8 - r of its bytes. -/
def up (N r : Nat) : Int := ((N / 256 ^ (8 - r) : Nat) : Int)
theorem up_eight (N : Nat) : up N 8 = (N : Int) := by unfold up; rw [Nat.sub_self, Nat.pow_zero, Nat.div_one]
theorem up_down (N r : Nat) (h : 1 ≤ r) (h8 : r ≤ 8) : up N r / 256 = up N (r - 1) := by
  unfold up
  rw [show 8 - (r - 1) = (8 - r) + 1 from by omega, Nat.pow_succ, ← Nat.div_div_eq_div_mul]
  rfl
theorem up_byte (N r : Nat) : ((N / 256 ^ (8 - r) % 2 ^ 8 : Nat) : Int) = up N r % 256 := rfl

/-- All that was there at the start stays. -/
def LB (B : Nat) (a b : World) : Prop := B ≤ a.heap.size → Below B a b
theorem LB_way (B : Nat) : Way (LB B) := ⟨fun h hB => Below.mono h hB, fun h k hB => (h hB).trans (k (Nat.le_trans hB (h hB).size))⟩

theorem own_lower {w : World} {base B : Nat} {e : TypeId} {v : Value} {n : Nat} {xs : List Value} (h : w.ownsRow base e 1 v n xs) (hB : B ≤ base) : w.ownsRow B e 1 v n xs := by
  refine ⟨h.1, ?_⟩
  rcases h.2 with h0 | ⟨g, cap, cur, e1, hb, r⟩
  · exact .inl h0
  · exact .inr ⟨g, cap, cur, e1, Nat.le_trans hB hb, r⟩

set_option maxHeartbeats 1000000 in
theorem walk (n : Int) (hn : (Lit.int .i64 n).wf = true) (k : Int) (hk : (Lit.int .i64 k).wf = true) (w : World) :
    Calls Try.prog 7 #[.int .i64 n, .int .i64 k] w fun e w' => e = .returned (.bool true) ∧ Below w.heap.size w w' := by
  obtain ⟨i0, hi, hz0, hz1, hz2⟩ := info_parts Try.infoU8
  have HN := Lib.hid (num_eInt n hn)
  have HK := Lib.hid (num_eInt k hk)
  clear hn hk
  have HW := Lib.hid (two_wrap n)
  go_enter Try.func7, Try.ntmps7
  go_wp2_with fail
  refine (known_any _).mono ?_
  rintro e w1 ⟨rfl, hx1⟩
  go_wp2_with fail
  have hx2 : Ext w1 (w1.alloc (.cells #[.int .u8 9] 5)) := (Below.refl _ _).alloc (Nat.le_refl _) _
  have hr9 : Rd (w1.alloc (.cells #[.int .u8 9] 5)) (.slice (some ⟨w1.heap.size, 0, none⟩) 1 1) (bvs [9]) := Rd.one w1 (.int .u8 9) 5 1 1 rfl rfl
  refine (Int_any _ [9] n _ hr9 (by decide)).mono ?_
  rintro e w2 ⟨v2, rfl, ho2, hx3⟩
  obtain ⟨g, cap, rfl, _, _⟩ := ho2.form (by decide)
  have hcap : 9 ≤ cap ∧ cap ≤ maxLen := by
    obtain ⟨A', c', e1, h1, h2, _⟩ := Rd.of_own ho2
    injection e1 with _ _ e3
    subst e3
    rw [bvs_length] at h1
    simp only [List.length_append, eInt_length] at h1
    exact ⟨h1, h2⟩
  obtain ⟨hcap, hcap2⟩ := hcap
  unfold maxLen at hcap2
  have HO := Lib.hid ho2
  have HX := Lib.hid ((hx1.trans hx2).trans hx3)
  clear ho2 hx1 hx2 hx3 hr9
  go_wp2
  rw [HW.out]
  rw [← up_eight (two n)]
  have hcell : ∀ r : Nat, 1 ≤ r → r ≤ 8 → w2.cell? ⟨g, r, none⟩ = some (.int .u8 (up (two n) r % 256)) := by
    intro r h1 h8
    obtain ⟨r, rfl⟩ : ∃ r', r = r' + 1 := ⟨r - 1, by omega⟩
    have hb := be_get (two n) 8 r (by omega)
    have hc := HO.out.cells (g := g) rfl (r + 1) (bv (UInt8.ofNat (two n / 256 ^ (8 - 1 - r)))) (by
      simp only [bvs, List.map_append, List.map_cons, List.map_nil, List.singleton_append, List.getElem?_cons_succ, List.getElem?_map, eInt, hb, Option.map_some])
    have hadd : (⟨g, 0, none⟩ : Addr).add (r + 1) = ⟨g, r + 1, none⟩ := by unfold Addr.add; split <;> simp_all
    rw [hadd] at hc
    rw [hc]
    rw [← up_byte, show 8 - (r + 1) = 8 - 1 - r from by omega]
    simp only [bv, UInt8.toNat_ofNat']
  have hcell := Lib.hid hcell
  go_loop [6, 7] (fun u i => ∃ r : Nat, r ≤ 8 ∧ i = .int .i64 r ∧ u = .int .u64 (up (two n) r)) (fun _ i => (intOf i).toNat)
  case atStart => exact ⟨8, Nat.le_refl _, rfl, rfl⟩
  case round =>
    obtain ⟨r, hr8, rfl, rfl⟩ := hrel
    by_cases h1 : 1 ≤ r
    · have hi1 : (1 : Int) ≤ (r : Int) := by omega
      have hi9 : (r : Int) < 9 := by omega
      have hc := hcell.out r h1 hr8
      have hU := Lib.hid (up_down (two n) r h1 hr8)
      go_wp2
      go_round
      case rel => exact ⟨r - 1, by omega, by congr 1; omega, by rw [hU.out]⟩
      case measure => simp [intOf]; omega
    · have h0 : r = 0 := by omega
      subst h0
      have hi1 : ¬ (1 : Int) ≤ ((0 : Nat) : Int) := by omega
      clear hcell
      have h9 := HO.out.cells (g := g) rfl 0 (.int .u8 9) rfl
      have h9 : w2.cell? ⟨g, 0, none⟩ = some (.int .u8 9) := h9
      have hgl := (HO.out.lt g rfl).2
      have R32 : Rd w2 (.slice (some ⟨g, 1, none⟩) 8 (cap - 1)) (bvs (eInt n)) := by
        have := (Rd.of_own HO.out).back (k := 1) (by simp)
        rw [bvs_drop] at this
        exact this
      have R32 := Lib.hid R32
      have H9 := Lib.hid h9
      have HX2 := HX.out.size
      have hc1 : ¬ cap = 1 := by omega
      clear h9
      go_wp2
      refine wp_region_sched (LB w2.heap.size) (LB_way _) [(0, true), (2, true), (3, true), (1, false), (4, false), (5, false), (6, true)] (by kernel_rfl) (by kernel_rfl) (fun _ _ _ _ _ h => h) ?_
      repeat first | ((with_reducible refine sched_free ?_ ?_ ?_ ?_ (fun wk k1 => ?_) ?_); rotate_left 2; (rfl); (first | exact want_none rfl | exact want_some rfl rfl rfl rfl); (go_simp; first | exact OkX.val); simp only [Act.put, List.setIfInBounds_toArray, List.set_cons_zero, List.set_cons_succ]) | ((with_reducible refine sched_skip ?_ ?_ ?_ ?_); rotate_left; (rfl); (exact want_not rfl rfl rfl rfl rfl); simp only [Act.put, List.setIfInBounds_toArray, List.set_cons_zero, List.set_cons_succ])
      ((with_reducible refine sched_step ?_ ?_ ?_ (fun wk k1 => ?_)); rotate_left; (rfl); (first | exact want_none rfl | exact want_some rfl rfl rfl rfl))
      have X1 := Lib.hid ((Ext.drew w2).trans k1)
      have Z1 := X1.out.size
      clear k1
      go_simp
      refine (Int_any _ [] k _ (Rd.nil _) (by decide)).mono ?_
      rintro e w3 ⟨v3, rfl, ho3, hx4⟩
      refine ⟨(LB_way _).ext hx4, ?_⟩
      have X3 := Lib.hid (X1.out.trans hx4)
      have HO3 := Lib.hid ho3
      clear ho3 hx4
      try simp only [Act.put, List.setIfInBounds_toArray, List.set_cons_zero, List.set_cons_succ]
      ((with_reducible refine sched_step ?_ ?_ ?_ (fun wk k1 => ?_)); rotate_left; (rfl); (first | exact want_none rfl | exact want_some rfl rfl rfl rfl))
      have X4 := Lib.hid (X3.out.trans k1)
      have HO4 := Lib.hid (own_Ext HO3.out k1)
      have Z4 := X4.out.size
      have R4 := Lib.hid ((R32.out.ext X4.out).src bvs_one Try.underlying22)
      clear k1
      have ZZ := X1.out.size
      refine wp_app_src _ (.tmp 30) (.tmp 32) 22 22 rfl w2.heap.size 5 i0 (.int .u8 0) 1 Try.underlying22 hi hz0 hz1 hz2 rfl v3 8 (bvs (eInt k)) rfl (own_lower HO4.out ZZ) _ (bvs (eInt n)).length (bvs (eInt n)) rfl R4.out ?c3 ?c4 ?c5 ?_
      case c3 => rw [bvs_length, eInt_length]; simp [maxLen]
      case c4 => rw [bvs_length, eInt_length]; omega
      case c5 => omega
      intro v5 w5 ho5 hgrow _ _
      refine ⟨fun hB => grown_below hgrow hB (own_ge HO4.out ZZ), ?_⟩
      have X5 := Lib.hid (X4.out.trans' (grown_below hgrow Z4 (own_ge HO4.out ZZ)))
      have R5 : Rd w5 v5 (bvs (eInt k ++ eInt n)) := by rw [bvs_append]; exact Rd.of_own ho5
      have R5 := Lib.hid R5
      clear hgrow ho5
      try simp only [Act.put, List.setIfInBounds_toArray, List.set_cons_zero, List.set_cons_succ]
      ((with_reducible refine sched_step ?_ ?_ ?_ (fun wk k1 => ?_)); rotate_left; (rfl); (first | exact want_none rfl | exact want_some rfl rfl rfl rfl))
      have X6 := Lib.hid (X5.out.trans k1)
      have Z6 := X6.out.size
      have R6 := Lib.hid (R5.out.ext k1)
      clear k1
      go_simp
      refine (New_any v5 (eInt k ++ eInt n) _ R6.out (by rw [List.length_append, eInt_length, eInt_length]; omega)).mono ?_
      rintro e w7 ⟨R, rfl, hx7, hR, hRw⟩
      refine ⟨(LB_way _).ext hx7, ?_⟩
      have X7 := Lib.hid (X6.out.trans hx7)
      have HR := Lib.hid hR
      clear hx7 hR
      try simp only [Act.put, List.setIfInBounds_toArray, List.set_cons_zero, List.set_cons_succ]
      repeat first | ((with_reducible refine sched_free ?_ ?_ ?_ ?_ (fun wk k1 => ?_) ?_); rotate_left 2; (rfl); (first | exact want_none rfl | exact want_some rfl rfl rfl rfl); (go_simp; first | exact OkX.val); simp only [Act.put, List.setIfInBounds_toArray, List.set_cons_zero, List.set_cons_succ]) | ((with_reducible refine sched_skip ?_ ?_ ?_ ?_); rotate_left; (rfl); (exact want_not rfl rfl rfl rfl rfl); simp only [Act.put, List.setIfInBounds_toArray, List.set_cons_zero, List.set_cons_succ])
      refine sched_done (fun wk k1 => ?_)
      have X8 := Lib.hid (X7.out.trans k1)
      have HR := Lib.hid (HR.out.ext k1)
      have h9 : wk.cell? ⟨g, 0, none⟩ = some (.int .u8 9) := X8.out.cell H9.out
      have hRg : R ≠ g := by omega
      have XW := Lib.hid (HX.out.trans X8.out)
      have hRW : w.heap.size ≤ R := by omega
      clear k1
      go_wp2_with fail
      refine (Int_ok R _ 0 _ HR.out (by rw [List.length_append, eInt_length, eInt_length]; omega)).mono ?_
      rintro e w9 ⟨rfl, hg9, hR9⟩
      have e1 : (eInt k ++ eInt n).take 8 = eInt k := List.take_left' (eInt_length k)
      have e2 : (eInt k ++ eInt n).drop 8 = eInt n := List.drop_left' (eInt_length k)
      rw [e1, HK.out]
      rw [e2] at hR9
      have HR := Lib.hid hR9
      have HG9 := Lib.hid hg9
      clear e1 e2 hR9 hg9 h9
      go_wp2_with fail
      refine (Int_ok R _ 0 _ HR.out (by rw [eInt_length]; omega)).mono ?_
      rintro e w10 ⟨rfl, hg10, hR10⟩
      have e1 : (eInt n).take 8 = eInt n := List.take_of_length_le (by rw [eInt_length]; omega)
      have e2 : (eInt n).drop 8 = [] := List.drop_of_length_le (by rw [eInt_length]; omega)
      rw [e1, HN.out]
      rw [e2] at hR10
      obtain ⟨v10, hRA, hRd, _⟩ := hR10
      obtain ⟨A10, c10, rfl, _, _⟩ := hRd.len
      have HRA := Lib.hid hRA
      have HG10 := Lib.hid (HG9.out.trans hg10)
      clear e1 e2 hRA hRd hg10
      go_wp2_with fail
      refine (End_ok R A10 _ c10 _ HRA.out).mono ?_
      rintro e w11 ⟨rfl, rfl⟩
      go_wp2
      go_ret
      exact ⟨rfl, XW.out.trans' (grown_below HG10.out XW.out.size (fun k hk => by injection hk with hk; omega))⟩

theorem own : ownKnob Try.prog.godebug = none := by kernel_rfl
set_option maxRecDepth 100000 in
theorem lifted (os : Os) (started : os.Started) (H : Type) (enc : TypeId × Value → H) :
    ReturnsInHanded {} Try.checked os 7 .any (Rows.codecSignsSpec.pre6 enc Try.prog Try.f7 Rows.codecSignsRow.domain false) (Rows.codecSignsSpec.post enc Try.prog Try.f7 false true false false) := by
  refine returnsInHanded_of_change (C := Try.checked) own started (by kernel_rfl) Try.func7
    (ChangeSpec.witness6 (enc := enc) (C := Try.checked) false ⟨#[], #[.int .i64 0, .int .i64 0], []⟩ 8 (by kernel_rfl) (by kernel_rfl) (by kernel_rfl) (by kernel_rfl)) ?_
  intro W base args ds gs before hval0 hW hcnd _
  have hval : ∀ (j : Nat) t v, Try.f7.params[j]? = some t → args[j]? = some v → Value.okWide Try.prog W .any base t v := hval0
  have hW' := hW
  obtain ⟨p, q, hA0, hV, rfl, hfz, hnd⟩ := hW
  have hA : DataW.TrodAll enc Try.prog W 0 (fun _ => true) true Try.f7.params.toList args.toList ds p := hA0
  rw [Try.params7] at hA hval
  obtain ⟨v0, vs0, d0, ds0, p0, q0, hargs, rfl, rfl, h0, r0⟩ := trodAll_cons hA
  obtain ⟨v1, vs1, d1, ds1, p1, q1, rfl, rfl, rfl, h1, r1⟩ := trodAll_cons r0
  obtain ⟨rfl, rfl, rfl⟩ := trodAll_nil r1
  obtain rfl : args = #[v0, v1] := by cases args; simp_all
  obtain ⟨rfl, rfl⟩ := trodVars_none hV
  obtain ⟨a0, rfl, rfl, rfl, w0⟩ := open_int Try.underlying3 (hval 0 3 v0 rfl rfl) h0
  obtain ⟨a1, rfl, rfl, rfl, w1⟩ := open_int Try.underlying3 (hval 1 3 v1 rfl rfl) h1
  clear hA0 hval0
  refine (walk a0 w0 a1 w1 W).mono fun e W' ⟨he, bel⟩ => ?_
  subst he
  exact ⟨_, rfl, _, _, _, [], _, [], hW', trodAll_mk1 (shut_bool Try.underlying4 _), (trodAll_cons_mk (shut_int Try.underlying3 w0) (trodAll_cons_mk (shut_int Try.underlying3 w1) trodAll_mk0)), rfl, bel.frame _, fun h => by cases h⟩

theorem over : Rows.codecSignsRow.holds Try.pinned (OpenSpec.ofChange Rows.codecSignsSpec) :=
  OpenClaim.holds_of_wide 7 Try.f7 rfl rfl rfl rfl rfl rfl rfl ⟨rfl, rfl, rfl, rfl, rfl⟩ rfl rfl rfl rfl rfl (by kernel_rfl) Try.func7 (by kernel_rfl)
    (of_decide_eq_true (by kernel_rfl)) (by unfold Func.isWrapper; first | (rw [if_pos (by decide +kernel)]; kernel_rfl) | (rw [if_neg (by decide +kernel)]; exact ⟨rfl, rfl⟩))
    (fun os started H enc _ => lifted os started H enc)

theorem proved : Rows.CodecSignsSaid := over
#print axioms proved
end Go.Proofs.Ytdooolafndpppaa.CodecSigns
