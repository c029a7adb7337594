/- The law CodecFails holds at every input: the first error stays, and behind it nothing is read. No condition. -/
import Derived.Test.YtdooolafndpppaaReadC
import Derived.Test.YtdooolafndpppaaNew
import Derived.Test.YtdooolafndpppaaKnown
import Derived.Test.YtdooolafndpppaaOpen
import Derived.JoinedOf
import Derived.JoinedAt
import Derived.RowKit3
import Derived.Lib.SmallJoins
namespace Go.Proofs.Ytdooolafndpppaa.CodecFails
open Go.ChangeShapes Go.WideShapes Go.ChangeAt Go.RowKit Go.Joins

def endV (l : List UInt8) (e : Int) : Int := if e = 0 then (if 0 < l.length then 9 else 0) else e

theorem End_any (R : Nat) (l : List UInt8) (e0 : Int) (w : World) (h : Rdr w R l e0) :
    Calls Try.prog 28 #[.pointer (some ⟨R, 0, none⟩)] w fun e w' => e = .returned (.int .i64 (endV l e0)) ∧ w = w' := by
  obtain ⟨v, hr, hd, _, _⟩ := h
  obtain ⟨A, c, rfl, _, _⟩ := hd.len
  rw [bvs_length] at hr
  by_cases h0 : e0 = 0
  · subst h0
    exact End_ok R A _ c w hr
  · unfold endV
    rw [if_neg h0]
    exact End_err R _ e0 w hr (by simpa using h0)

theorem Rdr.grown_nil {w w' : World} {R X : Nat} {e : Int} (h : Rdr w R [] e) (k : w.grownBy w' (some X)) (hne : X ≠ R) : Rdr w' R [] e := by
  obtain ⟨v, h1, h2, h3, h4⟩ := h
  obtain ⟨A, c, rfl, hc, hm⟩ := h2.len
  exact ⟨_, h1.grown k (by simpa using hne), ⟨A, c, rfl, hc, hm, fun hn => absurd hn (by simp [bvs])⟩, h3, h4⟩

theorem stepE {w w1 w2 : World} {R : Nat} (X : Ext w w1) (g : w1.grownBy w2 (some R)) (h : w.heap.size ≤ R) : Ext w w2 := X.trans' (grown_below g X.size (fun k hk => by injection hk with hk; omega))

set_option maxHeartbeats 1000000 in
theorem walk (w : World) (v0 : Value) (B : List UInt8) (r0 : Rd w v0 (bvs B)) (e : Int) (_ : (Lit.int .i64 e).wf = true) (f : Int) (_ : (Lit.int .i64 f).wf = true) :
    Calls Try.prog 6 #[v0, .int .i64 e, .int .i64 f] w fun e w' => e = .returned (.bool true) ∧ Below w.heap.size w w' := by
  have R0 := Lib.hid r0
  obtain ⟨A0, c0, rfl, _, _⟩ := r0.len
  rw [bvs_length] at *
  clear r0
  have hk0 : 0 ≤ e % 19 ∧ e % 19 ≤ 18 := by omega
  have hf0 : 0 ≤ f % 19 ∧ f % 19 ≤ 18 := by omega
  obtain ⟨K, hK⟩ : ∃ K, e % 19 = K := ⟨_, rfl⟩
  obtain ⟨F, hF⟩ : ∃ F, f % 19 = F := ⟨_, rfl⟩
  rw [hK] at hk0
  rw [hF] at hf0
  obtain ⟨k0, k1⟩ := hk0
  obtain ⟨f0, f1⟩ := hf0
  have hK := Lib.hid hK
  have hF := Lib.hid hF
  have e1 : ¬ (1 + K = 0) := by omega
  have e2 : ¬ (1 + F = 0) := by omega
  by_cases h1 : (100 : Int) < B.length
  · go_enter Try.func6, Try.ntmps6
    go_wp2_with fail
    refine (known_any _).mono ?_
    rintro e w1 ⟨rfl, hx1⟩
    go_wp2
    go_ret
    exact ⟨rfl, hx1⟩
  · have H1 := Lib.hid e1
    have H2 := Lib.hid e2
    clear e1 e2
    go_enter Try.func6, Try.ntmps6
    go_wp2_with fail
    refine (known_any _).mono ?_
    rintro e w1 ⟨rfl, hx1⟩
    have X := Lib.hid hx1
    clear hx1
    go_wp2_with fail
    refine (within_any _ _ _ ⟨by decide, by decide⟩).mono ?_
    rintro e w1' ⟨rfl, rfl⟩
    rw [hK.out]
    go_wp2_with fail
    refine (within_any _ _ _ ⟨by decide, by decide⟩).mono ?_
    rintro e w1' ⟨rfl, rfl⟩
    rw [hF.out]
    go_wp2_with fail
    refine (New_any _ B _ (R0.out.ext X.out) (by omega)).mono ?_
    rintro e w2 ⟨R, rfl, hx, hR, hRw⟩
    have hwR : w.heap.size ≤ R := Nat.le_trans X.out.size hRw
    have X := Lib.hid (X.out.trans hx)
    have HR := Lib.hid hR
    clear hx hR hRw
    go_wp2_with fail
    refine (Fail_any R B 0 0 _ HR.out).mono ?_
    rintro e wn ⟨rfl, hg, hR⟩
    rw [show failL B 0 0 = B from by simp [failL]] at hR
    rw [show failE 0 0 = 0 from rfl] at hR
    have X := Lib.hid (stepE X.out hg hwR)
    have HR := Lib.hid hR
    clear hg hR
    go_wp2_with fail
    refine (End_any R B 0 _ HR.out).mono ?_
    rintro e wn ⟨rfl, rfl⟩
    go_wp2_with fail
    refine (Fail_any R B 0 (1 + K) _ HR.out).mono ?_
    rintro e wn ⟨rfl, hg, hR⟩
    rw [show failL B 0 (1 + K) = [] from if_pos ⟨rfl, H1.out⟩] at hR
    rw [show failE 0 (1 + K) = 1 + K from rfl] at hR
    have X := Lib.hid (stepE X.out hg hwR)
    have HR := Lib.hid hR
    clear hg hR
    go_wp2_with fail
    refine (Fail_any R [] (1 + K) (1 + F) _ HR.out).mono ?_
    rintro e wn ⟨rfl, hg, hR⟩
    rw [show failL [] (1 + K) (1 + F) = [] from if_neg (fun h => H1.out h.1)] at hR
    rw [show failE (1 + K) (1 + F) = 1 + K from if_neg H1.out] at hR
    have X := Lib.hid (stepE X.out hg hwR)
    have HR := Lib.hid hR
    clear hg hR
    go_wp2_with fail
    refine (Int_cut R [] (1 + K) _ HR.out (by decide)).mono ?_
    rintro e wn ⟨rfl, hg, hR⟩
    rw [show cutE (1 + K) = 1 + K from if_neg H1.out] at hR
    have X := Lib.hid (stepE X.out hg hwR)
    have HR := Lib.hid hR
    clear hg hR
    go_wp2_with fail
    refine (Text_cut R [] (1 + K) _ HR.out (.inl (by decide))).mono ?_
    rintro e wn ⟨rfl, hg, hR⟩
    rw [show cutE (1 + K) = 1 + K from if_neg H1.out] at hR
    have X := Lib.hid (stepE X.out hg hwR)
    have HR := Lib.hid hR
    clear hg hR
    go_wp2_with fail
    refine (Ints_cut R [] (1 + K) _ HR.out (.inl (by decide))).mono ?_
    rintro e wn ⟨rfl, hg, hR⟩
    rw [show cutE (1 + K) = 1 + K from if_neg H1.out] at hR
    have X := Lib.hid (stepE X.out hg hwR)
    have HR := Lib.hid hR
    clear hg hR
    go_wp2_with fail
    refine (New_any _ [] _ (Rd.nil _) (by decide)).mono ?_
    rintro e wn ⟨R2, rfl, hx, hR, hRw⟩
    have hw2 : w.heap.size ≤ R2 := Nat.le_trans X.out.size hRw
    have hne : R2 ≠ R := by
      obtain ⟨_, hr, _⟩ := HR.out
      have := hr.lt
      omega
    have X := Lib.hid (X.out.trans hx)
    have HR := Lib.hid (HR.out.ext hx)
    have HX := Lib.hid hR
    clear hx hR hRw
    go_wp2_with fail
    refine (Int_cut R2 [] 0 _ HX.out (by decide)).mono ?_
    rintro e wn ⟨rfl, hg, hR⟩
    rw [show cutE 0 = 8 from rfl] at hR
    have X := Lib.hid (stepE X.out hg hw2)
    have HX := Lib.hid hR
    have HR := Lib.hid (Rdr.grown_nil HR.out hg hne)
    clear hg hR
    go_wp2_with fail
    refine (Fail_any R2 [] 8 (1 + F) _ HX.out).mono ?_
    rintro e wn ⟨rfl, hg, hR⟩
    rw [show failL [] 8 (1 + F) = [] from rfl] at hR
    rw [show failE 8 (1 + F) = 8 from rfl] at hR
    have X := Lib.hid (stepE X.out hg hw2)
    have HX := Lib.hid hR
    have HR := Lib.hid (Rdr.grown_nil HR.out hg hne)
    clear hg hR
    have hE1 := Lib.hid (End_any R [] (1 + K) _ HR.out)
    have hE2 := Lib.hid (End_any R2 [] 8 _ HX.out)
    clear hne
    by_cases hB : B.length = 0
    · have hb : endV B 0 = 0 := by simp [endV, hB]
      rw [hb, hB]
      clear hb hB
      go_wp2_with fail
      refine hE1.out.mono ?_
      rintro e wn ⟨rfl, rfl⟩
      rw [show endV [] (1 + K) = 1 + K from if_neg H1.out]
      go_wp2_with fail
      refine hE2.out.mono ?_
      rintro e wn ⟨rfl, rfl⟩
      rw [show endV [] 8 = 8 from rfl]
      go_wp2
      go_ret
      exact ⟨rfl, X.out⟩
    · have hb : endV B 0 = 9 := by unfold endV; rw [if_pos rfl, if_pos (by omega)]
      rw [hb]
      have hB' : ((B.length : Int) == 0) = false := by simpa using hB
      clear hb hB
      go_wp2_with fail
      refine hE1.out.mono ?_
      rintro e wn ⟨rfl, rfl⟩
      rw [show endV [] (1 + K) = 1 + K from if_neg H1.out]
      go_wp2_with fail
      refine hE2.out.mono ?_
      rintro e wn ⟨rfl, rfl⟩
      rw [show endV [] 8 = 8 from rfl]
      go_wp2
      go_ret
      exact ⟨rfl, X.out⟩

theorem own : ownKnob Try.prog.godebug = none := by kernel_rfl
theorem laidOut : laidOutB Try.prog = true := by kernel_rfl
set_option maxRecDepth 100000 in
theorem lifted (os : Os) (started : os.Started) (H : Type) (enc : TypeId × Value → H) :
    ReturnsInHanded {} Try.checked os 6 .any (Rows.codecFailsSpec.pre6 enc Try.prog Try.f6 Rows.codecFailsRow.domain false) (Rows.codecFailsSpec.post enc Try.prog Try.f6 false true false false) := by
  refine returnsInHanded_of_change (C := Try.checked) own started (by kernel_rfl) Try.func6
    (ChangeSpec.witness6 (enc := enc) (C := Try.checked) false ⟨#[], #[.slice none 0 0, .int .i64 0, .int .i64 0], []⟩ 8 (by kernel_rfl) (by kernel_rfl) (by kernel_rfl) (by kernel_rfl)) ?_
  intro W base args ds gs before hval0 hW hcnd _
  have hval : ∀ (j : Nat) t v, Try.f6.params[j]? = some t → args[j]? = some v → Value.okWide Try.prog W .any base t v := hval0
  have hW' := hW
  obtain ⟨p, q, hA0, hV, rfl, hfz, hnd⟩ := hW
  have hA : DataW.TrodAll enc Try.prog W 0 (fun _ => true) true Try.f6.params.toList args.toList ds p := hA0
  rw [Try.params6] at hA hval
  obtain ⟨v0, vs0, d0, ds0, p0, q0, hargs, rfl, rfl, h0, r0⟩ := trodAll_cons hA
  obtain ⟨v1, vs1, d1, ds1, p1, q1, rfl, rfl, rfl, h1, r1⟩ := trodAll_cons r0
  obtain ⟨v2, vs2, d2, ds2, p2, q2, rfl, rfl, rfl, h2, r2⟩ := trodAll_cons r1
  obtain ⟨rfl, rfl, rfl⟩ := trodAll_nil r2
  obtain rfl : args = #[v0, v1, v2] := by cases args; simp_all
  obtain ⟨rfl, rfl⟩ := trodVars_none hV
  have hlt0 : ∀ x ∈ p0, x.block < W.heap.size := fun x hx => by simpa using hW'.lt x (by simp [hx])
  obtain ⟨l0, rd0⟩ := open_bytes Try.underlying22 Try.underlying5 (by kernel_rfl) (hval 0 22 v0 rfl rfl) h0
  obtain ⟨a1, rfl, rfl, rfl, w1⟩ := open_int Try.underlying3 (hval 1 3 v1 rfl rfl) h1
  obtain ⟨a2, rfl, rfl, rfl, w2⟩ := open_int Try.underlying3 (hval 2 3 v2 rfl rfl) h2
  clear hA0 hval0
  refine (walk W v0 l0 rd0 a1 w1 a2 w2).mono fun e W' ⟨he, bel⟩ => ?_
  subst he
  exact ⟨_, rfl, _, _, _, [], _, [], hW', trodAll_mk1 (shut_bool Try.underlying4 _), (trodAll_cons_mk (Below.trod laidOut (by kernel_rfl) (of_decide_eq_true (by kernel_rfl)) h0 bel hlt0) (trodAll_cons_mk (shut_int Try.underlying3 w1) (trodAll_cons_mk (shut_int Try.underlying3 w2) trodAll_mk0))), rfl, bel.frame _, fun h => by cases h⟩

theorem over : Rows.codecFailsRow.holds Try.pinned (OpenSpec.ofChange Rows.codecFailsSpec) :=
  OpenClaim.holds_of_wide 6 Try.f6 rfl rfl rfl rfl rfl rfl rfl ⟨rfl, rfl, rfl, rfl, rfl⟩ rfl rfl rfl rfl rfl (by kernel_rfl) Try.func6 (by kernel_rfl)
    (of_decide_eq_true (by kernel_rfl)) (by unfold Func.isWrapper; first | (rw [if_pos (by decide +kernel)]; kernel_rfl) | (rw [if_neg (by decide +kernel)]; exact ⟨rfl, rfl⟩))
    (fun os started H enc _ => lifted os started H enc)

theorem proved : Rows.CodecFailsSaid := over
#print axioms proved
end Go.Proofs.Ytdooolafndpppaa.CodecFails
