/- The law CodecReads holds at every input: any bytes, read by any row of questions, are answered as the document says. No condition. -/
import Derived.Test.YtdooolafndpppaaPair
import Derived.Test.YtdooolafndpppaaNew
import Derived.Test.YtdooolafndpppaaKnown
import Derived.Test.YtdooolafndpppaaOpen
import Derived.Test.YtdooolafndpppaaWith
import Derived.JoinedOf
import Derived.JoinedAt
import Derived.RowKit3
import Derived.Lib.SmallJoins
namespace Go.Proofs.Ytdooolafndpppaa.CodecReads
open Go.ChangeShapes Go.WideShapes Go.ChangeAt Go.RowKit Go.Joins

theorem ext_drewN (w : World) (n : Nat) : Ext w (w.drewN n) := ⟨rfl, rfl, rfl, Nat.le_refl _, fun _ _ => rfl⟩
theorem ext_alloc (w : World) (o : Obj) : Ext w (w.alloc o) := (Below.refl _ _).alloc (Nat.le_refl _) o
theorem ext_grown {w0 w w' : World} {R : Nat} (h : Ext w0 w) (k : w.grownBy w' (some R)) (hR : w0.heap.size ≤ R) : Ext w0 w' :=
  h.trans' (grown_below k h.size (fun _ e => by injection e with e; subst e; exact hR))

theorem XS.drewN {w : World} {X : Nat} {A : Option Addr} {c : Nat} {B l : List UInt8} {e : Int} (h : XS w X A c B l e) (m : Nat) : XS (w.drewN m) X A c B l e := h

/-- How the two readers stand to one another. -/
def St (w wr : World) (R X : Nat) (A : Option Addr) (c : Nat) (B : List UInt8) : Prop :=
  ∃ (l : List UInt8) (e : Int), Rdr wr R l e ∧ XS wr X A c B l e ∧ Ext w wr

set_option maxHeartbeats 4000000 in
theorem walk (w : World) (v0 : Value) (B : List UInt8) (r0 : Rd w v0 (bvs B)) (v1 : Value) (qs : List Int) (r1 : Rd w v1 (qs.map (Value.int .i64))) (_ : ∀ z ∈ qs, (Lit.int .i64 z).wf = true) :
    Calls Try.prog 4 #[v0, v1] w fun e w' => e = .returned (.bool true) ∧ Below w.heap.size w w' := by
  obtain ⟨i0, hi, hz0, hz1, hz2⟩ := info_parts Try.infoU8
  have R0 := Lib.hid r0
  obtain ⟨A0, c0, rfl, _, _⟩ := r0.len
  obtain ⟨A1, c1, rfl, hc1, hm1, hcu⟩ := r1
  have hcu := Lib.hid hcu
  rw [bvs_length] at *
  rw [List.length_map] at *
  unfold maxLen at hm1
  clear r0
  by_cases h1 : (500 : Int) < B.length
  · go_enter Try.func4, Try.ntmps4
    go_wp2_with fail
    refine (known_any _).mono ?_
    rintro e w1 ⟨rfl, hx1⟩
    go_wp2
    go_ret
    exact ⟨rfl, hx1⟩
  · go_enter Try.func4, Try.ntmps4
    go_wp2_with fail
    refine (known_any _).mono ?_
    rintro e w1 ⟨rfl, hx1⟩
    have hsz1 := hx1.size
    have hr0 := Lib.hid ((R0.out.ext (hx1.trans (ext_alloc w1 (.cells #[] 5)))).src bvs_one Try.underlying22)
    have ho0 := Lib.hid (World.ownsRow_made (w := w1) (base := w.heap.size) (e := 5) (size := 1) #[] 0 hsz1 (by simp [maxLen]) rfl)
    go_wp2_with (at_builtin; refine wpList_app_src _ rfl (.tmp 13) (.tmp 14) 22 22 rfl w.heap.size 5 i0 (.int .u8 0) 1 Try.underlying22 hi hz0 hz1 hz2 rfl _ 0 [] rfl ho0.out _ (bvs B).length (bvs B) rfl hr0.out ?c3 ?c4 ?c5 ?_)
    case c3 => rw [bvs_length]; simp [maxLen]; omega
    case c4 => rw [bvs_length]; omega
    case c5 => simp; omega
    intro va w2 hown hgrow hat hfr
    have hE := Lib.hid ((hx1.trans (ext_alloc w1 (.cells #[] 5))).trans' (grown_below hgrow (by simp; omega) (fun k hk => by simp [Value.ownBlock] at hk; omega)))
    have hown := Lib.hid hown
    clear hgrow hat hfr ho0 hr0 hx1 hsz1
    go_wp2_with fail
    refine (New_any va B _ (Rd.of_own hown.out) (by omega)).mono ?_
    rintro e w3 ⟨R, rfl, hx3, hR3, hge⟩
    have hR := Nat.le_trans hE.out.size hge
    have hE3 := Lib.hid (hE.out.trans hx3)
    have HR3 := Lib.hid hR3
    clear hE hown hx3 hR3 hge
    go_wp2_with fail
    refine (rNew_any _ A0 B.length c0 rfl _).mono ?_
    rintro e w4 ⟨rfl, hx4, hX4⟩
    have hRX : R < w3.heap.size := by
      obtain ⟨v, h, _⟩ := HR3.out
      exact h.lt
    have hXw := hE3.out.size
    generalize hXn : w3.heap.size = X at *
    have hne : X ≠ R := by omega
    have hS : St w w4 R X A0 c0 B := ⟨B, 0, HR3.out.ext hx4, ⟨0, hX4, fun _ => ⟨Nat.zero_le _, rfl⟩, fun h => absurd rfl h⟩, hE3.out.trans hx4⟩
    have hS := Lib.hid hS
    have hXb : 0 < B.length → ∀ a, A0 = some a → a.block ≠ X := by
      rintro hn a rfl
      obtain ⟨A', c', h, _, _, hc⟩ := R0.out
      obtain ⟨a', rfl, hb, _⟩ := hc (by rw [bvs_length]; exact hn)
      injection h with h
      injection h with h
      subst h
      omega
    have hm : B.length ≤ 1000 := by omega
    have hXb := Lib.hid hXb
    clear hX4 hx4 HR3 hE3
    go_wp2
    go_loopw [7] (fun i wr => ∃ k : Nat, k ≤ qs.length ∧ k ≤ 30 ∧ i = .int .i64 k ∧ St w wr R X A0 c0 B) (fun i _ => 30 - (intOf i).toNat)
    case atStart => exact ⟨0, Nat.zero_le _, Nat.zero_le _, rfl, hS.out⟩
    case round =>
      obtain ⟨k, hk, hk30, rfl, l, e, hRd, hXS, hE⟩ := hrel
      have HR := Lib.hid hRd
      have HX := Lib.hid hXS
      have HE := Lib.hid hE
      have HB := Lib.hid (R0.out.ext hE)
      clear hRd hXS hE hS
      have hstep : ∀ w', wr.grownBy w' (some R) → Ext w w' := fun w' h => ext_grown HE.out h hR
      have hstep := Lib.hid hstep
      by_cases hlt : k < qs.length
      · by_cases hl3 : k < 30
        · obtain ⟨a, rfl, hab, ha⟩ := hcu.out (by omega)
          have hcw : w.cell? (a.add k) = some (.int .i64 qs[k]) := ha k _ (by simp [hlt])
          have hab' : (a.add k).block < w.heap.size := by rw [add_block]; exact hab
          have hkeep : ∀ w', Ext w w' → w'.cell? (a.add k) = some (.int .i64 qs[k]) := fun w' h => (World.cell?_of_block (h.block _ hab')).trans hcw
          have c1 : wr.cell? (a.add k) = some (.int .i64 qs[k]) := hkeep _ HE.out
          have i0 : (0 : Int) ≤ (k : Int) := by omega
          have i1 : (k : Int) < (qs.length : Int) := by omega
          have i2 : (k : Int) < 30 := by omega
          generalize qs[k] = x at *
          have hkeep := Lib.hid hkeep
          clear ha hcw hab'
          go_wp2_with fail
          refine (within_any x 7 _ (by decide)).mono ?_
          rintro r w5 ⟨rfl, rfl⟩
          have q0 : 0 ≤ x % 7 := Int.emod_nonneg _ (by decide)
          have q1 : x % 7 < 7 := Int.emod_lt_of_pos _ (by decide)
          generalize x % 7 = q at *
          obtain rfl | rfl | rfl | rfl | rfl | rfl | rfl : q = 0 ∨ q = 1 ∨ q = 2 ∨ q = 3 ∨ q = 4 ∨ q = 5 ∨ q = 6 := by omega
          · go_wp2_with fail
            refine (Int_S R l e _ HR.out).mono ?_
            rintro r w5 ⟨rfl, hg, hR5⟩
            have HX5 := Lib.hid (HX.out.grown hg (fun h => hne (by injection h with h; exact h.symm)))
            have HE5 := Lib.hid (hstep.out _ hg)
            have HR5 := Lib.hid hR5
            clear hg hR5
            go_wp2_with fail
            refine (rInt_S X A0 B l c0 e _ HX5.out (R0.out.ext HE5.out) hXb.out hm).mono ?_
            rintro r w6 ⟨rfl, hg, hX6⟩
            have HR6 := Lib.hid (HR5.out.grownX HX5.out hg hne)
            have HE6 := Lib.hid (ext_grown HE5.out hg hXw)
            have HX6 := Lib.hid hX6
            clear hg hX6 HR5 HX5 HE5
            go_wp2_with fail
            refine (End_any R _ _ _ HR6.out).mono ?_
            rintro r w8 ⟨rfl, rfl⟩
            go_wp2_with fail
            refine (rEnd_S X A0 B _ c0 _ _ HX6.out).mono ?_
            rintro r w9 ⟨rfl, m, rfl⟩
            go_wp2
            go_roundw
            case rel => exact ⟨k + 1, by omega, by omega, by go_num, _, _, HR6.out.ext (ext_drewN _ m), XS.drewN HX6.out m, HE6.out.trans (ext_drewN _ m)⟩
            case measure => simp [intOf]; omega
          · go_wp2_with fail
            refine (Int_S R l e _ HR.out).mono ?_
            rintro r w5 ⟨rfl, hg, hR5⟩
            have HX5 := Lib.hid (HX.out.grown hg (fun h => hne (by injection h with h; exact h.symm)))
            have HE5 := Lib.hid (hstep.out _ hg)
            have HR5 := Lib.hid hR5
            clear hg hR5
            go_wp2_with fail
            refine (rInt_S X A0 B l c0 e _ HX5.out (R0.out.ext HE5.out) hXb.out hm).mono ?_
            rintro r w6 ⟨rfl, hg, hX6⟩
            have HR6 := Lib.hid (HR5.out.grownX HX5.out hg hne)
            have HE6 := Lib.hid (ext_grown HE5.out hg hXw)
            have HX6 := Lib.hid hX6
            clear hg hX6 HR5 HX5 HE5
            go_wp2_with fail
            refine (End_any R _ _ _ HR6.out).mono ?_
            rintro r w8 ⟨rfl, rfl⟩
            go_wp2_with fail
            refine (rEnd_S X A0 B _ c0 _ _ HX6.out).mono ?_
            rintro r w9 ⟨rfl, m, rfl⟩
            go_wp2
            go_roundw
            case rel => exact ⟨k + 1, by omega, by omega, by go_num, _, _, HR6.out.ext (ext_drewN _ m), XS.drewN HX6.out m, HE6.out.trans (ext_drewN _ m)⟩
            case measure => simp [intOf]; omega
          · go_wp2_with fail
            refine (Int_S R l e _ HR.out).mono ?_
            rintro r w5 ⟨rfl, hg, hR5⟩
            have HX5 := Lib.hid (HX.out.grown hg (fun h => hne (by injection h with h; exact h.symm)))
            have HE5 := Lib.hid (hstep.out _ hg)
            have HR5 := Lib.hid hR5
            clear hg hR5
            go_wp2_with fail
            refine (rInt_S X A0 B l c0 e _ HX5.out (R0.out.ext HE5.out) hXb.out hm).mono ?_
            rintro r w6 ⟨rfl, hg, hX6⟩
            have HR6 := Lib.hid (HR5.out.grownX HX5.out hg hne)
            have HE6 := Lib.hid (ext_grown HE5.out hg hXw)
            have HX6 := Lib.hid hX6
            clear hg hX6 HR5 HX5 HE5
            go_wp2_with fail
            refine (End_any R _ _ _ HR6.out).mono ?_
            rintro r w8 ⟨rfl, rfl⟩
            go_wp2_with fail
            refine (rEnd_S X A0 B _ c0 _ _ HX6.out).mono ?_
            rintro r w9 ⟨rfl, m, rfl⟩
            go_wp2
            go_roundw
            case rel => exact ⟨k + 1, by omega, by omega, by go_num, _, _, HR6.out.ext (ext_drewN _ m), XS.drewN HX6.out m, HE6.out.trans (ext_drewN _ m)⟩
            case measure => simp [intOf]; omega
          · go_wp2_with fail
            refine (Text_S R l e _ HR.out).mono ?_
            rintro r w5 ⟨rfl, hg, hR5⟩
            have HX5 := Lib.hid (HX.out.grown hg (fun h => hne (by injection h with h; exact h.symm)))
            have HE5 := Lib.hid (hstep.out _ hg)
            have HR5 := Lib.hid hR5
            clear hg hR5
            go_wp2_with fail
            refine (rText_S X A0 B l c0 e _ HX5.out (R0.out.ext HE5.out) hXb.out hm).mono ?_
            rintro r w6 ⟨rfl, hg, hX6⟩
            have HR6 := Lib.hid (HR5.out.grownX HX5.out hg hne)
            have HE6 := Lib.hid (ext_grown HE5.out hg hXw)
            have HX6 := Lib.hid hX6
            clear hg hX6 HR5 HX5 HE5
            go_wp2_with fail
            refine (End_any R _ _ _ HR6.out).mono ?_
            rintro r w8 ⟨rfl, rfl⟩
            go_wp2_with fail
            refine (rEnd_S X A0 B _ c0 _ _ HX6.out).mono ?_
            rintro r w9 ⟨rfl, m, rfl⟩
            go_wp2
            go_roundw
            case rel => exact ⟨k + 1, by omega, by omega, by go_num, _, _, HR6.out.ext (ext_drewN _ m), XS.drewN HX6.out m, HE6.out.trans (ext_drewN _ m)⟩
            case measure => simp [intOf]; omega
          · go_wp2_with fail
            refine (Text_S R l e _ HR.out).mono ?_
            rintro r w5 ⟨rfl, hg, hR5⟩
            have HX5 := Lib.hid (HX.out.grown hg (fun h => hne (by injection h with h; exact h.symm)))
            have HE5 := Lib.hid (hstep.out _ hg)
            have HR5 := Lib.hid hR5
            clear hg hR5
            go_wp2_with fail
            refine (rText_S X A0 B l c0 e _ HX5.out (R0.out.ext HE5.out) hXb.out hm).mono ?_
            rintro r w6 ⟨rfl, hg, hX6⟩
            have HR6 := Lib.hid (HR5.out.grownX HX5.out hg hne)
            have HE6 := Lib.hid (ext_grown HE5.out hg hXw)
            have HX6 := Lib.hid hX6
            clear hg hX6 HR5 HX5 HE5
            go_wp2_with fail
            refine (End_any R _ _ _ HR6.out).mono ?_
            rintro r w8 ⟨rfl, rfl⟩
            go_wp2_with fail
            refine (rEnd_S X A0 B _ c0 _ _ HX6.out).mono ?_
            rintro r w9 ⟨rfl, m, rfl⟩
            go_wp2
            go_roundw
            case rel => exact ⟨k + 1, by omega, by omega, by go_num, _, _, HR6.out.ext (ext_drewN _ m), XS.drewN HX6.out m, HE6.out.trans (ext_drewN _ m)⟩
            case measure => simp [intOf]; omega
          · go_wp2_with fail
            refine (Ints_S R l e _ HR.out).mono ?_
            rintro r w5 ⟨va5, rfl, hd5, hg, hR5, hgv⟩
            have HX5 := Lib.hid (HX.out.grown hg (fun h => hne (by injection h with h; exact h.symm)))
            have HE5 := Lib.hid (hstep.out _ hg)
            have HR5 := Lib.hid hR5
            have HD5 := Lib.hid hd5
            have hXr : X < wr.heap.size := by
              obtain ⟨p, h, _⟩ := HX.out
              exact h.lt
            have hgv := Lib.hid (show ∀ g, some X = some g → va5.ownBlock ≠ some g from fun g h h2 => absurd (hgv g h2) (by have h3 := Option.some.inj h; omega))
            clear hg hR5 hd5
            go_wp2_with fail
            refine (rInts_S X A0 B l c0 e _ HX5.out (R0.out.ext HE5.out) hXb.out hm).mono ?_
            rintro r w6 ⟨vb6, rfl, hd6, hg, hX6⟩
            have HR6 := Lib.hid (HR5.out.grownX HX5.out hg hne)
            have HE6 := Lib.hid (ext_grown HE5.out hg hXw)
            have HX6 := Lib.hid hX6
            have HD6 := Lib.hid hd6
            have HD5 := Lib.hid (HD5.out.grown hg hgv.out)
            clear hg hX6 HR5 HX5 HE5 hgv hd6 hXr
            go_wp2_with fail
            refine (ints_same _ _ _ _ HD5.out HD6.out).mono ?_
            rintro r w7 ⟨rfl, m7, rfl⟩
            have HE6 := Lib.hid (HE6.out.trans (ext_drewN _ m7))
            have HR6 := Lib.hid (HR6.out.ext (ext_drewN _ m7))
            have HX6 := Lib.hid (XS.drewN HX6.out m7)
            clear HD5 HD6
            generalize w6.drewN m7 = w7 at *
            go_wp2_with fail
            refine (End_any R _ _ _ HR6.out).mono ?_
            rintro r w8 ⟨rfl, rfl⟩
            go_wp2_with fail
            refine (rEnd_S X A0 B _ c0 _ _ HX6.out).mono ?_
            rintro r w9 ⟨rfl, m, rfl⟩
            go_wp2
            go_roundw
            case rel => exact ⟨k + 1, by omega, by omega, by go_num, _, _, HR6.out.ext (ext_drewN _ m), XS.drewN HX6.out m, HE6.out.trans (ext_drewN _ m)⟩
            case measure => simp [intOf]; omega
          · go_wp2_with fail
            refine (Fail_any R l e _ _ HR.out).mono ?_
            rintro r w5 ⟨rfl, hg, hR5⟩
            have HX5 := Lib.hid (HX.out.grown hg (fun h => hne (by injection h with h; exact h.symm)))
            have HE5 := Lib.hid (hstep.out _ hg)
            have HR5 := Lib.hid hR5
            have c5 := hkeep.out _ HE5.out
            clear hg hR5
            go_wp2_with fail
            refine (rFail_S X A0 B l c0 e _ _ HX5.out).mono ?_
            rintro r w6 ⟨rfl, hg, hX6⟩
            have HR6 := Lib.hid (HR5.out.grownX HX5.out hg hne)
            have HE6 := Lib.hid (ext_grown HE5.out hg hXw)
            have HX6 := Lib.hid hX6
            clear hg hX6 HR5 HX5 HE5
            go_wp2_with fail
            refine (End_any R _ _ _ HR6.out).mono ?_
            rintro r w8 ⟨rfl, rfl⟩
            go_wp2_with fail
            refine (rEnd_S X A0 B _ c0 _ _ HX6.out).mono ?_
            rintro r w9 ⟨rfl, m, rfl⟩
            go_wp2
            go_roundw
            case rel => exact ⟨k + 1, by omega, by omega, by go_num, _, _, HR6.out.ext (ext_drewN _ m), XS.drewN HX6.out m, HE6.out.trans (ext_drewN _ m)⟩
            case measure => simp [intOf]; omega
        · go_wp2_with fail
          refine (End_any R _ _ _ HR.out).mono ?_
          rintro r w6 ⟨rfl, rfl⟩
          go_wp2_with fail
          refine (rEnd_S X A0 B _ c0 _ _ HX.out).mono ?_
          rintro r w7 ⟨rfl, m, rfl⟩
          go_wp2
          go_ret
          exact ⟨rfl, HE.out.trans (ext_drewN _ m)⟩
      · go_wp2_with fail
        refine (End_any R _ _ _ HR.out).mono ?_
        rintro r w6 ⟨rfl, rfl⟩
        go_wp2_with fail
        refine (rEnd_S X A0 B _ c0 _ _ HX.out).mono ?_
        rintro r w7 ⟨rfl, m, rfl⟩
        go_wp2
        go_ret
        exact ⟨rfl, HE.out.trans (ext_drewN _ m)⟩
theorem own : ownKnob Try.prog.godebug = none := by kernel_rfl
theorem laidOut : laidOutB Try.prog = true := by kernel_rfl
set_option maxRecDepth 100000 in
theorem lifted (os : Os) (started : os.Started) (H : Type) (enc : TypeId × Value → H) :
    ReturnsInHanded {} Try.checked os 4 .any (Rows.codecReadsSpec.pre6 enc Try.prog Try.f4 Rows.codecReadsRow.domain false) (Rows.codecReadsSpec.post enc Try.prog Try.f4 false true false false) := by
  refine returnsInHanded_of_change (C := Try.checked) own started (by kernel_rfl) Try.func4
    (ChangeSpec.witness6 (enc := enc) (C := Try.checked) false ⟨#[], #[.slice none 0 0, .slice none 0 0], []⟩ 8 (by kernel_rfl) (by kernel_rfl) (by kernel_rfl) (by kernel_rfl)) ?_
  intro W base args ds gs before hval0 hW hcnd _
  have hval : ∀ (j : Nat) t v, Try.f4.params[j]? = some t → args[j]? = some v → Value.okWide Try.prog W .any base t v := hval0
  have hW' := hW
  obtain ⟨p, q, hA0, hV, rfl, hfz, hnd⟩ := hW
  have hA : DataW.TrodAll enc Try.prog W 0 (fun _ => true) true Try.f4.params.toList args.toList ds p := hA0
  rw [Try.params4] at hA hval
  obtain ⟨v0, vs0, d0, ds0, p0, q0, hargs, rfl, rfl, h0, r0⟩ := trodAll_cons hA
  obtain ⟨v1, vs1, d1, ds1, p1, q1, rfl, rfl, rfl, h1, r1⟩ := trodAll_cons r0
  obtain ⟨rfl, rfl, rfl⟩ := trodAll_nil r1
  obtain rfl : args = #[v0, v1] := by cases args; simp_all
  obtain ⟨rfl, rfl⟩ := trodVars_none hV
  have hlt0 : ∀ x ∈ p0, x.block < W.heap.size := fun x hx => by simpa using hW'.lt x (by simp [hx])
  obtain ⟨l0, rd0⟩ := open_bytes Try.underlying22 Try.underlying5 (by kernel_rfl) (hval 0 22 v0 rfl rfl) h0
  have hlt1 : ∀ x ∈ p1, x.block < W.heap.size := fun x hx => by simpa using hW'.lt x (by simp [hx])
  obtain ⟨l1, rd1, wf1⟩ := open_rd Try.underlying23 Try.underlying3 (by kernel_rfl) (hval 1 23 v1 rfl rfl) h1
  clear hA0 hval0
  refine (walk W v0 l0 rd0 v1 l1 rd1 wf1).mono fun e W' ⟨he, bel⟩ => ?_
  subst he
  exact ⟨_, rfl, _, _, _, [], _, [], hW', trodAll_mk1 (shut_bool Try.underlying4 _), (trodAll_cons_mk (Below.trod laidOut (by kernel_rfl) (of_decide_eq_true (by kernel_rfl)) h0 bel hlt0) (trodAll_cons_mk (Below.trod laidOut (by kernel_rfl) (of_decide_eq_true (by kernel_rfl)) h1 bel hlt1) trodAll_mk0)), rfl, bel.frame _, fun h => by cases h⟩

theorem over : Rows.codecReadsRow.holds Try.pinned (OpenSpec.ofChange Rows.codecReadsSpec) :=
  OpenClaim.holds_of_wide 4 Try.f4 rfl rfl rfl rfl rfl rfl rfl ⟨rfl, rfl, rfl, rfl, rfl⟩ rfl rfl rfl rfl rfl (by kernel_rfl) Try.func4 (by kernel_rfl)
    (of_decide_eq_true (by kernel_rfl)) (by unfold Func.isWrapper; first | (rw [if_pos (by decide +kernel)]; kernel_rfl) | (rw [if_neg (by decide +kernel)]; exact ⟨rfl, rfl⟩))
    (fun os started H enc _ => lifted os started H enc)

theorem proved : Rows.CodecReadsSaid := over
#print axioms proved
end Go.Proofs.Ytdooolafndpppaa.CodecReads
