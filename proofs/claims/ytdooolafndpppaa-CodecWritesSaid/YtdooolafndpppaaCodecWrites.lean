/- The law CodecWrites holds at every input: any number, text, list, behind any bytes, is written as the document says. No condition. -/
import Derived.Test.YtdooolafndpppaaRefW
import Derived.Test.YtdooolafndpppaaKnown
import Derived.Test.YtdooolafndpppaaWith
import Derived.Test.YtdooolafndpppaaOpen
import Derived.Test.YtdooolafndpppaaSched
import Derived.JoinedOf
import Derived.JoinedAt
import Derived.RowKit3
import Derived.Lib.SmallJoins
namespace Go.Proofs.Ytdooolafndpppaa.CodecWrites
open Go.ChangeShapes Go.WideShapes Go.ChangeAt Go.RowKit Go.Joins

/-- What may come: v's own row beyond its n elements, and what is new. -/
def LL (v : Value) (n : Nat) (w w' : World) : Prop := w.grownBy w' v.ownBlock ∧ Fronts w w' v n
theorem ext_alloc (w : World) (o : Obj) : Ext w (w.alloc o) := (Below.refl _ _).alloc (Nat.le_refl _) o
theorem LL_way (v : Value) (n : Nat) : Way (LL v n) := ⟨fun h => ⟨grown_of_ext h _, Fronts.ext h v n⟩, fun h k => ⟨World.grownBy.trans h.1 k.1, Fronts.trans h.2 (.inl rfl) (Nat.le_refl _) k.2⟩⟩

theorem conv_own {w' : World} {v : Value} {m b : Nat} {xs : List Value} (ho : w'.ownsRow b 5 1 v m xs) (l : List UInt8) (hl : xs = bvs l) (S : ByteArray) (hS : S = ⟨l.toArray⟩) : (convert 22 9 v).run Try.prog w' = .ok (.string S) w' := by
  subst hl hS
  exact (Rd.of_own ho).str
theorem conv_made {wk w3 w' : World} {va v : Value} {n n' m b0 : Nat} {xs : List Value} {l : List UInt8} (hva : wk.ownsRow b0 5 1 va n xs) (ho : w3.ownsRow wk.heap.size 5 1 v m (bvs l)) (S : ByteArray) (hS : S = ⟨l.toArray⟩) (k : LL va n' w3 w') :
    (convert 22 9 v).run Try.prog w' = .ok (.string S) w' := by
  subst hS
  refine ((Rd.of_own ho).grown k.1 (fun g hg hv => ?_)).str
  have h1 := (hva.lt g hg).2
  have h2 := (ho.lt g hv).1
  omega
theorem far {w wk : World} {a : Addr} {A : Option Addr} {b c b' c' n : Nat} {xs ys : List Value} {va : Value} (h3 : Rd w (.slice A b' c') xs) (hn : 0 < xs.length) (h : Value.slice A b' c' = .slice (some a) b c) (hO : wk.ownsRow w.heap.size 5 1 va n ys) : va.ownBlock ≠ some a.block := by
  intro hv
  obtain ⟨A', c1, h1, _, _, hc⟩ := h3
  obtain ⟨a', rfl, hb, _⟩ := hc hn
  injection h with e1 _ _
  injection h1 with e2 _ _
  subst e2
  injection e1 with e1
  subst e1
  have := (hO.lt _ hv).1
  omega

set_option maxHeartbeats 2000000 in
theorem walk (w : World) (v0 : Value) (B : List UInt8) (r0 : Rd w v0 (bvs B)) (n : Int) (_ : (Lit.int .i64 n).wf = true) (s : ByteArray) (hs : s.size ≤ maxLen) (v3 : Value) (l : List Int) (r3 : Rd w v3 (l.map (Value.int .i64))) (_ : ∀ z ∈ l, (Lit.int .i64 z).wf = true) :
    Calls Try.prog 3 #[v0, .int .i64 n, .string s, v3] w fun e w' => e = .returned (.bool true) ∧ Below w.heap.size w w' := by
  obtain ⟨i0, hi, hz0, hz1, hz2⟩ := info_parts Try.infoU8
  have R0 := Lib.hid r0
  have R3 := Lib.hid (show Rd w v3 (ivs l) from r3)
  obtain ⟨A0, c0, rfl, _, _⟩ := r0.len
  obtain ⟨A3, c3, rfl, _, _⟩ := r3.len
  rw [bvs_length] at *
  rw [List.length_map] at *
  clear r0 r3
  by_cases h1 : (300 : Int) < B.length
  · go_enter Try.func3, Try.ntmps3
    go_wp2_with fail
    refine (known_any _).mono ?_
    rintro e w1 ⟨rfl, hx1⟩
    go_wp2
    go_ret
    exact ⟨rfl, hx1⟩
  · by_cases h2 : (500 : Int) < s.size
    · go_enter Try.func3, Try.ntmps3
      go_wp2_with fail
      refine (known_any _).mono ?_
      rintro e w1 ⟨rfl, hx1⟩
      go_wp2
      go_ret
      exact ⟨rfl, hx1⟩
    · by_cases h3 : (100 : Int) < l.length
      · go_enter Try.func3, Try.ntmps3
        go_wp2_with fail
        refine (known_any _).mono ?_
        rintro e w1 ⟨rfl, hx1⟩
        go_wp2
        go_ret
        exact ⟨rfl, hx1⟩
      · go_enter Try.func3, Try.ntmps3
        go_wp2_with fail
        refine (known_any _).mono ?_
        rintro e w1 ⟨rfl, hx1⟩
        have hsz1 := hx1.size
        have hr0 := Lib.hid ((R0.out.ext (hx1.trans (ext_alloc w1 (.cells #[] 5)))).src bvs_one Try.underlying22)
        have ho0 := Lib.hid (World.ownsRow_made (w := w1) (base := w.heap.size) (e := 5) (size := 1) #[] 0 hsz1 (by simp [maxLen]) rfl)
        go_wp2_with (at_builtin; refine wpList_app_src _ rfl (.tmp 25) (.tmp 26) 22 22 rfl w.heap.size 5 i0 (.int .u8 0) 1 Try.underlying22 hi hz0 hz1 hz2 rfl _ 0 [] rfl ho0.out _ (bvs B).length (bvs B) rfl hr0.out ?c3 ?c4 ?c5 ?_)
        case c3 => rw [bvs_length]; simp [maxLen]; omega
        case c4 => rw [bvs_length]; omega
        case c5 => simp; omega
        intro va w2 hown hgrow hat hfr
        have hown := Lib.hid hown
        have hE := Lib.hid ((hx1.trans (ext_alloc w1 (.cells #[] 5))).trans' (grown_below hgrow (by simp; omega) (fun k hk => by simp [Value.ownBlock] at hk; omega)))
        clear hgrow hat hfr ho0 hr0
        go_wp2
        refine wp_region_sched (LL va B.length) (LL_way va B.length) [(0, true), (1, true), (4, true), (5, true), (2, false), (3, true), (6, false), (7, false), (8, true), (9, true), (10, true), (11, true), (14, true), (15, true), (12, false), (13, true), (16, false), (17, false), (18, true), (19, true), (20, true), (21, true), (22, true), (25, true), (26, true), (23, false), (24, true), (27, false), (28, false), (29, true), (30, true), (31, true)] (by kernel_rfl) (by kernel_rfl) (fun _ _ _ _ _ h => h) ?_
        repeat first | ((with_reducible refine sched_free ?_ ?_ ?_ ?_ (fun wk k1 => ?_) ?_); rotate_left 2; (rfl); (first | exact want_none rfl | exact want_some rfl rfl rfl rfl); (go_simp; first | exact OkX.val); simp only [Act.put, List.setIfInBounds_toArray, List.set_cons_zero, List.set_cons_succ]) | ((with_reducible refine sched_skip ?_ ?_ ?_ ?_); rotate_left; (rfl); (exact want_not rfl rfl rfl rfl rfl); simp only [Act.put, List.setIfInBounds_toArray, List.set_cons_zero, List.set_cons_succ])
        ((with_reducible refine sched_step ?_ ?_ ?_ (fun wk k1 => ?_)); rotate_left; (rfl); (first | exact want_none rfl | exact want_some rfl rfl rfl rfl))
        have hEk := hE.out.trans (((Ext.drew _).trans k1))
        have hOk := own_Ext hown.out (((Ext.drew _).trans k1))
        go_simp
        refine (Int_any _ B n _ (R0.out.ext hEk) (by omega)).mono ?_
        rintro e w3 ⟨vm, rfl, hom, hxm⟩
        refine ⟨(LL_way va B.length).ext hxm, ?_⟩
        obtain ⟨S, hS⟩ : ∃ S : ByteArray, S = ⟨(B ++ eInt n).toArray⟩ := ⟨_, rfl⟩
        have hcv : ∀ w', LL va B.length w3 w' → (convert 22 9 vm).run Try.prog w' = .ok (.string S) w' := fun w' k => conv_made hOk hom S hS k
        have hE := Lib.hid (hEk.trans hxm)
        have hown := Lib.hid (own_Ext hOk hxm)
        have hS := Lib.hid hS
        clear hEk hOk hom hxm k1
        repeat first | ((with_reducible refine sched_free ?_ ?_ ?_ ?_ (fun wk k1 => ?_) ?_); rotate_left 2; (rfl); (first | exact want_none rfl | exact want_some rfl rfl rfl rfl); (go_simp; first | exact OkX.val | (rw [hcv _ k1]; exact OkX.val)); simp only [Act.put, List.setIfInBounds_toArray, List.set_cons_zero, List.set_cons_succ]) | ((with_reducible refine sched_skip ?_ ?_ ?_ ?_); rotate_left; (rfl); (exact want_not rfl rfl rfl rfl rfl); simp only [Act.put, List.setIfInBounds_toArray, List.set_cons_zero, List.set_cons_succ])
        clear hcv
        ((with_reducible refine sched_step ?_ ?_ ?_ (fun wk k1 => ?_)); rotate_left; (rfl); (first | exact want_none rfl | exact want_some rfl rfl rfl rfl))
        have hEk := hE.out.trans k1
        have hOk := own_Ext hown.out k1
        have hszk := hEk.size
        go_simp
        refine (rInt_any va n B.length w.heap.size (bvs B) _ (by rw [bvs_length] at hOk; exact hOk) (by omega) hszk).mono ?_
        rintro e w4 ⟨vr, rfl, hor, hgr, _, hfr⟩
        refine ⟨⟨hgr, hfr⟩, ?_⟩
        have hE := Lib.hid (hEk.trans' (grown_below hgr hEk.size (own_ge hOk (Nat.le_refl _))))
        have hown := Lib.hid (hfr _ _ _ _ _ hOk (fun _ => by rw [bvs_length]; exact Nat.le_refl _))
        have hor := Lib.hid hor
        clear hEk hOk hgr hfr k1 hszk
        ((with_reducible refine sched_step ?_ ?_ ?_ (fun wk k1 => ?_)); rotate_left; (rfl); (first | exact want_none rfl | exact want_some rfl rfl rfl rfl))
        have hcv := conv_own (own_Ext hor.out k1) (B ++ eInt n) (by rw [bvs_append]) S hS.out
        have hE := Lib.hid (hE.out.trans k1)
        have hown := Lib.hid (own_Ext hown.out k1)
        clear hor
        go_simp
        refine ⟨(LL_way va B.length).ext (Ext.refl _), ?_⟩
        clear hcv k1 hS
        try simp only [Act.put, List.setIfInBounds_toArray, List.set_cons_zero, List.set_cons_succ]
        repeat first | ((with_reducible refine sched_free ?_ ?_ ?_ ?_ (fun wk k1 => ?_) ?_); rotate_left 2; (rfl); (first | exact want_none rfl | exact want_some rfl rfl rfl rfl); (go_simp; first | exact OkX.val); simp only [Act.put, List.setIfInBounds_toArray, List.set_cons_zero, List.set_cons_succ]) | ((with_reducible refine sched_skip ?_ ?_ ?_ ?_); rotate_left; (rfl); (exact want_not rfl rfl rfl rfl rfl); simp only [Act.put, List.setIfInBounds_toArray, List.set_cons_zero, List.set_cons_succ])
        ((with_reducible refine sched_step ?_ ?_ ?_ (fun wk k1 => ?_)); rotate_left; (rfl); (first | exact want_none rfl | exact want_some rfl rfl rfl rfl))
        have hEk := hE.out.trans k1
        have hOk := own_Ext hown.out k1
        go_simp
        refine (Text_short _ B s _ (R0.out.ext hEk) (by omega) (by omega)).mono ?_
        rintro e w3 ⟨vm, rfl, hom, hxm⟩
        refine ⟨(LL_way va B.length).ext hxm, ?_⟩
        obtain ⟨S, hS⟩ : ∃ S : ByteArray, S = ⟨(B ++ be s.size 2 ++ s.data.toList).toArray⟩ := ⟨_, rfl⟩
        have hcv : ∀ w', LL va B.length w3 w' → (convert 22 9 vm).run Try.prog w' = .ok (.string S) w' := fun w' k => conv_made hOk hom S hS k
        have hE := Lib.hid (hEk.trans hxm)
        have hown := Lib.hid (own_Ext hOk hxm)
        have hS := Lib.hid hS
        clear hEk hOk hom hxm k1
        repeat first | ((with_reducible refine sched_free ?_ ?_ ?_ ?_ (fun wk k1 => ?_) ?_); rotate_left 2; (rfl); (first | exact want_none rfl | exact want_some rfl rfl rfl rfl); (go_simp; first | exact OkX.val | (rw [hcv _ k1]; exact OkX.val)); simp only [Act.put, List.setIfInBounds_toArray, List.set_cons_zero, List.set_cons_succ]) | ((with_reducible refine sched_skip ?_ ?_ ?_ ?_); rotate_left; (rfl); (exact want_not rfl rfl rfl rfl rfl); simp only [Act.put, List.setIfInBounds_toArray, List.set_cons_zero, List.set_cons_succ])
        clear hcv
        ((with_reducible refine sched_step ?_ ?_ ?_ (fun wk k1 => ?_)); rotate_left; (rfl); (first | exact want_none rfl | exact want_some rfl rfl rfl rfl))
        have hEk := hE.out.trans k1
        have hOk := own_Ext hown.out k1
        have hszk := hEk.size
        go_simp
        refine (rText_any va s B.length w.heap.size (bvs B) _ (by rw [bvs_length] at hOk; exact hOk) (by omega) hszk (by omega)).mono ?_
        rintro e w4 ⟨vr, rfl, hor, hgr, _, hfr⟩
        refine ⟨⟨hgr, hfr⟩, ?_⟩
        have hE := Lib.hid (hEk.trans' (grown_below hgr hEk.size (own_ge hOk (Nat.le_refl _))))
        have hown := Lib.hid (hfr _ _ _ _ _ hOk (fun _ => by rw [bvs_length]; exact Nat.le_refl _))
        have hor := Lib.hid hor
        clear hEk hOk hgr hfr k1 hszk
        ((with_reducible refine sched_step ?_ ?_ ?_ (fun wk k1 => ?_)); rotate_left; (rfl); (first | exact want_none rfl | exact want_some rfl rfl rfl rfl))
        have hcv := conv_own (own_Ext hor.out k1) (B ++ be s.size 2 ++ s.data.toList) (by rw [bvs_append, bvs_append, List.append_assoc]) S hS.out
        have hE := Lib.hid (hE.out.trans k1)
        have hown := Lib.hid (own_Ext hown.out k1)
        clear hor
        go_simp
        refine ⟨(LL_way va B.length).ext (Ext.refl _), ?_⟩
        clear hcv k1 hS
        try simp only [Act.put, List.setIfInBounds_toArray, List.set_cons_zero, List.set_cons_succ]
        repeat first | ((with_reducible refine sched_free ?_ ?_ ?_ ?_ (fun wk k1 => ?_) ?_); rotate_left 2; (rfl); (first | exact want_none rfl | exact want_some rfl rfl rfl rfl); (go_simp; first | exact OkX.val); simp only [Act.put, List.setIfInBounds_toArray, List.set_cons_zero, List.set_cons_succ]) | ((with_reducible refine sched_skip ?_ ?_ ?_ ?_); rotate_left; (rfl); (exact want_not rfl rfl rfl rfl rfl); simp only [Act.put, List.setIfInBounds_toArray, List.set_cons_zero, List.set_cons_succ])
        ((with_reducible refine sched_step ?_ ?_ ?_ (fun wk k1 => ?_)); rotate_left; (rfl); (first | exact want_none rfl | exact want_some rfl rfl rfl rfl))
        have hEk := hE.out.trans k1
        have hOk := own_Ext hown.out k1
        go_simp
        refine (Ints_short _ _ B l _ (R0.out.ext hEk) (R3.out.ext hEk) (by omega) (by omega)).mono ?_
        rintro e w3 ⟨vm, rfl, hom, hxm⟩
        refine ⟨(LL_way va B.length).ext hxm, ?_⟩
        obtain ⟨S, hS⟩ : ∃ S : ByteArray, S = ⟨(B ++ be l.length 2 ++ eNums l).toArray⟩ := ⟨_, rfl⟩
        have hcv : ∀ w', LL va B.length w3 w' → (convert 22 9 vm).run Try.prog w' = .ok (.string S) w' := fun w' k => conv_made hOk hom S hS k
        have hE := Lib.hid (hEk.trans hxm)
        have hown := Lib.hid (own_Ext hOk hxm)
        have hS := Lib.hid hS
        clear hEk hOk hom hxm k1
        repeat first | ((with_reducible refine sched_free ?_ ?_ ?_ ?_ (fun wk k1 => ?_) ?_); rotate_left 2; (rfl); (first | exact want_none rfl | exact want_some rfl rfl rfl rfl); (go_simp; first | exact OkX.val | (rw [hcv _ k1]; exact OkX.val)); simp only [Act.put, List.setIfInBounds_toArray, List.set_cons_zero, List.set_cons_succ]) | ((with_reducible refine sched_skip ?_ ?_ ?_ ?_); rotate_left; (rfl); (exact want_not rfl rfl rfl rfl rfl); simp only [Act.put, List.setIfInBounds_toArray, List.set_cons_zero, List.set_cons_succ])
        clear hcv
        ((with_reducible refine sched_step ?_ ?_ ?_ (fun wk k1 => ?_)); rotate_left; (rfl); (first | exact want_none rfl | exact want_some rfl rfl rfl rfl))
        have hEk := hE.out.trans k1
        have hOk := own_Ext hown.out k1
        have hszk := hEk.size
        go_simp
        refine (rInts_any va _ l B.length w.heap.size (bvs B) _ (by rw [bvs_length] at hOk; exact hOk) (R3.out.ext hEk) (fun hn a b c h => far R3.out (by simpa [ivs] using hn) h hOk) (by omega) hszk (by omega)).mono ?_
        rintro e w4 ⟨vr, rfl, hor, hgr, _, hfr⟩
        refine ⟨⟨hgr, hfr⟩, ?_⟩
        have hE := Lib.hid (hEk.trans' (grown_below hgr hEk.size (own_ge hOk (Nat.le_refl _))))
        have hown := Lib.hid (hfr _ _ _ _ _ hOk (fun _ => by rw [bvs_length]; exact Nat.le_refl _))
        have hor := Lib.hid hor
        clear hEk hOk hgr hfr k1 hszk
        ((with_reducible refine sched_step ?_ ?_ ?_ (fun wk k1 => ?_)); rotate_left; (rfl); (first | exact want_none rfl | exact want_some rfl rfl rfl rfl))
        have hcv := conv_own (own_Ext hor.out k1) (B ++ be l.length 2 ++ eNums l) (by rw [bvs_append, bvs_append, List.append_assoc]) S hS.out
        have hE := Lib.hid (hE.out.trans k1)
        have hown := Lib.hid (own_Ext hown.out k1)
        clear hor
        go_simp
        refine ⟨(LL_way va B.length).ext (Ext.refl _), ?_⟩
        clear hcv k1 hS
        try simp only [Act.put, List.setIfInBounds_toArray, List.set_cons_zero, List.set_cons_succ]
        repeat first | ((with_reducible refine sched_free ?_ ?_ ?_ ?_ (fun wk k1 => ?_) ?_); rotate_left 2; (rfl); (first | exact want_none rfl | exact want_some rfl rfl rfl rfl); (go_simp; first | exact OkX.val); simp only [Act.put, List.setIfInBounds_toArray, List.set_cons_zero, List.set_cons_succ]) | ((with_reducible refine sched_skip ?_ ?_ ?_ ?_); rotate_left; (rfl); (exact want_not rfl rfl rfl rfl rfl); simp only [Act.put, List.setIfInBounds_toArray, List.set_cons_zero, List.set_cons_succ])
        refine sched_done (fun wk k1 => ?_)
        have hE := Lib.hid (hE.out.trans k1)
        go_wp2
        go_ret
        exact ⟨rfl, hE.out⟩

theorem own : ownKnob Try.prog.godebug = none := by kernel_rfl
theorem laidOut : laidOutB Try.prog = true := by kernel_rfl
set_option maxRecDepth 100000 in
theorem lifted (os : Os) (started : os.Started) (H : Type) (enc : TypeId × Value → H) :
    ReturnsInHanded {} Try.checked os 3 .any (Rows.codecWritesSpec.pre6 enc Try.prog Try.f3 Rows.codecWritesRow.domain false) (Rows.codecWritesSpec.post enc Try.prog Try.f3 false true false false) := by
  refine returnsInHanded_of_change (C := Try.checked) own started (by kernel_rfl) Try.func3
    (ChangeSpec.witness6 (enc := enc) (C := Try.checked) false ⟨#[], #[.slice none 0 0, .int .i64 0, .string ⟨#[]⟩, .slice none 0 0], []⟩ 8 (by kernel_rfl) (by kernel_rfl) (by kernel_rfl) (by kernel_rfl)) ?_
  intro W base args ds gs before hval0 hW hcnd _
  have hval : ∀ (j : Nat) t v, Try.f3.params[j]? = some t → args[j]? = some v → Value.okWide Try.prog W .any base t v := hval0
  have hW' := hW
  obtain ⟨p, q, hA0, hV, rfl, hfz, hnd⟩ := hW
  have hA : DataW.TrodAll enc Try.prog W 0 (fun _ => true) true Try.f3.params.toList args.toList ds p := hA0
  rw [Try.params3] at hA hval
  obtain ⟨v0, vs0, d0, ds0, p0, q0, hargs, rfl, rfl, h0, r0⟩ := trodAll_cons hA
  obtain ⟨v1, vs1, d1, ds1, p1, q1, rfl, rfl, rfl, h1, r1⟩ := trodAll_cons r0
  obtain ⟨v2, vs2, d2, ds2, p2, q2, rfl, rfl, rfl, h2, r2⟩ := trodAll_cons r1
  obtain ⟨v3, vs3, d3, ds3, p3, q3, rfl, rfl, rfl, h3, r3⟩ := trodAll_cons r2
  obtain ⟨rfl, rfl, rfl⟩ := trodAll_nil r3
  obtain rfl : args = #[v0, v1, v2, v3] := by cases args; simp_all
  obtain ⟨rfl, rfl⟩ := trodVars_none hV
  have hlt0 : ∀ x ∈ p0, x.block < W.heap.size := fun x hx => by simpa using hW'.lt x (by simp [hx])
  obtain ⟨l0, rd0⟩ := open_bytes Try.underlying22 Try.underlying5 (by kernel_rfl) (hval 0 22 v0 rfl rfl) h0
  obtain ⟨a1, rfl, rfl, rfl, w1⟩ := open_int Try.underlying3 (hval 1 3 v1 rfl rfl) h1
  obtain ⟨a2, rfl, rfl, rfl, w2⟩ := ChangeMaps.open_string Try.underlying9 (hval 2 9 v2 rfl rfl) h2
  have hlt3 : ∀ x ∈ p3, x.block < W.heap.size := fun x hx => by simpa using hW'.lt x (by simp [hx])
  obtain ⟨l3, rd3, wf3⟩ := open_rd Try.underlying23 Try.underlying3 (by kernel_rfl) (hval 3 23 v3 rfl rfl) h3
  clear hA0 hval0
  refine (walk W v0 l0 rd0 a1 w1 a2 w2 v3 l3 rd3 wf3).mono fun e W' ⟨he, bel⟩ => ?_
  subst he
  exact ⟨_, rfl, _, _, _, [], _, [], hW', trodAll_mk1 (shut_bool Try.underlying4 _), (trodAll_cons_mk (Below.trod laidOut (by kernel_rfl) (of_decide_eq_true (by kernel_rfl)) h0 bel hlt0) (trodAll_cons_mk (shut_int Try.underlying3 w1) (trodAll_cons_mk (ChangeMaps.shut_string Try.underlying9 w2) (trodAll_cons_mk (Below.trod laidOut (by kernel_rfl) (of_decide_eq_true (by kernel_rfl)) h3 bel hlt3) trodAll_mk0)))), rfl, bel.frame _, fun h => by cases h⟩

theorem over : Rows.codecWritesRow.holds Try.pinned (OpenSpec.ofChange Rows.codecWritesSpec) :=
  OpenClaim.holds_of_wide 3 Try.f3 rfl rfl rfl rfl rfl rfl rfl ⟨rfl, rfl, rfl, rfl, rfl⟩ rfl rfl rfl rfl rfl (by kernel_rfl) Try.func3 (by kernel_rfl)
    (of_decide_eq_true (by kernel_rfl)) (by unfold Func.isWrapper; first | (rw [if_pos (by decide +kernel)]; kernel_rfl) | (rw [if_neg (by decide +kernel)]; exact ⟨rfl, rfl⟩))
    (fun os started H enc _ => lifted os started H enc)

theorem proved : Rows.CodecWritesSaid := over
#print axioms proved
end Go.Proofs.Ytdooolafndpppaa.CodecWrites
