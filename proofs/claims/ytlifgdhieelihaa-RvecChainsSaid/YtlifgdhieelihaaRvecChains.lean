/- The law RvecChains holds at every input: the order of three loads is a chain. No condition. -/
import Derived.Test.YtlifgdhieelihaaLaw
import Derived.Test.YtlifgdhieelihaaOwnL
import Derived.Test.YtlifgdhieelihaaOrdC
import Derived.Test.YtlifgdhieelihaaChain
import Derived.Test.YtlifgdhieelihaaOpenV
import Derived.OpenShut
import Derived.ChangeOld
import Derived.ChangeSame
import Derived.JoinedOf
import Derived.JoinedAt
import Derived.RowKit3
import Derived.Lib.SmallJoins
namespace Go.Proofs.Ytlifgdhieelihaa.RvecChains
open Go.ChangeShapes Go.WideShapes Go.ChangeAt Go.RowKit Go.Joins

theorem combos {X Y Z : Int} (hX : X = -1 ∨ X = 0 ∨ X = 1) (hY : Y = -1 ∨ Y = 0 ∨ Y = 1) (hZ : Z = -1 ∨ Z = 0 ∨ Z = 1)
    (hle : X ≤ 0 → Y ≤ 0 → Z ≤ 0 ∧ (Z < 0 ↔ X < 0 ∨ Y < 0)) (hge : 0 ≤ X → 0 ≤ Y → 0 ≤ Z ∧ (0 < Z ↔ 0 < X ∨ 0 < Y)) :
    (X = 0 ∧ Y = 0 ∧ Z = 0) ∨ (X = -1 ∧ Y = 0 ∧ Z = -1) ∨ (X = 0 ∧ Y = -1 ∧ Z = -1) ∨ (X = -1 ∧ Y = -1 ∧ Z = -1) ∨ (X = 1 ∧ Y = 0 ∧ Z = 1) ∨ (X = 0 ∧ Y = 1 ∧ Z = 1) ∨ (X = 1 ∧ Y = 1 ∧ Z = 1) ∨ (X = -1 ∧ Y = 1) ∨ (X = 1 ∧ Y = -1) := by
  rcases hX with rfl | rfl | rfl <;> rcases hY with rfl | rfl | rfl <;> rcases hZ with rfl | rfl | rfl <;> revert hle hge <;> decide

theorem cmpI_one (x y : Int) : cmpI x y = -1 ∨ cmpI x y = 0 ∨ cmpI x y = 1 := by unfold cmpI; split <;> (try split) <;> simp

theorem load_pos {a b p q : Int} (ha : Bd a) (hb : Bd b) : 0 < ldA a b p q ∨ 0 < ldN a b p q := by
  have h := (ldA_bd (p := p) (q := q) ha hb).1
  rcases Int.lt_or_eq_of_le h with h | h
  · exact .inl h
  · refine .inr ?_
    unfold ldN nrm
    rw [if_pos h.symm]
    decide

/-- An array of twelve numbers in own memory. -/
def Arr (W : World) (S : Nat) (g : Nat → Int) : Prop := S < W.heap.size ∧ ∀ j, j < 12 → W.cell? ⟨S, j, none⟩ = some (.int .i64 (g j)) ∧ W.frozen? ⟨S, j, none⟩ = false
theorem Arr.ext {W W' : World} {S : Nat} {g : Nat → Int} (h : Arr W S g) (k : Ext W W') : Arr W' S g :=
  ⟨Nat.lt_of_lt_of_le h.1 k.size, fun j hj => ⟨(World.cell?_of_block (k.block S h.1)).trans (h.2 j hj).1, by
    have := (h.2 j hj).2
    unfold World.frozen? at this ⊢
    rw [k.block S h.1]
    exact this⟩⟩

theorem cells12 (l : List Int) (j : Nat) (h : j < l.length) : ((l.map (Value.int .i64)).toArray)[j]? = some (.int .i64 (l.getD j 0)) := by simp [h]
theorem arr_new (W : World) (l : List Int) (h : l.length = 12) (t : TypeId) : Arr (W.alloc (.cells (l.map (Value.int .i64)).toArray t)) W.heap.size (fun j => l.getD j 0) :=
  ⟨by simp, fun j hj => ⟨(cell_of_row _ _ j _ _ (0, 0) (heap_alloc_new W _)).trans (cells12 l j (by omega)), by
    have h := heap_alloc_new W (.cells (l.map (Value.int .i64)).toArray t)
    unfold World.frozen?
    rw [h]
    show (decide (0 ≤ j) && decide (j < 0)) = false
    simp⟩⟩

theorem three (u : Nat → Int) (h : ∀ j, Bd (u j)) (ok : ∀ i j, okV (u i) (u j) = true) {X Y Z : Int} (hX : orderF (u 0) (u 1) (u 2) (u 3) (u 4) (u 5) (u 6) (u 7) = X)
    (hY : orderF (u 4) (u 5) (u 6) (u 7) (u 8) (u 9) (u 10) (u 11) = Y) (hZ : orderF (u 0) (u 1) (u 2) (u 3) (u 8) (u 9) (u 10) (u 11) = Z) :
    (X = 0 ∧ Y = 0 ∧ Z = 0) ∨ (X = -1 ∧ Y = 0 ∧ Z = -1) ∨ (X = 0 ∧ Y = -1 ∧ Z = -1) ∨ (X = -1 ∧ Y = -1 ∧ Z = -1) ∨ (X = 1 ∧ Y = 0 ∧ Z = 1) ∨ (X = 0 ∧ Y = 1 ∧ Z = 1) ∨ (X = 1 ∧ Y = 1 ∧ Z = 1) ∨ (X = -1 ∧ Y = 1) ∨ (X = 1 ∧ Y = -1) := by
  subst hX hY hZ
  unfold orderF
  simp only [ok, if_true]
  unfold ordV
  have A (i j p q : Nat) := (ldA_bd (p := u p) (q := u q) (h i) (h j)).1
  have M (i j p q : Nat) := (ldN_bd (a := u i) (b := u j) (h p) (h q)).1
  have L (i j p q : Nat) := load_pos (p := u p) (q := u q) (h i) (h j)
  exact combos (cmpI_one _ _) (cmpI_one _ _) (cmpI_one _ _) (fun hx hy => chain_le (A 0 1 2 3) (M 0 1 2 3) (A 4 5 6 7) (M 4 5 6 7) (A 8 9 10 11) (M 8 9 10 11) (L 0 1 2 3) (L 4 5 6 7) (L 8 9 10 11) hx hy)
    (fun hx hy => chain_ge (A 0 1 2 3) (M 0 1 2 3) (A 4 5 6 7) (M 4 5 6 7) (A 8 9 10 11) (M 8 9 10 11) (L 0 1 2 3) (L 4 5 6 7) (L 8 9 10 11) hx hy)

theorem frozen_set (W : World) (p q : Addr) (v : Value) : (W.setCell p v).frozen? q = W.frozen? q := by simp
theorem Arr.set {W : World} {S : Nat} {g : Nat → Int} (h : Arr W S g) (i : Nat) (x : Int) (hi : i < 12) : Arr (W.setCell ⟨S, i, none⟩ (.int .i64 x)) S (fun j => if j = i then x else g j) := by
  refine ⟨by simpa using h.1, fun j hj => ⟨?_, by rw [frozen_set]; exact (h.2 j hj).2⟩⟩
  by_cases e : j = i
  · subst e
    simp only [if_true]
    exact World.cell?_setCell_same W _ _ (h.2 j hj).1
  · simp only [e, if_false]
    exact (World.cell?_setCell_other W _ _ _ (by simp <;> omega)).trans (h.2 j hj).1

set_option maxRecDepth 20000 in
set_option maxHeartbeats 4000000 in
theorem walk (w : World) (v0 : Value) (n : Nat) (f : Nat → Int) (r0 : RdV w v0 n f) (how : Int) (_ : (Lit.int .i64 how).wf = true) :
    Calls Try.prog 4 #[v0, .int .i64 how] w fun e w' => e = .returned (.bool true) ∧ Below w.heap.size w w' := by
  obtain ⟨A, c, rfl, hc1, hm1, hcu⟩ := r0
  unfold maxLen at hm1
  have HC := Lib.hid hcu
  clear hcu
  by_cases h6 : (n : Int) < 6
  · go_enter Try.func4, Try.ntmps4
    go_wp2_with fail
    refine (known_any _).mono ?_
    rintro e w1 ⟨rfl, hx1⟩
    go_wp2
    go_ret
    exact ⟨rfl, hx1⟩
  · obtain ⟨a, rfl, hab, hcell⟩ := HC.out (by omega)
    obtain ⟨ab, ao, sp⟩ := a
    have hsp : sp = none := by
      cases sp with
      | none => rfl
      | some x =>
        have h := (hcell 0 (by omega)).1
        simp [Addr.add, World.cell?] at h
        split at h <;> simp at h
    subst hsp
    have hadd : ∀ q, Addr.add ⟨ab, ao, none⟩ q = ⟨ab, ao + q, none⟩ := by
      intro q
      unfold Addr.add
      split
      · next h => subst h; rfl
      · rfl
    simp only [hadd] at hcell
    have HC := Lib.hid (show ∀ i, i < n → w.cell? ⟨ab, ao + i * 2, none⟩ = some (.int .i64 (f (i * 2))) ∧ w.cell? ⟨ab, ao + (i * 2 + 1), none⟩ = some (.int .i64 (f (i * 2 + 1))) from hcell)
    clear hcell
    go_enter Try.func4, Try.ntmps4
    go_wp2_with fail
    refine (known_any _).mono ?_
    rintro e w1 ⟨rfl, hx1⟩
    go_wp2
    have hx2 : Ext w (w1.alloc (.cells #[.int .i64 0, .int .i64 0, .int .i64 0, .int .i64 0, .int .i64 0, .int .i64 0, .int .i64 0, .int .i64 0, .int .i64 0, .int .i64 0, .int .i64 0, .int .i64 0] 36)) := (show Ext w w1 from hx1).trans ((Below.refl _ _).alloc (Nat.le_refl _) _)
    have ha2 := arr_new w1 [0, 0, 0, 0, 0, 0, 0, 0, 0, 0, 0, 0] rfl 36
    generalize (fun j => ([0, 0, 0, 0, 0, 0, 0, 0, 0, 0, 0, 0] : List Int).getD j 0) = z at ha2
    simp only [List.map_cons, List.map_nil] at ha2
    generalize w1.alloc (.cells #[.int .i64 0, .int .i64 0, .int .i64 0, .int .i64 0, .int .i64 0, .int .i64 0, .int .i64 0, .int .i64 0, .int .i64 0, .int .i64 0, .int .i64 0, .int .i64 0] 36) = w2 at *
    have hS := hx1.size
    generalize w1.heap.size = S at *
    have hx2 := Lib.hid hx2
    have ha2 := Lib.hid ha2
    clear hx1
    go_loopw [6] (fun i wr => ∃ k : Nat, k ≤ 6 ∧ i = .int .i64 k ∧ ∃ g : Nat → Int, Arr wr S g ∧ (∀ j, j < k * 2 → g j = vp how (f j)) ∧ Ext w wr) (fun i _ => 6 - (intOf i).toNat)
    case atStart => exact ⟨0, Nat.zero_le _, rfl, z, ha2.out, fun j hj => absurd hj (by omega), hx2.out⟩
    case round =>
      obtain ⟨k, hk, rfl, g, hA, hg, hE⟩ := hrel
      clear hx2 ha2
      have HA := Lib.hid hA
      have HE := Lib.hid hE
      have HG := Lib.hid hg
      clear hA hE hg
      by_cases hlt : k < 6
      · have hcc := HC.out k (by omega)
        have hkeep : ∀ q, wr.cell? ⟨ab, ao + q, none⟩ = w.cell? ⟨ab, ao + q, none⟩ := fun q => World.cell?_of_block (HE.out.block _ hab)
        rw [← hkeep, ← hkeep] at hcc
        obtain ⟨d0, d1⟩ := hcc
        clear hkeep
        obtain ⟨m, hm⟩ : ∃ m, f (k * 2) = m := ⟨_, rfl⟩
        obtain ⟨d, hd⟩ : ∃ d, f (k * 2 + 1) = d := ⟨_, rfl⟩
        rw [hm] at d0
        rw [hd] at d1
        have d2 : wr.cell? ⟨ab, ao + k * 2 + 1, none⟩ = some (.int .i64 d) := by rw [Nat.add_assoc]; exact d1
        have hm := Lib.hid hm
        have hd := Lib.hid hd
        have i0 : (0 : Int) ≤ (k : Int) := by omega
        have i1 : (k : Int) < (n : Int) := by omega
        have i2 : (k : Int) < 6 := by omega
        go_wp2_with fail
        refine (vec_any _ _ _ _).mono ?_
        rintro e w3 ⟨rfl, hb⟩
        have hA3 := HA.out.ext hb
        obtain ⟨s0, f0⟩ := hA3.2 (k * 2) (by omega)
        obtain ⟨s1, f1⟩ := hA3.2 (k * 2 + 1) (by omega)
        have HA3 := Lib.hid hA3
        have HE3 := Lib.hid (HE.out.trans hb)
        clear hA3 hb
        go_wp2
        go_roundw
        case rel =>
          refine ⟨k + 1, by omega, by go_num, _, (HA3.out.set (k * 2) _ (by omega)).set (k * 2 + 1) _ (by omega), fun j hj => ?_, (HE3.out.setCell hS _).setCell hS _⟩
          by_cases e1 : j = k * 2 + 1
          · subst e1; simp only [if_true]; rw [hd.out]
          · by_cases e0 : j = k * 2
            · subst e0; rw [if_neg e1]; simp only [if_true]; rw [hm.out]
            · rw [if_neg e1, if_neg e0]; exact HG.out j (by omega)
        case measure => simp [intOf]; omega
      · obtain rfl : k = 6 := by omega
        have HF : Hid (∀ wk : World, Ext wr wk → wk.cell? ⟨S, 0, none⟩ = some (.int .i64 (vp how (f 0))) ∧ wk.cell? ⟨S, 1, none⟩ = some (.int .i64 (vp how (f 1))) ∧ wk.cell? ⟨S, 2, none⟩ = some (.int .i64 (vp how (f 2))) ∧ wk.cell? ⟨S, 3, none⟩ = some (.int .i64 (vp how (f 3))) ∧ wk.cell? ⟨S, 4, none⟩ = some (.int .i64 (vp how (f 4))) ∧ wk.cell? ⟨S, 5, none⟩ = some (.int .i64 (vp how (f 5))) ∧ wk.cell? ⟨S, 6, none⟩ = some (.int .i64 (vp how (f 6))) ∧ wk.cell? ⟨S, 7, none⟩ = some (.int .i64 (vp how (f 7))) ∧ wk.cell? ⟨S, 8, none⟩ = some (.int .i64 (vp how (f 8))) ∧ wk.cell? ⟨S, 9, none⟩ = some (.int .i64 (vp how (f 9))) ∧ wk.cell? ⟨S, 10, none⟩ = some (.int .i64 (vp how (f 10))) ∧ wk.cell? ⟨S, 11, none⟩ = some (.int .i64 (vp how (f 11)))) := Lib.hid (fun wk hb => by
          have hA := (HA.out.ext hb).2
          refine ⟨?_, ?_, ?_, ?_, ?_, ?_, ?_, ?_, ?_, ?_, ?_, ?_⟩ <;> (refine (hA _ (by omega)).1.trans ?_; rw [HG.out _ (by omega)]))
        have Hb : ∀ j, Bd (vp how (f j)) := fun j => vp_bd how (f j)
        have Ho : ∀ i j, okV (vp how (f i)) (vp how (f j)) = true := fun i j => okV_vp how _ _
        have hu : ∃ u : Nat → Int, ∀ j, vp how (f j) = u j := ⟨_, fun _ => rfl⟩
        obtain ⟨u, hu⟩ := hu
        simp only [hu] at HF Hb Ho
        clear HG HA
        have Q1 := Lib.hid (fun w => Order_any (u 0) (u 1) (u 2) (u 3) (u 4) (u 5) (u 6) (u 7) w)
        have Q2 := Lib.hid (fun w => Order_any (u 4) (u 5) (u 6) (u 7) (u 8) (u 9) (u 10) (u 11) w)
        have Q3 := Lib.hid (fun w => Order_any (u 0) (u 1) (u 2) (u 3) (u 8) (u 9) (u 10) (u 11) w)
        have CB := Lib.hid (three u Hb Ho rfl rfl rfl)
        generalize orderF (u 0) (u 1) (u 2) (u 3) (u 4) (u 5) (u 6) (u 7) = X at *
        generalize orderF (u 4) (u 5) (u 6) (u 7) (u 8) (u 9) (u 10) (u 11) = Y at *
        generalize orderF (u 0) (u 1) (u 2) (u 3) (u 8) (u 9) (u 10) (u 11) = Z at *
        clear Hb Ho hu hlt
        go_upto_region 10 with fail
        refine wp_region_lex 27 (by kernel_rfl) (by kernel_rfl) (fun _ _ _ _ _ h => h) ?_
        simp only [List.take_succ_cons, List.take_zero, List.drop_succ_cons, List.drop_zero]
        repeat first | (refine seq_take ?_ (by rfl) (fun wk hb => ?_) ?_; rotate_left; (obtain ⟨c0, c1, c2, c3, c4, c5, c6, c7, c8, c9, c10, c11⟩ := HF.out wk hb; go_simp; first | exact OkX.val | ((with_reducible refine OkX.eqv (OkX.call (Q1.out _)) ?_); exact rfl) | ((with_reducible refine OkX.eqv (OkX.call (Q2.out _)) ?_); exact rfl) | ((with_reducible refine OkX.eqv (OkX.call (Q3.out _)) ?_); exact rfl)); simp only [Act.put, List.setIfInBounds_toArray, List.set_cons_zero, List.set_cons_succ]) | (refine seq_skip (by rfl) ?_; simp only [Act.put, List.setIfInBounds_toArray, List.set_cons_zero, List.set_cons_succ])
        refine seq_nil (fun w4 hb => ?_)
        have HE4 := Lib.hid (HE.out.trans hb)
        clear hb HF Q1 Q2 Q3
        rcases CB.out with ⟨rfl, rfl, rfl⟩ | ⟨rfl, rfl, rfl⟩ | ⟨rfl, rfl, rfl⟩ | ⟨rfl, rfl, rfl⟩ | ⟨rfl, rfl, rfl⟩ | ⟨rfl, rfl, rfl⟩ | ⟨rfl, rfl, rfl⟩ | ⟨rfl, rfl⟩ | ⟨rfl, rfl⟩
        all_goals clear CB
        all_goals go_wp2
        all_goals go_ret
        all_goals exact ⟨rfl, HE4.out⟩

theorem own : ownKnob Try.prog.godebug = none := by kernel_rfl
theorem laidOut : laidOutB Try.prog = true := by kernel_rfl
set_option maxRecDepth 100000 in
theorem lifted (os : Os) (started : os.Started) (H : Type) (enc : TypeId × Value → H) :
    ReturnsInHanded {} Try.checked os 4 .any (Rows.rvecChainsSpec.pre6 enc Try.prog Try.f4 Rows.rvecChainsRow.domain false) (Rows.rvecChainsSpec.post enc Try.prog Try.f4 false true false false) := by
  refine returnsInHanded_of_change (C := Try.checked) own started (by kernel_rfl) Try.func4
    (ChangeSpec.witness6 (enc := enc) (C := Try.checked) false ⟨#[], #[.slice none 0 0, .int .i64 0], []⟩ 8 (by kernel_rfl) (by kernel_rfl) (by kernel_rfl) (by kernel_rfl)) ?_
  intro W base args ds gs before hval0 hW hcnd _
  have hval : ∀ (j : Nat) t v, Try.f4.params[j]? = some t → args[j]? = some v → Value.okWide Try.prog W .any base t v := hval0
  have hW' := hW
  obtain ⟨p, q, hA0, hV, rfl, hfz, hnd⟩ := hW
  have hA : DataW.TrodAll enc Try.prog W 0 (fun _ => true) true Try.f4.params.toList args.toList ds p := hA0
  rw [Try.params4] at hA hval
  obtain ⟨v0, vs0, d0, ds0, p0, q0, hargs, rfl, rfl, h0, r0⟩ := trodAll_cons hA
  obtain ⟨v1, vs1, d1, ds1, p1, q1, rfl, rfl, rfl, h1, r1⟩ := trodAll_cons r0
  obtain ⟨rfl, rfl, rfl⟩ := trodAll_nil r1
  obtain rfl : args = #[v0, v1] := by cases args; simp_all
  obtain ⟨rfl, rfl⟩ := trodVars_none hV
  have hlt0 : ∀ x ∈ p0, x.block < W.heap.size := fun x hx => by simpa using hW'.lt x (by simp [hx])
  obtain ⟨n0, f0, rd0⟩ := open_vecs Try.underlying35 Try.underlying23 (by kernel_rfl) rfl rfl rfl rfl Try.underlying3 (by kernel_rfl) (hval 0 35 v0 rfl rfl) h0
  obtain ⟨a1, rfl, rfl, rfl, w1⟩ := open_int Try.underlying3 (hval 1 3 v1 rfl rfl) h1
  clear hA0 hval0
  refine (walk W v0 n0 f0 rd0 a1 w1).mono fun e W' ⟨he, bel⟩ => ?_
  subst he
  exact ⟨_, rfl, _, _, _, [], _, [], hW', trodAll_mk1 (shut_bool Try.underlying4 _), (trodAll_cons_mk (Below.trod laidOut (by kernel_rfl) (of_decide_eq_true (by kernel_rfl)) h0 bel hlt0) (trodAll_cons_mk (shut_int Try.underlying3 w1) trodAll_mk0)), rfl, bel.frame _, fun h => by cases h⟩

theorem over : Rows.rvecChainsRow.holds Try.pinned (OpenSpec.ofChange Rows.rvecChainsSpec) :=
  OpenClaim.holds_of_wide 4 Try.f4 rfl rfl rfl rfl rfl rfl rfl ⟨rfl, rfl, rfl, rfl, rfl⟩ rfl rfl rfl rfl rfl (by kernel_rfl) Try.func4 (by kernel_rfl)
    (of_decide_eq_true (by kernel_rfl)) (by unfold Func.isWrapper; first | (rw [if_pos (by decide +kernel)]; kernel_rfl) | (rw [if_neg (by decide +kernel)]; exact ⟨rfl, rfl⟩))
    (fun os started H enc _ => lifted os started H enc)

theorem proved : Rows.RvecChainsSaid := over
#print axioms proved

end Go.Proofs.Ytlifgdhieelihaa.RvecChains
