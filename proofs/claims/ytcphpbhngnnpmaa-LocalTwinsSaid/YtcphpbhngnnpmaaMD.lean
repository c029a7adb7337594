/- Texts Vw, DR13, DPlocal, DL13, VR13, VPlocal, VL13, OpenS, PmP, Op13, P13, in one. -/
import Derived.Test.YtcphpbhngnnpmaaMC
import Derived.Test.YtcphpbhngnnpmaaChecked
import Derived.KernelRfl
import Derived.Deep.Strs
import Derived.ChangeSame
import Derived.OpenShut
/- The typed executor: the whole code; contracts. -/
namespace Go.Proofs.Ytcphpbhngnnpmaa
open Go.RowKit

variable {C : Cx} {fn : Func}
theorem exec_ok (hT : TabOk C.P C.T) (hm : C.P.follows .mixedOrders = true) (hv : fn.results.toList = C.vars) : ∀ (c : Code) (h : Hint), Does C fn c (wrC c) (exec C c h)
  | .skip, h => fun ρ s p k kr res hpr hs hx => pwp_skip ⟨s, hs, .refl _ _, hx⟩
  | .label l, h => fun ρ s p k kr res hpr hs hx => pwp_label ⟨s, hs, .refl _ _, hx⟩
  | .exit id, h => fun ρ s p k kr res hpr hs hx => pwp_exit ⟨s, hs, .refl _ _, hx⟩
  | .ret, h => fun ρ s p k kr res hpr hs hx => by
    obtain ⟨r, h1, h2⟩ := bindS (show Option.bind (kretX C s) kr = some res from hx)
    obtain ⟨q, h3, h4⟩ := kret_ok hv (simW_cut hs) h1
    exact pwp_le (le_cut hs) (pwp_ret ⟨r, q, h3, h4, h2⟩)
  | .region id ops draw, h => withJ_ok (regX_ok hT hm id ops draw)
  | .seq a b, h => by
    refine withJ_ok (c := .seq a b) (wr := wrC a ++ wrC b) fun ρ s p k kr res hpr hs hx => ?_
    refine pwp_seq (pwp_conseq (exec_ok hT hm hv a h.l ρ s p _ _ res hpr hs hx) fun e p' hq => ⟨p', .refl _, ?_⟩)
    by_cases he : e = .ret
    · subst he; exact hq
    · obtain ⟨s', m1, m2, m3⟩ := postE_e he hq
      have hk : Keep C.sc (wrC a ++ wrC b) s s' := m2.wide fun i hi => memN_of hi
      cases e with
      | normal =>
        refine pwp_conseq (exec_ok hT hm hv b h.r ρ s' p' k kr res (hk.prOk hpr) m1 m3) fun e p2 hq2 => ⟨p2, .refl _, ?_⟩
        exact postE_wide (fun i hi => memN_of' hi) hk hq2
      | ret => exact absurd rfl he
      | _ => exact ⟨s', m1, hk, m3⟩
  | .cond x a b, h => by
    have hwA : ∀ i, memN (wrC a) i = true → memN (wrC (.cond x a b)) i = true := fun i hi => by
      cases x <;> simp only [wrC, memN_cons, memN_app, hi, Bool.true_or, Bool.or_true]
    have hwB : ∀ i, memN (wrC b) i = true → memN (wrC (.cond x a b)) i = true := fun i hi => by
      cases x <;> simp only [wrC, memN_cons, memN_app, hi, Bool.or_true]
    have hwx : ∀ i, x = .tmp i → memN (wrC (.cond x a b)) i = true := fun i hi => by
      subst hi; simp only [wrC, memN_cons, decide_true, Bool.true_or]
    refine withJ_ok (c := .cond x a b) (wr := wrC (.cond x a b)) fun ρ s p k kr res hpr hs hx => ?_
    have hx : (match evX s x with | .d (.bool t) => if t = true then exec C a h.l ρ (known s x true) k kr else exec C b h.r ρ (known s x false) k kr | _ => none) = some res := hx
    split at hx
    · rename_i t ht
      have hq := evX_simW hs x
      rw [ht] at hq
      have hb := vs_bool hq
      cases t
      · rw [if_neg (by simp)] at hx
        refine pwp_cond false (by rw [hb]; rfl) ?_
        rw [if_neg (by simp)]
        exact pwp_conseq (exec_ok hT hm hv b h.r ρ _ p k kr res (known_prOk hpr) (simW_known hs ht) hx) fun e p' hq => ⟨p', .refl _, postE_wide hwB (keep_known hwx) hq⟩
      · rw [if_pos rfl] at hx
        refine pwp_cond true (by rw [hb]; rfl) ?_
        rw [if_pos rfl]
        exact pwp_conseq (exec_ok hT hm hv a h.l ρ _ p k kr res (known_prOk hpr) (simW_known hs ht) hx) fun e p' hq => ⟨p', .refl _, postE_wide hwA (keep_known hwx) hq⟩
    · cases hx
  | .block id c, h => by
    refine withJ_ok (c := .block id c) (wr := wrC c) fun ρ s p k kr res hpr hs hx => ?_
    refine pwp_block (pwp_conseq (exec_ok hT hm hv c h.l ρ s p _ _ res hpr hs hx) fun e p' hq => ⟨p', .refl _, ?_⟩)
    by_cases he : e = .ret
    · subst he; exact hq
    · obtain ⟨s', m1, m2, m3⟩ := postE_e he hq
      cases e with
      | exit id' =>
        have m3 : (match Nat.beq id' id with | true => k .normal s' | false => k (.exit id') s') = some res := m3
        simp only [inBlockP]
        rw [beq_spec] at m3
        by_cases hid : id' = id
        · rw [if_pos hid]
          simp only [hid, decide_true] at m3
          exact ⟨s', m1, m2, m3⟩
        · rw [if_neg hid]
          simp only [hid, decide_false] at m3
          exact ⟨s', m1, m2, m3⟩
      | ret => exact absurd rfl he
      | _ => exact ⟨s', m1, m2, m3⟩
  | .loop c, h => fun ρ s p k kr res hpr hs hx => by
    cases h with
    | lp ms id ret hb =>
      unfold exec at hx
      cases he : enterM (wrC c) ms (clr s) with
      | none => rw [he] at hx; cases hx
      | some s0 =>
        rw [he] at hx
        obtain ⟨hchk, hx⟩ := chk_some hx
        refine pwp_le (le_cut hs) ?_
        unfold enterM at he
        split at he
        · rename_i s1 hnil
          obtain ⟨p2, k1, k2, k3, k4⟩ := nilM_ok (sc := C.sc) (s := clr s) rfl (prOk_clr hpr) (simW_cut hs) hnil
          refine pwp_le k1 ?_
          have hk1 : Keep C.sc (wrC c) s s1 := keep_clr k3
          obtain ⟨p3, n1, n2, n3⟩ := frzAll_ok (sc := C.sc) (hk1.prOk hpr) k2.w he
          refine pwp_le n1 ?_
          have hk0 : Keep C.sc (wrC c) s s0 := hk1.trans (n3 _)
          have hchk' : modChk C.sc (wrC c) ms s0.pr s0 = true := by rw [hk0.pr]; exact hchk
          cases hpk : packM s0 ms with
          | none => rw [hpk] at hx; cases hx
          | some st0 =>
            rw [hpk] at hx
            cases ret with
            | false =>
              obtain ⟨out, h1, h2⟩ := bindS hx
              refine loop_ok (C := C) (fn := fn) (c := c) (ms := ms) (id := id) (τ := modsT ms) (inr := fun st => st) (ret := fun _ => none) (body := exec C c hb) (exec_ok hT hm hv c hb) rfl n2 hchk' hpk h1 ?_ ?_ ?_
              · intro st hst
                subst hst
                split at h2
                · rename_i s2 hs2; exact ⟨s2, hs2⟩
                · cases h2
              · intro st s2 p' hst hs2 m1 m2
                subst hst
                rw [hs2] at h2
                exact ⟨⟨s2.sl, s2.bx, s.pr, s.ro, s.oc⟩, ⟨m1.sl, m1.bx⟩, keep_outer hk0 (pr_sub hpr hk0 hchk) m2, h2⟩
              · intro r q p' hr; cases hr
            | true =>
              obtain ⟨out, h1, h2⟩ := bindS hx
              refine loop_ok (C := C) (fn := fn) (c := c) (ms := ms) (id := id) (τ := modsT ms ⊕ densR C.rs) (inr := .inl) (ret := fun r => some (.inr r)) (body := exec C c hb) (exec_ok hT hm hv c hb) rfl n2 hchk' hpk h1 ?_ ?_ ?_
              · intro st hst
                subst hst
                have h2 : (match putMs ms st (baseS C.sc (wrC c) ms s0) with | some s2 => k (.exit id) ⟨s2.sl, s2.bx, s.pr, s.ro, s.oc⟩ | none => none) = some res := h2
                split at h2
                · rename_i s2 hs2; exact ⟨s2, hs2⟩
                · cases h2
              · intro st s2 p' hst hs2 m1 m2
                subst hst
                have h2 : (match putMs ms st (baseS C.sc (wrC c) ms s0) with | some s2 => k (.exit id) ⟨s2.sl, s2.bx, s.pr, s.ro, s.oc⟩ | none => none) = some res := h2
                rw [hs2] at h2
                exact ⟨⟨s2.sl, s2.bx, s.pr, s.ro, s.oc⟩, ⟨m1.sl, m1.bx⟩, keep_outer hk0 (pr_sub hpr hk0 hchk) m2, h2⟩
              · intro r q p' hr h3 h4
                injection hr with hr
                subst hr
                exact ⟨r, q, h3, h4, h2⟩
        · cases he
    | _ => cases hx
  | .rangeFunc .., h => fun ρ s p k kr res hpr hs hx => by cases hx
  | .scope .., h => fun ρ s p k kr res hpr hs hx => by cases hx
  | .goto .., h => fun ρ s p k kr res hpr hs hx => by cases hx
  | .refuse .., h => fun ρ s p k kr res hpr hs hx => by cases hx
theorem argX_lk : ∀ (vs : List SV) (i j : Nat), lkV (argX i vs) (i + j) = (vs[j]?).getD .junk
  | [], i, j => by simp [argX, lkV]
  | v :: vs, i, 0 => by simp [argX, lkV_cons]
  | v :: vs, i, j + 1 => by
    simp only [argX, lkV_cons]
    rw [if_neg (by omega), show i + (j + 1) = i + 1 + j by omega, argX_lk vs (i + 1) j]
    simp
theorem toPVs_len : ∀ (ps : List PT) (x : dens ps), (toPVs ps x).length = ps.length
  | [], _ => rfl
  | p :: ps, x => by simp [toPVs, toPVs_len ps]
/-- **A function's contract.** -/
theorem ctr_of {P : Program} {T : List (Nat × Ent)} {n : Nat} {ps rs : List PT} {vars : List ResultVar} {fz : List (Nat × List Nat)} {sc : List Nat} {h : Hint} {f : FuncId} {fn : Func} {c : Code} (hT : TabOk P T) (hm : P.follows .mixedOrders = true) (hf : P.funcs[f]? = some fn) (hb : fn.body = some c) (hcb : callable P f = true) (hn : fn.ntmps = n) (hv : fn.results.toList = vars) (hl : (decide (ps.length ≤ n) && ptsOk ps) = true)
    {F : dens ps → Option (densR rs)} (hF : ∀ x, runF ⟨P, T, n, rs, vars, fz, sc⟩ c h ps x = F x) : CtrOk P f ps rs F := by
  intro x r hx
  rw [← hF] at hx
  rw [Bool.and_eq_true] at hl
  have hlen := of_decide_eq_true hl.1
  subst hn
  refine pc_intro hf hb hcb (by rw [toPVs_len]; exact hlen) ?_
  have hargs := encAs_sim (B := []) ps x hl.2
  have hs : SimW ⟨argX 0 (encAs ps x), [], [], false, []⟩ ⟨argsT (toPVs ps x), bNone⟩ := by
    refine ⟨fun i => ?_, fun t b hb => by cases hb⟩
    show VSim [] (lkV (argX 0 (encAs ps x)) i) (argsT (toPVs ps x) i)
    have := argX_lk (encAs ps x) 0 i
    rw [Nat.zero_add] at this
    rw [this]
    unfold argsT
    cases h1 : (encAs ps x)[i]? with
    | none => exact .junk _
    | some v =>
      have hlt : i < (toPVs ps x).length := by rw [← hargs.len]; exact (List.getElem?_eq_some_iff.1 h1).1
      rw [List.getElem?_eq_getElem hlt]
      exact hargs.rep i v _ h1 (List.getElem?_eq_getElem hlt)
  have hpr : PrOk ⟨argX 0 (encAs ps x), [], [], false, []⟩ := fun t ht => by cases ht
  refine pwp_conseq (exec_ok (C := ⟨P, T, fn.ntmps, rs, vars, fz, sc⟩) (fn := fn) hT hm hv c h _ _ _ _ _ r hpr hs hx) fun e p' hq => ?_
  by_cases he : e = .ret
  · subst he
    obtain ⟨r', q, h1, h2, h3⟩ := hq
    injection h3 with h3
    subst h3
    exact ⟨p', .refl _, trivial, q, h1, h2⟩
  · obtain ⟨s', m1, m2, m3⟩ := postE_e he hq
    cases e with
    | normal =>
      obtain ⟨q, h1, h2⟩ := kret_ok (C := ⟨P, T, fn.ntmps, rs, vars, fz, sc⟩) hv (simW_cut m1) m3
      exact ⟨cutP s' p', le_cut m1, trivial, q, h1, h2⟩
    | ret => exact absurd rfl he
    | _ => cases m3
end Go.Proofs.Ytcphpbhngnnpmaa

/- dispatchref13: as plain functions (written by gen.py). -/
namespace Go.Proofs.Ytcphpbhngnnpmaa
open Go.RowKit

def R13_Level (v_a : GAsk) (v_n : GNode) : Option (Int) :=
 Option.bind (if (!v_n.fUp) = true then some true else some (v_n.fLabel != v_a.fLabel)) fun q1 => if q1 = true then
 some 4
 else
 Option.bind (if (v_a.fRack == (-1)) = true then some true else some (v_a.fNode == v_n.fId)) fun q2 => Option.bind (if q2 = true then some true else Option.bind (if (v_a.fNode == (-1)) = true then some (v_a.fRack == v_n.fRack) else some false) fun q3 => some q3) fun q4 => if q4 = true then
 some 1
 else
 if (v_a.fRack == v_n.fRack) = true then
 some 2
 else
 some 3
def R13_May (v_a : GAsk) (v_n : GNode) : Option (Bool) :=
 Option.bind (R13_Level v_a v_n) fun c1 => if (c1 == 1) = true then
 some true
 else
 if (c1 == 2) = true then
 some (decide (v_a.fMissed ≥ 2))
 else
 if (c1 == 3) = true then
 some (decide (v_a.fMissed ≥ 4))
 else
 some false
end Go.Proofs.Ytcphpbhngnnpmaa

/- local: as plain functions (written by gen.py). -/
namespace Go.Proofs.Ytcphpbhngnnpmaa
open Go.RowKit

def P_local_Level (v_a : GAsk) (v_n : GNode) : Option (Int) :=
 Option.bind (if (!v_n.fUp) = true then some true else some (v_n.fLabel != v_a.fLabel)) fun q1 => if q1 = true then
 some 4
 else
 Option.bind (if (v_a.fRack == (-1)) = true then some true else some (v_a.fNode == v_n.fId)) fun q2 => Option.bind (if q2 = true then some true else Option.bind (if (v_a.fNode == (-1)) = true then some (v_a.fRack == v_n.fRack) else some false) fun q3 => some q3) fun q4 => if q4 = true then
 some 1
 else
 if (v_a.fRack == v_n.fRack) = true then
 some 2
 else
 some 3
def P_local_May (v_a : GAsk) (v_n : GNode) : Option (Bool) :=
 Option.bind (P_local_Level v_a v_n) fun c1 => if (c1 == 3) = true then
 if (decide (v_a.fMissed < 4)) = true then
 some false
 else
 if (decide (v_a.fMissed < 2)) = true then
 some false
 else
 some true
 else
 if (c1 == 2) = true then
 if (decide (v_a.fMissed < 2)) = true then
 some false
 else
 some true
 else
 if (c1 == 1) = true then
 some true
 else
 some false
end Go.Proofs.Ytcphpbhngnnpmaa

/- dispatchlaw13: as plain functions (written by gen.py). -/
namespace Go.Proofs.Ytcphpbhngnnpmaa
open Go.RowKit

def L13_known : Option (Bool) :=
 let v_a : GAsk := (⟨0, 0, GVec.zero, 0, 1, 0, 2⟩ : GAsk)
 let v_n : GNode := (⟨2, 0, 0, GVec.zero, 0, 0, true⟩ : GNode)
 Option.bind (P_local_Level v_a v_n) fun c1 => Option.bind (if (c1 == 2) = true then Option.bind (P_local_May v_a v_n) fun c2 => some c2 else some false) fun q3 => Option.bind (if q3 = true then Option.bind (P_local_May (⟨0, 0, GVec.zero, 0, 1, 0, 1⟩ : GAsk) v_n) fun c4 => some (!c4) else some false) fun q5 => some q5
def L13_within (v_at : Int) (v_n : Int) : Option (Int) :=
 Option.bind (remO v_at v_n) fun b1 => let v_k : Int := b1
 Option.bind (if (decide (v_k < 0)) = true then
 let v_k : Int := (IntKind.i64.wrap (v_k + v_n))
 some v_k
 else
 some v_k) fun j2 => let v_k := j2
 some v_k
def L13_near (v_a : GAsk) (v_n : GNode) : Option (GAsk × GNode) :=
 Option.bind (L13_within v_a.fLabel 2) fun c1 => Option.bind (L13_within v_a.fNode 4) fun c2 => Option.bind (L13_within v_a.fRack 4) fun c3 => Option.bind (L13_within v_a.fMissed 7) fun c4 => let t5 : Int := c1
 let t6 : Int := (IntKind.i64.wrap (c2 - 1))
 let t7 : Int := (IntKind.i64.wrap (c3 - 1))
 let t8 : Int := c4
 let v_a : GAsk := { v_a with fLabel := t5 }
 let v_a : GAsk := { v_a with fNode := t6 }
 let v_a : GAsk := { v_a with fRack := t7 }
 let v_a : GAsk := { v_a with fMissed := t8 }
 Option.bind (L13_within v_n.fLabel 2) fun c9 => Option.bind (L13_within v_n.fId 3) fun c10 => Option.bind (L13_within v_n.fRack 3) fun c11 => let t12 : Int := c9
 let t13 : Int := c10
 let t14 : Int := c11
 let v_n : GNode := { v_n with fLabel := t12 }
 let v_n : GNode := { v_n with fId := t13 }
 let v_n : GNode := { v_n with fRack := t14 }
 some (v_a, v_n)
def L13_LocalOrder (v_a : GAsk) (v_n : GNode) (v_m : GNode) : Option (Bool) :=
 Option.bind (L13_known) fun c1 => if (!c1) = true then
 some false
 else
 Option.bind (L13_near v_a v_n) fun c2 => let v_a : GAsk := c2.1
 let v_n : GNode := c2.2
 Option.bind (L13_near v_a v_m) fun c3 => let v_m : GNode := c3.2
 Option.bind (P_local_Level v_a v_n) fun c4 => Option.bind (P_local_Level v_a v_m) fun c5 => let t6 : Int := c4
 let t7 : Int := c5
 let v_x : Int := t6
 let v_y : Int := t7
 Option.bind (if (decide (v_x ≥ 1)) = true then some (decide (v_x ≤ 4)) else some false) fun q8 => Option.bind (if q8 = true then Option.bind (if (decide (v_x > v_y)) = true then some true else Option.bind (P_local_May v_a v_m) fun c9 => some (!c9)) fun q10 => Option.bind (if q10 = true then some true else Option.bind (P_local_May v_a v_n) fun c11 => some c11) fun q12 => some q12 else some false) fun q13 => some q13
def L13_LocalTwins (v_a : GAsk) (v_n : GNode) (v_b : GAsk) (v_m : GNode) : Option (Bool) :=
 Option.bind (L13_known) fun c1 => if (!c1) = true then
 some false
 else
 Option.bind (L13_near v_a v_n) fun c2 => let v_a : GAsk := c2.1
 let v_n : GNode := c2.2
 let t3 : Int := v_a.fLabel
 let t4 : Int := v_a.fNode
 let t5 : Int := v_a.fRack
 let t6 : Int := v_a.fMissed
 let v_b : GAsk := { v_b with fLabel := t3 }
 let v_b : GAsk := { v_b with fNode := t4 }
 let v_b : GAsk := { v_b with fRack := t5 }
 let v_b : GAsk := { v_b with fMissed := t6 }
 let t7 : Int := v_n.fId
 let t8 : Int := v_n.fLabel
 let t9 : Int := v_n.fRack
 let t10 : Bool := v_n.fUp
 let v_m : GNode := { v_m with fId := t7 }
 let v_m : GNode := { v_m with fLabel := t8 }
 let v_m : GNode := { v_m with fRack := t9 }
 let v_m : GNode := { v_m with fUp := t10 }
 Option.bind (P_local_Level v_a v_n) fun c11 => Option.bind (P_local_Level v_b v_m) fun c12 => Option.bind (if (c11 == c12) = true then Option.bind (P_local_May v_a v_n) fun c13 => Option.bind (P_local_May v_b v_m) fun c14 => some (c13 == c14) else some false) fun q15 => some q15
def L13_LocalAsks (v_a : GAsk) (v_n : GNode) : Option (Bool) :=
 Option.bind (L13_known) fun c1 => if (!c1) = true then
 some false
 else
 Option.bind (P_local_Level v_a v_n) fun c2 => Option.bind (R13_Level v_a v_n) fun c3 => Option.bind (if (c2 != c3) = true then some true else Option.bind (P_local_May v_a v_n) fun c4 => Option.bind (R13_May v_a v_n) fun c5 => some (!(c4 == c5))) fun q6 => if q6 = true then
 some false
 else
 Option.bind (L13_near v_a v_n) fun c7 => let v_a : GAsk := c7.1
 let v_n : GNode := c7.2
 Option.bind (P_local_Level v_a v_n) fun c8 => Option.bind (R13_Level v_a v_n) fun c9 => Option.bind (if (c8 == c9) = true then Option.bind (P_local_May v_a v_n) fun c10 => Option.bind (R13_May v_a v_n) fun c11 => some (c10 == c11) else some false) fun q12 => some q12
def L13_LocalWaits_loop1 (v_n : GNode) (st : GAsk × Bool × Int) : Option ((GAsk × Bool × Int) ⊕ ((GAsk × Bool × Int) ⊕ (Bool))) :=
 let v_a := st.1
 let v_may := st.2.1
 let v_k := st.2.2
 if (decide (v_k < 6)) = true then
 let v_a : GAsk := { v_a with fMissed := (IntKind.i64.wrap (v_a.fMissed + 1)) }
 Option.bind (if v_may = true then Option.bind (P_local_May v_a v_n) fun c4 => some (!c4) else some false) fun q5 => if q5 = true then
 some (.inr (.inr false))
 else
 Option.bind (P_local_May v_a v_n) fun c6 => let v_may : Bool := c6
 let v_k : Int := (IntKind.i64.wrap (v_k + 1))
 some (.inl (v_a, v_may, v_k))
 else
 some (.inr (.inl (v_a, v_may, v_k)))
def L13_LocalWaits (v_a : GAsk) (v_n : GNode) : Option (Bool) :=
 Option.bind (L13_known) fun c1 => if (!c1) = true then
 some false
 else
 Option.bind (L13_near v_a v_n) fun c2 => let v_a : GAsk := c2.1
 let v_n : GNode := c2.2
 Option.bind (P_local_May v_a v_n) fun c3 => let v_may : Bool := c3
 let v_k : Int := 0
 Option.bind (loopO (L13_LocalWaits_loop1 v_n) rounds (v_a, v_may, v_k)) fun r7 => match r7 with
 | .inr m8 => some m8
 | .inl m8 =>
 let v_a := m8.1
 let v_may := m8.2.1
 let v_k := m8.2.2
 Option.bind (if v_n.fUp = true then some (v_n.fLabel == v_a.fLabel) else some false) fun q9 => Option.bind (if (v_may == q9) = true then Option.bind (P_local_Level v_a v_n) fun c10 => some (v_may == (c10 != 4)) else some false) fun q11 => some q11
def L13_LocalNear (v_a : GAsk) (v_n : GNode) (v_which : Int) : Option (Bool) :=
 Option.bind (L13_known) fun c1 => if (!c1) = true then
 some false
 else
 Option.bind (L13_near v_a v_n) fun c2 => let v_a : GAsk := c2.1
 let v_n : GNode := c2.2
 let t3 : Bool := true
 let t4 : Int := v_a.fLabel
 let t5 : Int := 0
 let v_n : GNode := { v_n with fUp := t3 }
 let v_n : GNode := { v_n with fLabel := t4 }
 let v_a : GAsk := { v_a with fMissed := t5 }
 Option.bind (L13_within v_which 4) fun c6 => if (c6 == 0) = true then
 let t7 : Int := (-1)
 let t8 : Int := (-1)
 let v_a : GAsk := { v_a with fNode := t7 }
 let v_a : GAsk := { v_a with fRack := t8 }
 Option.bind (P_local_Level v_a v_n) fun c9 => Option.bind (if (c9 == 1) = true then Option.bind (P_local_May v_a v_n) fun c10 => some c10 else some false) fun q11 => some q11
 else
 if (c6 == 1) = true then
 let t12 : Int := (-1)
 let t13 : Int := v_n.fRack
 let v_a : GAsk := { v_a with fNode := t12 }
 let v_a : GAsk := { v_a with fRack := t13 }
 Option.bind (P_local_Level v_a v_n) fun c14 => Option.bind (if (c14 == 1) = true then Option.bind (P_local_May v_a v_n) fun c15 => some c15 else some false) fun q16 => some q16
 else
 if (c6 == 2) = true then
 let t17 : Int := (IntKind.i64.wrap (v_n.fId + 1))
 let t18 : Int := v_n.fRack
 let v_a : GAsk := { v_a with fNode := t17 }
 let v_a : GAsk := { v_a with fRack := t18 }
 Option.bind (P_local_Level v_a v_n) fun c19 => Option.bind (if (c19 == 2) = true then Option.bind (P_local_May v_a v_n) fun c20 => some (!c20) else some false) fun q21 => some q21
 else
 let t22 : Int := (IntKind.i64.wrap (v_n.fId + 1))
 let t23 : Int := (IntKind.i64.wrap (v_n.fRack + 1))
 let v_a : GAsk := { v_a with fNode := t22 }
 let v_a : GAsk := { v_a with fRack := t23 }
 Option.bind (P_local_Level v_a v_n) fun c24 => Option.bind (if (c24 == 3) = true then Option.bind (P_local_May v_a v_n) fun c25 => some (!c25) else some false) fun q26 => some q26
end Go.Proofs.Ytcphpbhngnnpmaa

/- dispatchref13: the code is the plain functions (written by hint.py). -/
namespace Go.Proofs.Ytcphpbhngnnpmaa
open Go.RowKit
set_option maxRecDepth 100000
def R13_Level_e : Ent := ⟨[.ag 1, .ag 2], [.lf (.int .i64)], fun x => R13_Level x.1 x.2.1⟩
theorem R13_Level_x (x : dens [.ag 1, .ag 2]) : runF ⟨Try.prog, [], 45, [.lf (.int .i64)], [.tmp 4], [], []⟩ ((Try.f10).body.getD .skip) (.n) [.ag 1, .ag 2] x = R13_Level x.1 x.2.1 := by kernel_rfl
theorem R13_Level_k : CtrOk Try.prog 10 [.ag 1, .ag 2] [.lf (.int .i64)] (fun x => R13_Level x.1 x.2.1) := ctr_of (n := 45) (.nil) Try.mixed Try.func10 rfl (by kernel_rfl) rfl rfl rfl (R13_Level_x)

def R13_May_e : Ent := ⟨[.ag 1, .ag 2], [.lf (.bool)], fun x => R13_May x.1 x.2.1⟩
theorem R13_May_x (x : dens [.ag 1, .ag 2]) : runF ⟨Try.prog, [(10, R13_Level_e)], 20, [.lf (.bool)], [.tmp 4], [], []⟩ ((Try.f12).body.getD .skip) (.n) [.ag 1, .ag 2] x = R13_May x.1 x.2.1 := by kernel_rfl
theorem R13_May_k : CtrOk Try.prog 12 [.ag 1, .ag 2] [.lf (.bool)] (fun x => R13_May x.1 x.2.1) := ctr_of (n := 20) (.cons (R13_Level_k) (.nil)) Try.mixed Try.func12 rfl (by kernel_rfl) rfl rfl rfl (R13_May_x)
end Go.Proofs.Ytcphpbhngnnpmaa

/- local: the code is the plain functions (written by hint.py). -/
namespace Go.Proofs.Ytcphpbhngnnpmaa
open Go.RowKit
set_option maxRecDepth 100000
def P_local_Level_e : Ent := ⟨[.ag 1, .ag 2], [.lf (.int .i64)], fun x => P_local_Level x.1 x.2.1⟩
theorem P_local_Level_x (x : dens [.ag 1, .ag 2]) : runF ⟨Try.prog, [], 45, [.lf (.int .i64)], [.tmp 4], [], []⟩ ((Try.f9).body.getD .skip) (.n) [.ag 1, .ag 2] x = P_local_Level x.1 x.2.1 := by kernel_rfl
theorem P_local_Level_k : CtrOk Try.prog 9 [.ag 1, .ag 2] [.lf (.int .i64)] (fun x => P_local_Level x.1 x.2.1) := ctr_of (n := 45) (.nil) Try.mixed Try.func9 rfl (by kernel_rfl) rfl rfl rfl (P_local_Level_x)

def P_local_May_e : Ent := ⟨[.ag 1, .ag 2], [.lf (.bool)], fun x => P_local_May x.1 x.2.1⟩
theorem P_local_May_x (x : dens [.ag 1, .ag 2]) : runF ⟨Try.prog, [(9, P_local_Level_e)], 20, [.lf (.bool)], [.tmp 4], [], []⟩ ((Try.f11).body.getD .skip) (.n) [.ag 1, .ag 2] x = P_local_May x.1 x.2.1 := by kernel_rfl
theorem P_local_May_k : CtrOk Try.prog 11 [.ag 1, .ag 2] [.lf (.bool)] (fun x => P_local_May x.1 x.2.1) := ctr_of (n := 20) (.cons (P_local_Level_k) (.nil)) Try.mixed Try.func11 rfl (by kernel_rfl) rfl rfl rfl (P_local_May_x)
end Go.Proofs.Ytcphpbhngnnpmaa

/- dispatchlaw13: the code is the plain functions (written by hint.py). -/
namespace Go.Proofs.Ytcphpbhngnnpmaa
open Go.RowKit
set_option maxRecDepth 100000
def L13_known_e : Ent := ⟨[], [.lf (.bool)], fun x => L13_known ⟩
theorem L13_known_x (x : dens []) : runF ⟨Try.prog, [(9, P_local_Level_e), (11, P_local_May_e)], 20, [.lf (.bool)], [.tmp 0], [], []⟩ ((Try.f8).body.getD .skip) (.n) [] x = L13_known  := by kernel_rfl
theorem L13_known_k : CtrOk Try.prog 8 [] [.lf (.bool)] (fun x => L13_known ) := ctr_of (n := 20) (.cons (P_local_Level_k) (.cons (P_local_May_k) (.nil))) Try.mixed Try.func8 rfl (by kernel_rfl) rfl rfl rfl (L13_known_x)

def L13_within_e : Ent := ⟨[.lf (.int .i64), .lf (.int .i64)], [.lf (.int .i64)], fun x => L13_within x.1 x.2.1⟩
theorem L13_within_x (x : dens [.lf (.int .i64), .lf (.int .i64)]) : runF ⟨Try.prog, [], 15, [.lf (.int .i64)], [.tmp 4], [], []⟩ ((Try.f14).body.getD .skip) (.s (.n) (.s (.n) (.s (.s (.n) (.j [.leaf 5 (.int .i64)] (.n))) (.n)))) [.lf (.int .i64), .lf (.int .i64)] x = L13_within x.1 x.2.1 := by kernel_rfl
theorem L13_within_k : CtrOk Try.prog 14 [.lf (.int .i64), .lf (.int .i64)] [.lf (.int .i64)] (fun x => L13_within x.1 x.2.1) := ctr_of (n := 15) (.nil) Try.mixed Try.func14 rfl (by kernel_rfl) rfl rfl rfl (L13_within_x)

def L13_near_e : Ent := ⟨[.ag 1, .ag 2], [.ag 1, .ag 2], fun x => L13_near x.1 x.2.1⟩
theorem L13_near_x (x : dens [.ag 1, .ag 2]) : runF ⟨Try.prog, [(14, L13_within_e)], 38, [.ag 1, .ag 2], [.cell 4 25, .cell 5 27], [], [4, 5]⟩ ((Try.f13).body.getD .skip) (.n) [.ag 1, .ag 2] x = L13_near x.1 x.2.1 := by kernel_rfl
theorem L13_near_k : CtrOk Try.prog 13 [.ag 1, .ag 2] [.ag 1, .ag 2] (fun x => L13_near x.1 x.2.1) := ctr_of (n := 38) (.cons (L13_within_k) (.nil)) Try.mixed Try.func13 rfl (by kernel_rfl) rfl rfl rfl (L13_near_x)

def L13_LocalAsks_e : Ent := ⟨[.ag 1, .ag 2], [.lf (.bool)], fun x => L13_LocalAsks x.1 x.2.1⟩
theorem L13_LocalAsks_x (x : dens [.ag 1, .ag 2]) : runF ⟨Try.prog, [(8, L13_known_e), (9, P_local_Level_e), (10, R13_Level_e), (11, P_local_May_e), (12, R13_May_e), (13, L13_near_e)], 45, [.lf (.bool)], [.tmp 4], [], []⟩ ((Try.f3).body.getD .skip) (.n) [.ag 1, .ag 2] x = L13_LocalAsks x.1 x.2.1 := by kernel_rfl
theorem L13_LocalAsks_k : CtrOk Try.prog 3 [.ag 1, .ag 2] [.lf (.bool)] (fun x => L13_LocalAsks x.1 x.2.1) := ctr_of (n := 45) (.cons (L13_known_k) (.cons (P_local_Level_k) (.cons (R13_Level_k) (.cons (P_local_May_k) (.cons (R13_May_k) (.cons (L13_near_k) (.nil))))))) Try.mixed Try.func3 rfl (by kernel_rfl) rfl rfl rfl (L13_LocalAsks_x)

def L13_LocalNear_e : Ent := ⟨[.ag 1, .ag 2, .lf (.int .i64)], [.lf (.bool)], fun x => L13_LocalNear x.1 x.2.1 x.2.2.1⟩
theorem L13_LocalNear_x (x : dens [.ag 1, .ag 2, .lf (.int .i64)]) : runF ⟨Try.prog, [(8, L13_known_e), (13, L13_near_e), (14, L13_within_e), (9, P_local_Level_e), (11, P_local_May_e)], 87, [.lf (.bool)], [.tmp 6], [], []⟩ ((Try.f5).body.getD .skip) (.n) [.ag 1, .ag 2, .lf (.int .i64)] x = L13_LocalNear x.1 x.2.1 x.2.2.1 := by kernel_rfl
theorem L13_LocalNear_k : CtrOk Try.prog 5 [.ag 1, .ag 2, .lf (.int .i64)] [.lf (.bool)] (fun x => L13_LocalNear x.1 x.2.1 x.2.2.1) := ctr_of (n := 87) (.cons (L13_known_k) (.cons (L13_near_k) (.cons (L13_within_k) (.cons (P_local_Level_k) (.cons (P_local_May_k) (.nil)))))) Try.mixed Try.func5 rfl (by kernel_rfl) rfl rfl rfl (L13_LocalNear_x)

def L13_LocalOrder_e : Ent := ⟨[.ag 1, .ag 2, .ag 2], [.lf (.bool)], fun x => L13_LocalOrder x.1 x.2.1 x.2.2.1⟩
theorem L13_LocalOrder_x (x : dens [.ag 1, .ag 2, .ag 2]) : runF ⟨Try.prog, [(8, L13_known_e), (13, L13_near_e), (9, P_local_Level_e), (11, P_local_May_e)], 51, [.lf (.bool)], [.tmp 6], [], []⟩ ((Try.f6).body.getD .skip) (.n) [.ag 1, .ag 2, .ag 2] x = L13_LocalOrder x.1 x.2.1 x.2.2.1 := by kernel_rfl
theorem L13_LocalOrder_k : CtrOk Try.prog 6 [.ag 1, .ag 2, .ag 2] [.lf (.bool)] (fun x => L13_LocalOrder x.1 x.2.1 x.2.2.1) := ctr_of (n := 51) (.cons (L13_known_k) (.cons (L13_near_k) (.cons (P_local_Level_k) (.cons (P_local_May_k) (.nil))))) Try.mixed Try.func6 rfl (by kernel_rfl) rfl rfl rfl (L13_LocalOrder_x)

def L13_LocalTwins_e : Ent := ⟨[.ag 1, .ag 2, .ag 1, .ag 2], [.lf (.bool)], fun x => L13_LocalTwins x.1 x.2.1 x.2.2.1 x.2.2.2.1⟩
theorem L13_LocalTwins_x (x : dens [.ag 1, .ag 2, .ag 1, .ag 2]) : runF ⟨Try.prog, [(8, L13_known_e), (13, L13_near_e), (9, P_local_Level_e), (11, P_local_May_e)], 57, [.lf (.bool)], [.tmp 8], [], []⟩ ((Try.f7).body.getD .skip) (.n) [.ag 1, .ag 2, .ag 1, .ag 2] x = L13_LocalTwins x.1 x.2.1 x.2.2.1 x.2.2.2.1 := by kernel_rfl
theorem L13_LocalTwins_k : CtrOk Try.prog 7 [.ag 1, .ag 2, .ag 1, .ag 2] [.lf (.bool)] (fun x => L13_LocalTwins x.1 x.2.1 x.2.2.1 x.2.2.2.1) := ctr_of (n := 57) (.cons (L13_known_k) (.cons (L13_near_k) (.cons (P_local_Level_k) (.cons (P_local_May_k) (.nil))))) Try.mixed Try.func7 rfl (by kernel_rfl) rfl rfl rfl (L13_LocalTwins_x)

def L13_LocalWaits_e : Ent := ⟨[.ag 1, .ag 2], [.lf (.bool)], fun x => L13_LocalWaits x.1 x.2.1⟩
theorem L13_LocalWaits_x (x : dens [.ag 1, .ag 2]) : runF ⟨Try.prog, [(8, L13_known_e), (13, L13_near_e), (11, P_local_May_e), (9, P_local_Level_e)], 55, [.lf (.bool)], [.tmp 4], [], []⟩ ((Try.f4).body.getD .skip) (.s (.n) (.s (.n) (.s (.n) (.s (.n) (.s (.s (.n) (.s (.lp [.box 2 25 1 [], .leaf 5 (.bool), .leaf 6 (.int .i64)] 0 true (.n)) .n)) (.n)))))) [.ag 1, .ag 2] x = L13_LocalWaits x.1 x.2.1 := by kernel_rfl
theorem L13_LocalWaits_k : CtrOk Try.prog 4 [.ag 1, .ag 2] [.lf (.bool)] (fun x => L13_LocalWaits x.1 x.2.1) := ctr_of (n := 55) (.cons (L13_known_k) (.cons (L13_near_k) (.cons (P_local_May_k) (.cons (P_local_Level_k) (.nil))))) Try.mixed Try.func4 rfl (by kernel_rfl) rfl rfl rfl (L13_LocalWaits_x)
end Go.Proofs.Ytcphpbhngnnpmaa

/- A slice of structs all of whose cells are ints (structs in structs too), opened. -/
namespace Go.Proofs.Ytcphpbhngnnpmaa
open Go.ChangeShapes Go.WideShapes Go.ChangeAt Go.RowKit Go.Deep

/-- All k cells of a value of this type are ints. -/
def IntsOnly (P : Program) (t : TypeId) (k : Nat) : Prop :=
  ∀ (H : Type) (enc : TypeId × Value → H) (w : World) (base : Nat) (spare : Nat → Bool) (held : Bool) (fuel : Nat) (cs : List Value) (x : DataW H × List MemPlace), DataW.trod enc P w base spare held fuel t cs = some x →
    cs.length = k ∧ ∀ j, j < k → ∃ z, cs[j]? = some (.int .i64 z) ∧ (Lit.int .i64 z).wf = true
theorem intsOnly_int {P : Program} {t : TypeId} (ht : P.underlying t = some (.int .i64)) : IntsOnly P t 1 := by
  intro H enc w base spare held fuel cs x h
  obtain ⟨z, rfl, _, hz⟩ := DataW.trod_int ht h
  refine ⟨rfl, fun j hj => ⟨z, ?_, hz⟩⟩
  obtain rfl : j = 0 := by omega
  rfl
theorem intsOnly_struct {P : Program} {t : TypeId} {fs : Array Field} {k : Nat} (ht : P.underlying t = some (.struct fs)) (hk : P.cellsOf t = k)
    (hcov : ∀ j, j < k → ∃ (i : Nat) (f : Field) (kf : Nat), fs[i]? = some f ∧ f.offset ≤ j ∧ j < f.offset + kf ∧ P.cellsOf f.type = kf ∧ IntsOnly P f.type kf) : IntsOnly P t k := by
  intro H enc w base spare held fuel cs x h
  obtain ⟨xs, n, _, rfl, hl, hlen, hf⟩ := DataW.trod_struct ht h
  refine ⟨by rw [hl, hk], fun j hj => ?_⟩
  obtain ⟨i, f, kf, hi, h1, h2, h3, h4⟩ := hcov j hj
  have hfi := hf i f hi
  have hlt : i < xs.length := by rw [hlen]; exact (Array.getElem?_eq_some_iff.1 hi).1
  rw [List.getElem?_eq_getElem hlt, h3] at hfi
  obtain ⟨_, hz⟩ := h4 H enc w base spare held n _ _ hfi
  obtain ⟨z, hz1, hz2⟩ := hz (j - f.offset) (by omega)
  refine ⟨z, ?_, hz2⟩
  rw [List.getElem?_take_of_lt (by omega), List.getElem?_drop] at hz1
  rw [← hz1]
  congr 1
  omega

/-- Rows of structs of k ints. -/
def RdS (k : Nat) (w : World) (v : Value) (n : Nat) (f : Nat → Nat → Int) : Prop :=
  ∃ A c, v = .slice A n c ∧ n ≤ c ∧ c ≤ maxLen ∧ (0 < n → ∃ a, A = some a ∧ a.block < w.heap.size ∧ ∀ i, i < n → ∀ j, j < k → w.cell? (a.add (i * k + j)) = some (.int .i64 (f i j)))

theorem bools_open {w : World} {v : Value} {l : List Bool} (h : Rd w v (l.map Value.bool)) : ∃ A N c, v = .slice A N c ∧ N = l.length ∧ N ≤ c ∧ c ≤ 9223372036854775807 ∧
    (0 < N → ∃ a, A = some a ∧ a.block < w.heap.size ∧ ∀ k (hk : k < l.length), w.cell? (a.add k) = some (.bool l[k])) := by
  obtain ⟨A, c, rfl, h1, h2, h3⟩ := h
  rw [List.length_map] at *
  unfold maxLen at h2
  refine ⟨A, _, c, rfl, rfl, h1, by omega, fun hn => ?_⟩
  obtain ⟨a, rfl, hb, hc⟩ := h3 hn
  exact ⟨a, rfl, hb, fun k hk => hc k (Value.bool l[k]) (by simp [hk])⟩

section
variable {H : Type} {enc : TypeId × Value → H} {P : Program} {w : World} {base : Nat} {spare : Nat → Bool} {held : Bool} {r : Reach} {b0 : Nat}

theorem open_structs {t e : TypeId} {k : Nat} {v : Value} {d : DataW H} {ps : List MemPlace} (ht : P.underlying t = some (.slice e)) (hc : P.cellsOf e = k) (hk : 0 < k) (he : IntsOnly P e k)
    (hv : Value.okWide P w r b0 t v) (h : DataW.Trod enc P w base spare held t v d ps) : ∃ n f, RdS k w v n f := by
  obtain ⟨a0, len0, cap0, rfl⟩ := okWide_slice ht hv
  obtain ⟨fuel, hf⟩ := h
  simp only [Value.cells] at hf
  rcases open_slice ht hf with ⟨h0, _⟩ | ⟨a, len, cap, m, n, D, Pl, h0, hb, hl, hm, hmm, _, hx⟩
  · have h0 : a0 = none ∧ len0 = 0 ∧ cap0 = 0 := by simpa using h0
    obtain ⟨rfl, rfl, rfl⟩ := h0
    exact ⟨0, fun _ _ => 0, none, 0, rfl, Nat.le_refl _, by simp [maxLen], fun h => absurd h (by omega)⟩
  · have h0 : a0 = some a ∧ len0 = len ∧ cap0 = cap := by simpa using h0
    obtain ⟨rfl, rfl, rfl⟩ := h0
    have hlm : len0 ≤ m := by rw [hmm]; split <;> omega
    have each : ∀ i, i < m → ∃ q : Nat → Int, ∀ j, j < k → w.cell? (a.add (i * k + j)) = some (.int .i64 (q j)) := by
      intro i hi
      obtain ⟨cs', h1, h2⟩ := hx i hi
      rw [hc] at h1
      obtain ⟨_, hlen, hcell⟩ := World.cells?_some h1
      obtain ⟨_, hz⟩ := he _ _ _ _ _ _ _ _ _ h2
      refine ⟨fun j => match cs'[j]? with | some (.int _ z) => z | _ => 0, fun j hj => ?_⟩
      obtain ⟨z, hz1, _⟩ := hz j hj
      have c0 := hcell j hj
      rw [Go.Deep.add_add] at c0
      rw [c0, hz1]
      simp only [hz1]
    obtain ⟨q, hq⟩ := choose_lt each
    refine ⟨len0, q, some a, cap0, rfl, hl, hm, fun hn => ⟨a, rfl, ?_, fun i hi j hj => hq i (by omega) j hj⟩⟩
    have := World.block_lt_of_cell? w _ (hq 0 (by omega) 0 hk)
    rwa [show (a.add (0 * k + 0)).block = a.block by unfold Addr.add; split <;> rfl] at this

/-- A slice of truth values. -/
theorem open_bools {t e : TypeId} {v : Value} {d : DataW H} {ps : List MemPlace} (ht : P.underlying t = some (.slice e)) (he : P.underlying e = some .bool) (ce : P.cellsOf e = 1)
    (hv : Value.okWide P w r b0 t v) (h : DataW.Trod enc P w base spare held t v d ps) : ∃ bs : List Bool, Rd w v (bs.map Value.bool) := by
  obtain ⟨a0, len0, cap0, rfl⟩ := okWide_slice ht hv
  obtain ⟨fuel, hf⟩ := h
  simp only [Value.cells] at hf
  rcases open_slice1 ht ce hf with ⟨h0, _⟩ | ⟨a, len, cap, m, n, V, D, Pl, h0, _, hl, hm, hmm, _, hx⟩
  · have h0 : a0 = none ∧ len0 = 0 ∧ cap0 = 0 := by simpa using h0
    obtain ⟨rfl, rfl, rfl⟩ := h0
    exact ⟨[], Rd.nil w⟩
  · have h0 : a0 = some a ∧ len0 = len ∧ cap0 = cap := by simpa using h0
    obtain ⟨rfl, rfl, rfl⟩ := h0
    have hlm : len0 ≤ m := by rw [hmm]; split <;> omega
    have hV : ∀ i, i < m → w.cell? (a.add i) = some (Value.bool (match V i with | .bool b => b | _ => false)) := fun i hi => by
      obtain ⟨h1, h2⟩ := hx i hi
      obtain ⟨b, hb, _⟩ := DataW.trod_bool he h2
      simp only [List.cons.injEq, and_true] at hb
      rw [h1, hb]
    refine ⟨(List.range len0).map fun i => (match V i with | .bool b => b | _ => false), ?_⟩
    have := rd_of_fn hl hm hlm hV
    rw [List.map_map]
    exact this
end
end Go.Proofs.Ytcphpbhngnnpmaa

/- The pure machine: what comes in, opened. One opener for all plain data. -/
namespace Go.Proofs.Ytcphpbhngnnpmaa
open Go.ChangeShapes Go.WideShapes Go.ChangeAt Go.RowKit Go.Deep

instance : Inhabited D := ⟨.v (.int .i64 0)⟩
/-- The form of a cell. -/
inductive Fm where
  | int | str | bool | u8
  | sl (es : List Fm)

/-- The datum has the form. -/
inductive Shp : Fm → D → Prop
  | int (z : Int) (h : (Lit.int .i64 z).wf = true) : Shp .int (.v (.int .i64 z))
  | str (s : ByteArray) (h : s.size ≤ maxLen) : Shp .str (.v (.string s))
  | bool (b : Bool) : Shp .bool (.v (.bool b))
  | u8 (z : Int) (h : (Lit.int .u8 z).wf = true) : Shp .u8 (.v (.int .u8 z))
  | sl (ts : List Fm) (es : List (List D)) (hl : ∀ e ∈ es, e.length = ts.length) (h : ∀ (e : List D), e ∈ es → ∀ (j : Nat) (T : Fm) (d : D), ts[j]? = some T → e[j]? = some d → Shp T d) (hm : es.length ≤ maxLen) : Shp (.sl ts) (.sl es)

/-- A value of this type reads as cells of these forms. -/
def Opens (P : Program) (t : TypeId) (ts : List Fm) : Prop :=
  ∀ (H : Type) (enc : TypeId × Value → H) (w : World) (base : Nat) (spare : Nat → Bool) (held : Bool) (fuel : Nat) (cs : List Value) (x : DataW H × List MemPlace), DataW.trod enc P w base spare held fuel t cs = some x →
    cs.length = ts.length ∧ ∀ (j : Nat) (T : Fm), ts[j]? = some T → ∃ c d, cs[j]? = some c ∧ DRep w (· < w.heap.size) c d ∧ Shp T d

theorem opens_int {P : Program} {t : TypeId} (ht : P.underlying t = some (.int .i64)) : Opens P t [.int] := by
  intro H enc w base spare held fuel cs x h
  obtain ⟨z, rfl, _, hz⟩ := DataW.trod_int ht h
  refine ⟨rfl, fun j T hj => ?_⟩
  match j, hj with
  | 0, hj =>
    cases hj
    exact ⟨_, _, rfl, .v _ rfl, .int z hz⟩
theorem opens_u8 {P : Program} {t : TypeId} (ht : P.underlying t = some (.int .u8)) : Opens P t [.u8] := by
  intro H enc w base spare held fuel cs x h
  obtain ⟨z, rfl, _, hz⟩ := DataW.trod_int ht h
  refine ⟨rfl, fun j T hj => ?_⟩
  match j, hj with
  | 0, hj =>
    cases hj
    exact ⟨_, _, rfl, .v _ rfl, .u8 z hz⟩
theorem opens_str {P : Program} {t : TypeId} (ht : P.underlying t = some .string) : Opens P t [.str] := by
  intro H enc w base spare held fuel cs x h
  obtain ⟨z, rfl, _, hz⟩ := DataW.trod_string ht h
  refine ⟨rfl, fun j T hj => ?_⟩
  match j, hj with
  | 0, hj =>
    cases hj
    exact ⟨_, _, rfl, .v _ rfl, .str z hz⟩
theorem opens_bool {P : Program} {t : TypeId} (ht : P.underlying t = some .bool) : Opens P t [.bool] := by
  intro H enc w base spare held fuel cs x h
  obtain ⟨z, rfl, _⟩ := DataW.trod_bool ht h
  refine ⟨rfl, fun j T hj => ?_⟩
  match j, hj with
  | 0, hj =>
    cases hj
    exact ⟨_, _, rfl, .v _ rfl, .bool z⟩
theorem opens_struct {P : Program} {t : TypeId} {fs : Array Field} {ts : List Fm} (ht : P.underlying t = some (.struct fs)) (hk : P.cellsOf t = ts.length)
    (hcov : ∀ j T, ts[j]? = some T → ∃ (i : Nat) (f : Field) (kf : Nat) (us : List Fm), fs[i]? = some f ∧ f.offset ≤ j ∧ j < f.offset + kf ∧ P.cellsOf f.type = kf ∧ Opens P f.type us ∧ us[j - f.offset]? = some T) : Opens P t ts := by
  intro H enc w base spare held fuel cs x h
  obtain ⟨xs, n, _, rfl, hl, hlen, hf⟩ := DataW.trod_struct ht h
  refine ⟨by rw [hl, hk], fun j T hj => ?_⟩
  obtain ⟨i, f, kf, us, hi, h1, h2, h3, h4, h5⟩ := hcov j T hj
  have hfi := hf i f hi
  have hlt : i < xs.length := by rw [hlen]; exact (Array.getElem?_eq_some_iff.1 hi).1
  rw [List.getElem?_eq_getElem hlt, h3] at hfi
  obtain ⟨_, hz⟩ := h4 H enc w base spare held n _ _ hfi
  obtain ⟨c, d, hc, hd, hs⟩ := hz (j - f.offset) T h5
  rw [List.getElem?_take_of_lt (by omega), List.getElem?_drop, show f.offset + (j - f.offset) = j by omega] at hc
  exact ⟨c, d, hc, hd, hs⟩

theorem flat_le {α : Type} (k : Nat) (es : List (List α)) (h : ∀ e ∈ es, e.length = k) : es.flatten.length = es.length * k := by
  induction es with
  | nil => simp
  | cons e es ih =>
    rw [List.flatten_cons, List.length_append, ih (fun x hx => h x (List.mem_cons_of_mem _ hx)), h e List.mem_cons_self, List.length_cons, Nat.add_mul]
    omega

theorem opens_slice {P : Program} {t e : TypeId} {ts : List Fm} (ht : P.underlying t = some (.slice e)) (hc : P.cellsOf e = ts.length) (hk : 0 < ts.length) (he : Opens P e ts) : Opens P t [.sl ts] := by
  intro H enc w base spare held fuel cs x hf
  rcases open_slice ht hf with ⟨rfl, _⟩ | ⟨a, len, cap, m, n, Dz, Pl, rfl, hb, hl, hm, hmm, _, hx⟩
  · refine ⟨rfl, fun j T hj => ?_⟩
    match j, hj with
    | 0, hj =>
      cases hj
      exact ⟨_, .sl [], rfl, .sl none 0 0 0 [] (fun _ => .int .i64 0) rfl (Nat.le_refl _) (by simp [maxLen]) (by simp) (fun h => absurd h (by omega)) (fun _ => rfl) (by simp) (by simp), .sl ts [] (by simp) (by simp) (by simp)⟩
  · have hlm : len ≤ m := by rw [hmm]; split <;> omega
    have each : ∀ i, i < m → ∃ q : Nat → D, ∀ j T, ts[j]? = some T → ∃ c, w.cell? (a.add (i * ts.length + j)) = some c ∧ DRep w (· < w.heap.size) c (q j) ∧ Shp T (q j) := by
      intro i hi
      obtain ⟨cs', h1, h2⟩ := hx i hi
      rw [hc] at h1
      obtain ⟨_, hlen, hcell⟩ := World.cells?_some h1
      obtain ⟨_, hz⟩ := he _ _ _ _ _ _ _ _ _ h2
      have : ∀ j, j < ts.length → ∃ d, ∀ T, ts[j]? = some T → ∃ c, w.cell? (a.add (i * ts.length + j)) = some c ∧ DRep w (· < w.heap.size) c d ∧ Shp T d := by
        intro j hj
        obtain ⟨c, d, c1, c2, c3⟩ := hz j ts[j] (List.getElem?_eq_getElem hj)
        refine ⟨d, fun T hT => ⟨c, ?_, c2, ?_⟩⟩
        · have c0 := hcell j hj
          rw [Go.Deep.add_add] at c0
          rw [c0, c1]
        · rw [List.getElem?_eq_getElem hj] at hT
          cases hT
          exact c3
      obtain ⟨q, hq⟩ := choose_lt this
      exact ⟨q, fun j T hT => hq j (by rcases Nat.lt_or_ge j ts.length with h | h; exact h; rw [List.getElem?_eq_none h] at hT; cases hT) T hT⟩
    obtain ⟨q, hq⟩ := choose_lt each
    let row (i : Nat) : List D := (List.range ts.length).map (q i)
    let es := (List.range len).map row
    have hrow : ∀ x ∈ es, x.length = ts.length := by
      intro x hx
      obtain ⟨i, _, rfl⟩ := List.mem_map.1 hx
      simp [row]
    have hcell : ∀ j d, es.flatten[j]? = some d → ∃ c, w.cell? (a.add j) = some c ∧ DRep w (· < w.heap.size) c d := by
      intro j d hj
      have hlt : j < len * ts.length := by
        have := (List.getElem?_eq_some_iff.1 hj).1
        rw [flat_le ts.length es hrow] at this
        simpa [es] using this
      have hi : j / ts.length < len := (Nat.div_lt_iff_lt_mul hk).2 hlt
      have hmod := Nat.mod_lt j hk
      have hdm : j / ts.length * ts.length + j % ts.length = j := by rw [Nat.mul_comm]; exact Nat.div_add_mod j _
      have hfl := flat_at ts.length es hrow (j / ts.length) (row (j / ts.length)) (by simp [es, hi]) (j % ts.length) hmod
      rw [hdm, hj] at hfl
      have hd : d = q (j / ts.length) (j % ts.length) := by simpa [row, hmod] using hfl
      obtain ⟨c, c1, c2, _⟩ := hq (j / ts.length) (by omega) (j % ts.length) _ (List.getElem?_eq_getElem hmod)
      rw [hdm] at c1
      exact ⟨c, c1, hd ▸ c2⟩
    refine ⟨rfl, fun j T hj => ?_⟩
    match j, hj with
    | 0, hj =>
      cases hj
      refine ⟨_, .sl es, rfl, .sl (some a) len cap ts.length es (fun j => (w.cell? (a.add j)).getD (.int .i64 0)) (by simp [es]) hl hm hrow (fun hn => ⟨a, rfl, ?_⟩) (fun h => by cases h) (fun a' j d ha hj => ?_) (fun j d hj => ?_), .sl ts es hrow (fun x hx j T d hT hd => ?_) (by simp [es]; omega)⟩
      · obtain ⟨c, c1, _⟩ := hq 0 (by omega) 0 _ (List.getElem?_eq_getElem hk)
        have := World.block_lt_of_cell? w _ c1
        rwa [show (a.add (0 * ts.length + 0)).block = a.block by unfold Addr.add; split <;> rfl] at this
      · cases ha
        obtain ⟨c, c1, _⟩ := hcell j d hj
        rw [c1]
        rfl
      · obtain ⟨c, c1, c2⟩ := hcell j d hj
        rw [c1]
        exact c2
      · obtain ⟨i, hi, rfl⟩ := List.mem_map.1 hx
        have hi : i < len := List.mem_range.1 hi
        have hjt : j < ts.length := (List.getElem?_eq_some_iff.1 hT).1
        have hd : d = q i j := by simpa [row, hjt] using hd.symm
        obtain ⟨c, _, _, c3⟩ := hq i (by omega) j T hT
        exact hd ▸ c3

section
variable {H : Type} {enc : TypeId × Value → H} {P : Program} {w : World} {base : Nat} {spare : Nat → Bool} {held : Bool} {r : Reach} {b0 : Nat}
/-- A struct that comes in. -/
theorem open_ag {t : TypeId} {fs : Array Field} {ts : List Fm} {v : Value} {d : DataW H} {ps : List MemPlace} (ht : P.underlying t = some (.struct fs)) (ho : Opens P t ts) (hv : Value.okWide P w r b0 t v) (h : DataW.Trod enc P w base spare held t v d ps) :
    ∃ ds : List D, ds.length = ts.length ∧ (∀ (j : Nat) (T : Fm), ts[j]? = some T → ∃ e, ds[j]? = some e ∧ Shp T e) ∧ PRep ρNone bNone w (· < w.heap.size) v (.ag (ds.map .d)) := by
  obtain ⟨cs, rfl, _⟩ := okWide_struct ht hv
  obtain ⟨fuel, hf⟩ := h
  simp only [Value.cells] at hf
  obtain ⟨hl, hz⟩ := ho _ _ _ _ _ _ _ _ _ hf
  have : ∀ j, j < ts.length → ∃ d, ∀ T, ts[j]? = some T → ∃ c, cs.toList[j]? = some c ∧ DRep w (· < w.heap.size) c d ∧ Shp T d := by
    intro j hj
    obtain ⟨c, d, c1, c2, c3⟩ := hz j ts[j] (List.getElem?_eq_getElem hj)
    refine ⟨d, fun T hT => ⟨c, c1, c2, ?_⟩⟩
    rw [List.getElem?_eq_getElem hj] at hT
    cases hT
    exact c3
  obtain ⟨q, hq⟩ := choose_lt this
  refine ⟨(List.range ts.length).map q, by simp, fun j T hT => ?_, .ag cs _ (by simp; simpa using hl) (fun x hx => ?_) (fun j x c hx hc => ?_)⟩
  · have hj : j < ts.length := (List.getElem?_eq_some_iff.1 hT).1
    obtain ⟨c, _, _, c3⟩ := hq j hj T hT
    exact ⟨q j, by simp [hj], c3⟩
  · obtain ⟨j, hj, rfl⟩ := List.getElem_of_mem (Array.mem_toList_iff.2 hx)
    have hj' : j < ts.length := by rw [← hl]; exact hj
    obtain ⟨c, c1, c2, _⟩ := hq j hj' _ (List.getElem?_eq_getElem hj')
    rw [List.getElem?_eq_getElem hj] at c1
    cases c1
    exact c2.one
  · have hj : j < ts.length := by
      have := (Array.getElem?_eq_some_iff.1 hx).1
      rw [← hl]
      simpa using this
    obtain ⟨c', c1, c2, _⟩ := hq j hj _ (List.getElem?_eq_getElem hj)
    rw [Array.getElem?_toList, hx] at c1
    cases c1
    have : c = .d (q j) := by simpa [hj] using hc.symm
    subst this
    exact .d _ _ c2
/-- A slice that comes in. -/
theorem open_sl {t e : TypeId} {T : Fm} {v : Value} {d : DataW H} {ps : List MemPlace} (ht : P.underlying t = some (.slice e)) (ho : Opens P t [T]) (hv : Value.okWide P w r b0 t v) (h : DataW.Trod enc P w base spare held t v d ps) :
    ∃ d : D, Shp T d ∧ PRep ρNone bNone w (· < w.heap.size) v (.d d) := by
  obtain ⟨a0, len0, cap0, rfl⟩ := okWide_slice ht hv
  obtain ⟨fuel, hf⟩ := h
  simp only [Value.cells] at hf
  obtain ⟨hl, hz⟩ := ho _ _ _ _ _ _ _ _ _ hf
  obtain ⟨c, d, c1, c2, c3⟩ := hz 0 T rfl
  cases c1
  exact ⟨d, c3, .d _ _ c2⟩
end

/-- A list of rows, each of which is something's cells. -/
theorem rows_of {α : Type} {f : α → List D} {Q : α → Prop} : ∀ (es : List (List D)), (∀ e ∈ es, ∃ x, e = f x ∧ Q x) → ∃ l : List α, es = l.map f ∧ ∀ x ∈ l, Q x
  | [], _ => ⟨[], rfl, by simp⟩
  | e :: es, h => by
    obtain ⟨x, rfl, hq⟩ := h e List.mem_cons_self
    obtain ⟨l, rfl, hl⟩ := rows_of es (fun y hy => h y (List.mem_cons_of_mem _ hy))
    refine ⟨x :: l, rfl, ?_⟩
    intro y hy
    rcases List.mem_cons.1 hy with rfl | hy
    · exact hq
    · exact hl y hy

/-- From the contract to the walk. -/
theorem pc_walk {P : Program} {f : FuncId} {args : List PV} {b : Bool} (h : PC P f args (.d (.v (.bool b)))) (w : World) (vs : Array Value) (hr : Reps ρNone bNone w (· < w.heap.size) vs.toList args) :
    Calls P f vs w fun e w' => e = .returned (.bool b) ∧ Below w.heap.size w w' := by
  refine (h.2 w _ vs (fun _ h => h) hr).mono ?_
  rintro e w' ⟨v, F', rfl, hx, _, _, _, hp⟩
  refine ⟨?_, hx⟩
  cases hp with
  | d _ _ h => cases h with
    | v => rfl
end Go.Proofs.Ytcphpbhngnnpmaa

/- What comes in, opened: the structs of these statements (written by lift.py). -/
namespace Go.Proofs.Ytcphpbhngnnpmaa
open Go.ChangeShapes Go.WideShapes Go.ChangeAt Go.RowKit Go.Deep

theorem shp_int {d : D} (h : Shp .int d) : ∃ z, d = .v (.int .i64 z) ∧ (Lit.int .i64 z).wf = true := by
  cases h with
  | int z h => exact ⟨z, rfl, h⟩
theorem shp_u8 {d : D} (h : Shp .u8 d) : ∃ z, d = .v (.int .u8 z) ∧ (Lit.int .u8 z).wf = true := by
  cases h with
  | u8 z h => exact ⟨z, rfl, h⟩
theorem shp_str {d : D} (h : Shp .str d) : ∃ s, d = .v (.string s) ∧ s.size ≤ maxLen := by
  cases h with
  | str z h => exact ⟨z, rfl, h⟩
theorem shp_bool {d : D} (h : Shp .bool d) : ∃ b, d = .v (.bool b) := by
  cases h with
  | bool z => exact ⟨z, rfl⟩
def wfI (z : Int) : Prop := (Lit.int .i64 z).wf = true
def wfU (z : Int) : Prop := (Lit.int .u8 z).wf = true
theorem wfI.lo {z : Int} (h : wfI z) : -9223372036854775808 ≤ z := (bounds_i64 h).1
theorem wfI.hi {z : Int} (h : wfI z) : z ≤ 9223372036854775807 := (bounds_i64 h).2
theorem row_of {α : Type} {f : α → List D} {Q : α → Prop} {ts : List Fm} {d : D} (hf : ∀ e : List D, e.length = ts.length → (∀ (j : Nat) (T : Fm), ts[j]? = some T → ∃ d, e[j]? = some d ∧ Shp T d) → ∃ x, e = f x ∧ Q x) (h : Shp (.sl ts) d) : ∃ l : List α, d = .sl (l.map f) ∧ (∀ z ∈ l, Q z) ∧ l.length ≤ maxLen := by
  cases h with
  | sl _ es hl h hm =>
    obtain ⟨l, rfl, hq⟩ := rows_of (f := f) (Q := Q) es (fun e he => hf e (hl e he) fun j T hT => by
      have hj : j < e.length := by rw [hl e he]; exact (List.getElem?_eq_some_iff.1 hT).1
      exact ⟨e[j], List.getElem?_eq_getElem hj, h e he j T _ hT (List.getElem?_eq_getElem hj)⟩)
    exact ⟨l, rfl, hq, by simpa using hm⟩
theorem of_int {e : List D} (hl : e.length = 1) (h : ∀ (j : Nat) (T : Fm), [Fm.int][j]? = some T → ∃ d, e[j]? = some d ∧ Shp T d) : ∃ x : Int, e = [.v (.int .i64 x)] ∧ wfI x := by
  match e, hl with
  | [d], _ =>
    obtain ⟨d', hd, s⟩ := h 0 _ rfl
    cases hd
    cases s with
    | int z hz => exact ⟨z, rfl, hz⟩
theorem of_u8 {e : List D} (hl : e.length = 1) (h : ∀ (j : Nat) (T : Fm), [Fm.u8][j]? = some T → ∃ d, e[j]? = some d ∧ Shp T d) : ∃ x : Int, e = [.v (.int .u8 x)] ∧ wfU x := by
  match e, hl with
  | [d], _ =>
    obtain ⟨d', hd, s⟩ := h 0 _ rfl
    cases hd
    cases s with
    | u8 z hz => exact ⟨z, rfl, hz⟩
theorem of_str {e : List D} (hl : e.length = 1) (h : ∀ (j : Nat) (T : Fm), [Fm.str][j]? = some T → ∃ d, e[j]? = some d ∧ Shp T d) : ∃ x : ByteArray, e = [.v (.string x)] ∧ x.size ≤ maxLen := by
  match e, hl with
  | [d], _ =>
    obtain ⟨d', hd, s⟩ := h 0 _ rfl
    cases hd
    cases s with
    | str z hz => exact ⟨z, rfl, hz⟩
theorem of_bool {e : List D} (hl : e.length = 1) (h : ∀ (j : Nat) (T : Fm), [Fm.bool][j]? = some T → ∃ d, e[j]? = some d ∧ Shp T d) : ∃ x : Bool, e = [.v (.bool x)] ∧ True := by
  match e, hl with
  | [d], _ =>
    obtain ⟨d', hd, s⟩ := h 0 _ rfl
    cases hd
    cases s with
    | bool z => exact ⟨z, rfl, trivial⟩
def GVec.ok (x : GVec) : Prop := wfI x.fMem ∧ wfI x.fCores
theorem opens_GVec : Opens Try.prog 23 [.int, .int] := opens_struct Try.underlying23 (by kernel_rfl) fun j T hj => by
  match j, hj with
  | 0, hj => exact ⟨0, _, 1, [.int], rfl, by decide, by decide, by kernel_rfl, (opens_int Try.underlying3), hj⟩
  | 1, hj => exact ⟨1, _, 1, [.int], rfl, by decide, by decide, by kernel_rfl, (opens_int Try.underlying3), hj⟩
theorem of_GVec {e : List D} (hl : e.length = 2) (h : ∀ (j : Nat) (T : Fm), ([.int, .int] : List Fm)[j]? = some T → ∃ d, e[j]? = some d ∧ Shp T d) : ∃ x : GVec, e = GVec.d x ∧ x.ok := by
  match e, hl with
  | [d0, d1], _ =>
    obtain ⟨_, e0, s0⟩ := h 0 _ rfl
    cases e0
    obtain ⟨_, e1, s1⟩ := h 1 _ rfl
    cases e1
    obtain ⟨z0, rfl, k0⟩ := shp_int s0
    obtain ⟨z1, rfl, k1⟩ := shp_int s1
    exact ⟨⟨z0, z1⟩, rfl, ⟨k0, k1⟩⟩
def GAsk.ok (x : GAsk) : Prop := wfI x.fPrio ∧ wfI x.fLabel ∧ GVec.ok x.fSize ∧ wfI x.fCount ∧ wfI x.fNode ∧ wfI x.fRack ∧ wfI x.fMissed
theorem opens_GAsk : Opens Try.prog 25 [.int, .int, .int, .int, .int, .int, .int, .int] := opens_struct Try.underlying25 (by kernel_rfl) fun j T hj => by
  match j, hj with
  | 0, hj => exact ⟨0, _, 1, [.int], rfl, by decide, by decide, by kernel_rfl, (opens_int Try.underlying3), hj⟩
  | 1, hj => exact ⟨1, _, 1, [.int], rfl, by decide, by decide, by kernel_rfl, (opens_int Try.underlying3), hj⟩
  | 2, hj => exact ⟨2, _, 2, [.int, .int], rfl, by decide, by decide, by kernel_rfl, opens_GVec, hj⟩
  | 3, hj => exact ⟨2, _, 2, [.int, .int], rfl, by decide, by decide, by kernel_rfl, opens_GVec, hj⟩
  | 4, hj => exact ⟨3, _, 1, [.int], rfl, by decide, by decide, by kernel_rfl, (opens_int Try.underlying3), hj⟩
  | 5, hj => exact ⟨4, _, 1, [.int], rfl, by decide, by decide, by kernel_rfl, (opens_int Try.underlying3), hj⟩
  | 6, hj => exact ⟨5, _, 1, [.int], rfl, by decide, by decide, by kernel_rfl, (opens_int Try.underlying3), hj⟩
  | 7, hj => exact ⟨6, _, 1, [.int], rfl, by decide, by decide, by kernel_rfl, (opens_int Try.underlying3), hj⟩
theorem of_GAsk {e : List D} (hl : e.length = 8) (h : ∀ (j : Nat) (T : Fm), ([.int, .int, .int, .int, .int, .int, .int, .int] : List Fm)[j]? = some T → ∃ d, e[j]? = some d ∧ Shp T d) : ∃ x : GAsk, e = GAsk.d x ∧ x.ok := by
  match e, hl with
  | [d0, d1, d2, d3, d4, d5, d6, d7], _ =>
    obtain ⟨_, e0, s0⟩ := h 0 _ rfl
    cases e0
    obtain ⟨_, e1, s1⟩ := h 1 _ rfl
    cases e1
    obtain ⟨_, e2, s2⟩ := h 2 _ rfl
    cases e2
    obtain ⟨_, e3, s3⟩ := h 3 _ rfl
    cases e3
    obtain ⟨_, e4, s4⟩ := h 4 _ rfl
    cases e4
    obtain ⟨_, e5, s5⟩ := h 5 _ rfl
    cases e5
    obtain ⟨_, e6, s6⟩ := h 6 _ rfl
    cases e6
    obtain ⟨_, e7, s7⟩ := h 7 _ rfl
    cases e7
    obtain ⟨z0, rfl, k0⟩ := shp_int s0
    obtain ⟨z1, rfl, k1⟩ := shp_int s1
    obtain ⟨z2, rfl, k2⟩ := shp_int s2
    obtain ⟨z3, rfl, k3⟩ := shp_int s3
    obtain ⟨z4, rfl, k4⟩ := shp_int s4
    obtain ⟨z5, rfl, k5⟩ := shp_int s5
    obtain ⟨z6, rfl, k6⟩ := shp_int s6
    obtain ⟨z7, rfl, k7⟩ := shp_int s7
    exact ⟨⟨z0, z1, ⟨z2, z3⟩, z4, z5, z6, z7⟩, rfl, ⟨k0, k1, ⟨k2, k3⟩, k4, k5, k6, k7⟩⟩
def GNode.ok (x : GNode) : Prop := wfI x.fId ∧ wfI x.fLabel ∧ wfI x.fRack ∧ GVec.ok x.fCap ∧ wfI x.fSeen ∧ wfI x.fBeat
theorem opens_GNode : Opens Try.prog 27 [.int, .int, .int, .int, .int, .int, .int, .bool] := opens_struct Try.underlying27 (by kernel_rfl) fun j T hj => by
  match j, hj with
  | 0, hj => exact ⟨0, _, 1, [.int], rfl, by decide, by decide, by kernel_rfl, (opens_int Try.underlying3), hj⟩
  | 1, hj => exact ⟨1, _, 1, [.int], rfl, by decide, by decide, by kernel_rfl, (opens_int Try.underlying3), hj⟩
  | 2, hj => exact ⟨2, _, 1, [.int], rfl, by decide, by decide, by kernel_rfl, (opens_int Try.underlying3), hj⟩
  | 3, hj => exact ⟨3, _, 2, [.int, .int], rfl, by decide, by decide, by kernel_rfl, opens_GVec, hj⟩
  | 4, hj => exact ⟨3, _, 2, [.int, .int], rfl, by decide, by decide, by kernel_rfl, opens_GVec, hj⟩
  | 5, hj => exact ⟨4, _, 1, [.int], rfl, by decide, by decide, by kernel_rfl, (opens_int Try.underlying3), hj⟩
  | 6, hj => exact ⟨5, _, 1, [.int], rfl, by decide, by decide, by kernel_rfl, (opens_int Try.underlying3), hj⟩
  | 7, hj => exact ⟨6, _, 1, [.bool], rfl, by decide, by decide, by kernel_rfl, (opens_bool Try.underlying4), hj⟩
theorem of_GNode {e : List D} (hl : e.length = 8) (h : ∀ (j : Nat) (T : Fm), ([.int, .int, .int, .int, .int, .int, .int, .bool] : List Fm)[j]? = some T → ∃ d, e[j]? = some d ∧ Shp T d) : ∃ x : GNode, e = GNode.d x ∧ x.ok := by
  match e, hl with
  | [d0, d1, d2, d3, d4, d5, d6, d7], _ =>
    obtain ⟨_, e0, s0⟩ := h 0 _ rfl
    cases e0
    obtain ⟨_, e1, s1⟩ := h 1 _ rfl
    cases e1
    obtain ⟨_, e2, s2⟩ := h 2 _ rfl
    cases e2
    obtain ⟨_, e3, s3⟩ := h 3 _ rfl
    cases e3
    obtain ⟨_, e4, s4⟩ := h 4 _ rfl
    cases e4
    obtain ⟨_, e5, s5⟩ := h 5 _ rfl
    cases e5
    obtain ⟨_, e6, s6⟩ := h 6 _ rfl
    cases e6
    obtain ⟨_, e7, s7⟩ := h 7 _ rfl
    cases e7
    obtain ⟨z0, rfl, k0⟩ := shp_int s0
    obtain ⟨z1, rfl, k1⟩ := shp_int s1
    obtain ⟨z2, rfl, k2⟩ := shp_int s2
    obtain ⟨z3, rfl, k3⟩ := shp_int s3
    obtain ⟨z4, rfl, k4⟩ := shp_int s4
    obtain ⟨z5, rfl, k5⟩ := shp_int s5
    obtain ⟨z6, rfl, k6⟩ := shp_int s6
    obtain ⟨z7, rfl⟩ := shp_bool s7
    exact ⟨⟨z0, z1, z2, ⟨z3, z4⟩, z5, z6, z7⟩, rfl, ⟨k0, k1, k2, ⟨k3, k4⟩, k5, k6⟩⟩
end Go.Proofs.Ytcphpbhngnnpmaa

/- Stage 13, the plain side: the five laws' plain functions answer true. -/
namespace Go.Proofs.Ytcphpbhngnnpmaa
open Go.RowKit

def lev (a : GAsk) (n : GNode) : Int :=
  if n.fUp = false ∨ n.fLabel ≠ a.fLabel then 4 else if a.fRack = -1 ∨ a.fNode = n.fId ∨ (a.fNode = -1 ∧ a.fRack = n.fRack) then 1 else if a.fRack = n.fRack then 2 else 3
def mayB (a : GAsk) (n : GNode) : Bool := decide (lev a n = 1 ∨ (lev a n = 2 ∧ 2 ≤ a.fMissed) ∨ (lev a n = 3 ∧ 4 ≤ a.fMissed))
theorem lev_cases (a : GAsk) (n : GNode) : lev a n = 1 ∨ lev a n = 2 ∨ lev a n = 3 ∨ lev a n = 4 := by
  unfold lev
  split
  · simp
  · split
    · simp
    · split <;> simp
theorem rLevel_is (a : GAsk) (n : GNode) : R13_Level a n = some (lev a n) := by
  unfold R13_Level lev
  by_cases h1 : n.fUp = false <;> by_cases h2 : n.fLabel = a.fLabel <;> by_cases h3 : a.fRack = -1 <;> by_cases h4 : a.fNode = n.fId <;> by_cases h5 : a.fNode = -1 <;> by_cases h6 : a.fRack = n.fRack <;> simp_all
theorem pLevel_is (a : GAsk) (n : GNode) : P_local_Level a n = some (lev a n) := by
  unfold P_local_Level lev
  by_cases h1 : n.fUp = false <;> by_cases h2 : n.fLabel = a.fLabel <;> by_cases h3 : a.fRack = -1 <;> by_cases h4 : a.fNode = n.fId <;> by_cases h5 : a.fNode = -1 <;> by_cases h6 : a.fRack = n.fRack <;> simp_all
theorem rMay_is (a : GAsk) (n : GNode) : R13_May a n = some (mayB a n) := by
  unfold R13_May mayB
  rw [rLevel_is]
  rcases lev_cases a n with h | h | h | h <;> simp [h]
theorem pMay_is (a : GAsk) (n : GNode) : P_local_May a n = some (mayB a n) := by
  unfold P_local_May mayB
  rw [pLevel_is]
  rcases lev_cases a n with h | h | h | h <;> simp [h]
  · by_cases h2 : a.fMissed < 2
    · simp [h2]
    · simp [h2]; omega
  · by_cases h2 : a.fMissed < 4
    · simp [h2]
    · have : ¬ a.fMissed < 2 := by omega
      simp [h2, this]; omega
theorem within13 (x n : Int) (hn : 0 < n) (hn2 : n ≤ 1000) : ∃ k, L13_within x n = some k ∧ 0 ≤ k ∧ k < n := by
  unfold L13_within remO
  have h1 := Int.tmod_lt_of_pos x hn
  have h2 : -n < Int.tmod x n := by
    have h3 : Int.tmod x n = -(Int.tmod (-x) n) := by rw [Int.neg_tmod]; simp
    have := Int.tmod_lt_of_pos (-x) hn
    omega
  rw [if_neg (by omega)]
  generalize Int.tmod x n = r at *
  simp only [Option.bind_some]
  by_cases h : r < 0
  · have hw : IntKind.i64.wrap (r + n) = r + n := wrapI (by omega) (by omega)
    exact ⟨r + n, by simp [h, hw], by omega, by omega⟩
  · exact ⟨r, by simp [h], by omega, by omega⟩
theorem near_is (a : GAsk) (n : GNode) : ∃ a' n', L13_near a n = some (a', n') ∧ 0 ≤ a'.fMissed ∧ a'.fMissed < 7 ∧ 0 ≤ n'.fId ∧ n'.fId < 3 ∧ 0 ≤ n'.fRack ∧ n'.fRack < 3 := by
  unfold L13_near
  obtain ⟨k1, e1, b1, c1⟩ := within13 a.fLabel 2 (by decide) (by decide)
  obtain ⟨k2, e2, b2, c2⟩ := within13 a.fNode 4 (by decide) (by decide)
  obtain ⟨k3, e3, b3, c3⟩ := within13 a.fRack 4 (by decide) (by decide)
  obtain ⟨k4, e4, b4, c4⟩ := within13 a.fMissed 7 (by decide) (by decide)
  obtain ⟨k5, e5, b5, c5⟩ := within13 n.fLabel 2 (by decide) (by decide)
  obtain ⟨k6, e6, b6, c6⟩ := within13 n.fId 3 (by decide) (by decide)
  obtain ⟨k7, e7, b7, c7⟩ := within13 n.fRack 3 (by decide) (by decide)
  simp only [e1, e2, e3, e4, e5, e6, e7, Option.bind_some]
  exact ⟨_, _, rfl, b4, c4, b6, c6, b7, c7⟩
theorem known_is : L13_known = some true := by
  unfold L13_known
  simp only [pLevel_is, pMay_is, Option.bind_some]
  decide
theorem LocalAsks.plain (a0 : GAsk) (k0 : GAsk.ok a0) (a1 : GNode) (k1 : GNode.ok a1) : L13_LocalAsks a0 a1 = some true := by
  unfold L13_LocalAsks
  obtain ⟨a', n', e, -⟩ := near_is a0 a1
  simp [known_is, pLevel_is, rLevel_is, pMay_is, rMay_is, e]
theorem LocalOrder.plain (a0 : GAsk) (k0 : GAsk.ok a0) (a1 : GNode) (k1 : GNode.ok a1) (a2 : GNode) (k2 : GNode.ok a2) : L13_LocalOrder a0 a1 a2 = some true := by
  unfold L13_LocalOrder
  obtain ⟨a', n', e, -⟩ := near_is a0 a1
  obtain ⟨b', m', e2, -⟩ := near_is a' a2
  simp only [known_is, pLevel_is, rLevel_is, pMay_is, rMay_is, e, e2, Option.bind_some, Bool.not_true, Bool.false_eq_true, if_false]
  rcases lev_cases a' n' with h | h | h | h <;> rcases lev_cases a' m' with h2 | h2 | h2 | h2 <;> simp [mayB, h, h2] <;> omega
theorem LocalTwins.plain (a0 : GAsk) (k0 : GAsk.ok a0) (a1 : GNode) (k1 : GNode.ok a1) (a2 : GAsk) (k2 : GAsk.ok a2) (a3 : GNode) (k3 : GNode.ok a3) : L13_LocalTwins a0 a1 a2 a3 = some true := by
  unfold L13_LocalTwins
  obtain ⟨a', n', e, -⟩ := near_is a0 a1
  have hl : ∀ (b : GAsk) (m : GNode), lev ⟨b.fPrio, a'.fLabel, b.fSize, b.fCount, a'.fNode, a'.fRack, a'.fMissed⟩ ⟨n'.fId, n'.fLabel, n'.fRack, m.fCap, m.fSeen, m.fBeat, n'.fUp⟩ = lev a' n' := fun _ _ => rfl
  have hm : ∀ (b : GAsk) (m : GNode), mayB ⟨b.fPrio, a'.fLabel, b.fSize, b.fCount, a'.fNode, a'.fRack, a'.fMissed⟩ ⟨n'.fId, n'.fLabel, n'.fRack, m.fCap, m.fSeen, m.fBeat, n'.fUp⟩ = mayB a' n' := fun _ _ => rfl
  simp [known_is, pLevel_is, rLevel_is, pMay_is, rMay_is, e, hl, hm]
theorem LocalNear.plain (a0 : GAsk) (k0 : GAsk.ok a0) (a1 : GNode) (k1 : GNode.ok a1) (a2 : Int) (k2 : wfI a2) : L13_LocalNear a0 a1 a2 = some true := by
  unfold L13_LocalNear
  obtain ⟨a', n', e, b1, b2, b3, b4, b5, b6⟩ := near_is a0 a1
  obtain ⟨k, ek, c1, c2⟩ := within13 a2 4 (by decide) (by decide)
  have hw1 : IntKind.i64.wrap (n'.fId + 1) = n'.fId + 1 := wrapI (by omega) (by omega)
  have hw2 : IntKind.i64.wrap (n'.fRack + 1) = n'.fRack + 1 := wrapI (by omega) (by omega)
  simp only [known_is, pLevel_is, rLevel_is, pMay_is, rMay_is, e, ek, hw1, hw2, Option.bind_some, Bool.not_true, Bool.false_eq_true, if_false]
  have hk : k = 0 ∨ k = 1 ∨ k = 2 ∨ k = 3 := by omega
  have h1 : n'.fId + 1 ≠ n'.fId := by omega
  have h2 : n'.fRack + 1 ≠ n'.fRack := by omega
  have h3 : n'.fId + 1 ≠ -1 := by omega
  have h4 : n'.fRack + 1 ≠ -1 := by omega
  have h5 : n'.fRack ≠ -1 := by omega
  rcases hk with rfl | rfl | rfl | rfl <;> simp [lev, mayB, h1, h2, h3, h4, h5]
theorem waits_loop (n : GNode) : ∀ (j : Nat) (a : GAsk) (m : Bool) (k : Int) (r : Nat), (k + j = 6) → 0 ≤ k → a.fMissed ≥ k → a.fMissed < 7 + k → m = mayB a n → j < r →
    ∃ a' : GAsk, loopO (L13_LocalWaits_loop1 n) r (a, m, k) = some (.inl (a', mayB a' n, 6)) ∧ a'.fLabel = a.fLabel ∧ 6 ≤ a'.fMissed
  | 0, a, m, k, r + 1, hk, h0, h1, h2, hm, hr => by
    have hk6 : k = 6 := by omega
    subst hk6
    refine ⟨a, ?_, rfl, by omega⟩
    rw [loopO]
    simp [L13_LocalWaits_loop1, hm]
  | j + 1, a, m, k, r + 1, hk, h0, h1, h2, hm, hr => by
    have hw : IntKind.i64.wrap (a.fMissed + 1) = a.fMissed + 1 := wrapI (by omega) (by omega)
    have hw2 : IntKind.i64.wrap (k + 1) = k + 1 := wrapI (by omega) (by omega)
    have hl : lev { a with fMissed := a.fMissed + 1 } n = lev a n := rfl
    obtain ⟨a', e, h3, h4⟩ := waits_loop n j { a with fMissed := a.fMissed + 1 } (mayB { a with fMissed := a.fMissed + 1 } n) (k + 1) r (by omega) (by omega) (by simp only; omega) (by simp only; omega) rfl (by omega)
    refine ⟨a', ?_, h3, h4⟩
    rw [loopO]
    have hlt : (decide (k < 6)) = true := by simp; omega
    have hq : (if m = true then some (!(mayB { a with fMissed := a.fMissed + 1 } n)) else some false) = some false := by
      subst hm
      cases hb : mayB a n with
      | false => simp
      | true =>
        have : mayB { a with fMissed := a.fMissed + 1 } n = true := by
          unfold mayB at hb ⊢
          rw [hl]
          simp only [decide_eq_true_eq] at hb ⊢
          omega
        simp [this]
    simp only [L13_LocalWaits_loop1, hw, hw2, hlt, pMay_is, hq, if_true, Option.bind_some, Bool.false_eq_true, if_false]
    exact e
theorem LocalWaits.plain (a0 : GAsk) (k0 : GAsk.ok a0) (a1 : GNode) (k1 : GNode.ok a1) : L13_LocalWaits a0 a1 = some true := by
  unfold L13_LocalWaits
  obtain ⟨a', n', e, b1, b2, b3, b4, b5, b6⟩ := near_is a0 a1
  obtain ⟨a2, e2, h3, h4⟩ := waits_loop n' 6 a' (mayB a' n') 0 rounds (by omega) (by omega) (by omega) (by omega) rfl (by decide)
  simp only [known_is, pLevel_is, rLevel_is, pMay_is, rMay_is, e, e2, Option.bind_some, Bool.not_true, Bool.false_eq_true, if_false]
  have h6 : mayB a2 n' = (n'.fUp && n'.fLabel == a2.fLabel) := by
    unfold mayB
    have hc := lev_cases a2 n'
    have h4' : lev a2 n' = 4 ↔ (n'.fUp = false ∨ n'.fLabel ≠ a2.fLabel) := by
      unfold lev
      split
      · simp_all
      · rename_i hh
        simp only [hh, iff_false]
        split
        · decide
        · split <;> decide
    by_cases hh : n'.fUp = false ∨ n'.fLabel ≠ a2.fLabel
    · have := h4'.2 hh
      rw [this]
      rcases hh with hh | hh <;> simp [hh]
    · have : lev a2 n' ≠ 4 := fun x => hh (h4'.1 x)
      have h7 : n'.fUp = true := by cases h : n'.fUp <;> simp_all
      have h8 : n'.fLabel = a2.fLabel := by
        by_cases h : n'.fLabel = a2.fLabel
        · exact h
        · exact absurd (Or.inr h) hh
      simp [h7, h8]
      omega
  have h7 : mayB a2 n' = (lev a2 n' != 4) := by
    unfold mayB
    rcases lev_cases a2 n' with h | h | h | h <;> simp [h] <;> omega
  have h8 : (if n'.fUp = true then some (n'.fLabel == a2.fLabel) else some false) = some (mayB a2 n') := by
    rw [h6]
    cases n'.fUp <;> simp
  rw [h8]
  simp [h7]
end Go.Proofs.Ytcphpbhngnnpmaa
