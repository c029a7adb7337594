/- Texts Vp, Vq, Vr, Vw, Vx, Vy, Vz, Vlib, RdG, AppM, Clones, Shelf, StrC, Vlc, Vpa, Vpl, OpenS, PmP, OpLife, in one. -/
import Derived.Test.YtjeeclabnimbbaaMD
import Derived.Laws.MakeOwn
import Derived.Laws.AppendOwnNone
import Derived.Laws.OwnMore
import Derived.Laws.CopyOwn
import Derived.RangeFuncNested
import Derived.Lib.SliceRun
import Derived.Shelf.LaysM
import Derived.Shelf.Strconv.Clone
import Derived.Shelf.Strings.LastIndex
import Derived.Ground.Names2Prog
import Derived.Shelf.Slices.Clone
import Derived.Ground.SlgnProg
import Derived.Shelf.SlicesE.Clone
import Derived.Test.YtjeeclabnimbbaaProg
import Derived.Test.YtjeeclabnimbbaaChecked
import Derived.KernelRfl
import Derived.Deep.Strs
import Derived.ChangeSame
import Derived.OpenShut
/- The typed executor: where ways meet. -/
namespace Go.Proofs.Ytjeeclabnimbbaa
open Go.RowKit

variable {sc wr : List Nat}
theorem modBoxes_cons (m : Mod) (l : List Mod) (t : Nat) : memN (modBoxes (m :: l)) t = (memN (modBoxes [m]) t || memN (modBoxes l) t) := by
  cases m with
  | leaf i t' => simp [modBoxes, memN]
  | agg i n => simp [modBoxes, memN]
  | row i R e k t' => simp [modBoxes, memN_cons, memN]
  | box b ty n rows => simp [modBoxes, memN_cons, memN_app, memN, Bool.or_assoc]
def modKey : Mod → Option Nat
  | .leaf i _ => some i
  | .agg i _ => some i
  | .row i _ _ _ _ => some i
  | .box .. => none
theorem putM_sl {m : Mod} {x : m.den} {l : List (Nat × SV)} {bx : List (Nat × Option SBox)} {pr oc : List Nat} {ro : Bool} {s2 : SS} (h : putM m x ⟨l, bx, pr, ro, oc⟩ = some s2) :
    ∃ X bx2, s2 = ⟨X ++ l, bx2, pr, ro, oc⟩ ∧ (∀ l', putM m x ⟨l', bx, pr, ro, oc⟩ = some ⟨X ++ l', bx2, pr, ro, oc⟩) ∧ ∀ i, memN (X.map (·.1)) i = true → modKey m = some i := by
  cases m with
  | leaf i t => simp only [putM] at h ⊢; injection h with h; subst h; exact ⟨[(i, .d (enc1 t x))], bx, rfl, fun _ => rfl, fun j hj => by simp [memN_cons, memN] at hj; simp [modKey, hj]⟩
  | agg i n => simp only [putM] at h ⊢; injection h with h; subst h; exact ⟨[(i, .ag (mapD (stC n x)))], bx, rfl, fun _ => rfl, fun j hj => by simp [memN_cons, memN] at hj; simp [modKey, hj]⟩
  | row i R e k t => simp only [putM] at h ⊢; injection h with h; subst h; exact ⟨[(i, .row R)], _, rfl, fun _ => rfl, fun j hj => by simp [memN_cons, memN] at hj; simp [modKey, hj]⟩
  | box b ty n rows =>
    simp only [putM] at h ⊢
    split at h
    · rename_i vs bx' hp
      injection h with h
      subst h
      exact ⟨[], _, rfl, fun _ => rfl, fun j hj => by cases hj⟩
    · cases h
theorem putMs_sl : ∀ {ms : List Mod} {st : modsT ms} {l : List (Nat × SV)} {bx : List (Nat × Option SBox)} {pr oc : List Nat} {ro : Bool} {s2 : SS}, putMs ms st ⟨l, bx, pr, ro, oc⟩ = some s2 →
    ∃ X bx2, s2 = ⟨X ++ l, bx2, pr, ro, oc⟩ ∧ (∀ l', putMs ms st ⟨l', bx, pr, ro, oc⟩ = some ⟨X ++ l', bx2, pr, ro, oc⟩) ∧ ∀ i, memN (X.map (·.1)) i = true → ∃ m ∈ ms, modKey m = some i
  | [], st, l, bx, pr, oc, ro, s2, h => by injection h with h; subst h; exact ⟨[], bx, rfl, fun _ => rfl, fun j hj => by cases hj⟩
  | [m], st, l, bx, pr, oc, ro, s2, h => by
    obtain ⟨X, bx2, h1, h2, h3⟩ := putM_sl (show putM m st _ = some s2 from h)
    exact ⟨X, bx2, h1, h2, fun i hi => ⟨m, List.mem_cons_self, h3 i hi⟩⟩
  | m :: m' :: ms, st, l, bx, pr, oc, ro, s2, h => by
    have h : (match putMs (m' :: ms) st.2 ⟨l, bx, pr, ro, oc⟩ with | some s => putM m st.1 s | none => none) = some s2 := h
    split at h
    · rename_i s1 h1
      obtain ⟨X, bx2, rfl, k2, k3⟩ := putMs_sl h1
      obtain ⟨Y, bx3, rfl, m2, m3⟩ := putM_sl h
      refine ⟨Y ++ X, bx3, by simp, fun l' => ?_, fun i hi => ?_⟩
      · show (match putMs (m' :: ms) st.2 ⟨l', bx, pr, ro, oc⟩ with | some s => putM m st.1 s | none => none) = _
        rw [k2 l']
        simp only
        rw [m2]
        simp
      · rw [List.map_append, memN_app, Bool.or_eq_true] at hi
        rcases hi with hi | hi
        · exact ⟨m, List.mem_cons_self, m3 i hi⟩
        · obtain ⟨m0, h4, h5⟩ := k3 i hi
          exact ⟨m0, List.mem_cons_of_mem _ h4, h5⟩
    · cases h
theorem lkV_app : ∀ (X l : List (Nat × SV)) (i : Nat), lkV (X ++ l) i = if memN (X.map (·.1)) i = true then lkV X i else lkV l i
  | [], l, i => by simp [memN]
  | (j, v) :: X, l, i => by
    simp only [List.cons_append, lkV_cons, lkV_app X l i, List.map_cons, memN_cons]
    by_cases e : i = j
    · simp [e]
    · simp [e]
theorem getM_rw {s' : SS} {m : Mod} {x : m.den} (hg : getM s' m = some x) {t : Nat} (ht : memN (modBoxes [m]) t = true) {ty : TypeId} {cs : List SV} (hb : lkB s'.bx t = some (.st ty cs)) : ∃ ty n rows, m = .box t ty n rows := by
  cases m with
  | leaf i t' => cases ht
  | agg i n => cases ht
  | row i R e k t' =>
    simp only [modBoxes, memN_cons, memN, Bool.or_false, decide_eq_true_eq] at ht
    subst ht
    have hg : (match lkV s'.sl i, lkB s'.bx t with | .row R', some (.rw e' k' t2 xs _) => (match Ty.same t2 t' with | some ⟨h⟩ => chk (Nat.beq R' t) (chk (e' == e) (chk (k' == k) (some (castL h xs)))) | none => none) | _, _ => none) = some (show List t'.den from x) := hg
    rw [hb] at hg
    split at hg
    · rename_i h2; cases h2
    · cases hg
  | box b ty' n rows =>
    simp only [modBoxes, memN_cons, memN_app, memN, Bool.or_false, Bool.or_eq_true, decide_eq_true_eq] at ht
    rcases ht with ht | ht
    · subst ht; exact ⟨_, _, _, rfl⟩
    · exfalso
      simp only [getM] at hg
      split at hg
      · have h1 := (chk_some (chk_some hg).2).1
        have key : ∀ rows : List (Nat × Nat × Nat × Nat × Ty), memN (rows.map (·.2.1)) t = true → (rows.all fun r => isRw (lkB s'.bx r.2.1)) = true → isRw (lkB s'.bx t) = true := by
          intro rows
          induction rows with
          | nil => intro h; cases h
          | cons r rows ih =>
            intro h h2
            rw [List.all_cons, Bool.and_eq_true] at h2
            rw [List.map_cons, memN_cons, Bool.or_eq_true] at h
            rcases h with h | h
            · have := of_decide_eq_true h
              rw [this]; exact h2.1
            · exact ih h h2.2
        have h2 := key rows ht h1
        rw [hb] at h2
        cases h2
      · exact noneN hg
theorem packM_ok {s' : SS} {p : PS} (hs' : SimW s' p) : ∀ {ms : List Mod} {st : modsT ms} {c c' : SS}, packM s' ms = some st → SimW c p → NoPins c.bx → putMs ms st c = some c' →
    SimW c' p ∧ NoPins c'.bx ∧ BLe c.bx c'.bx ∧ (∀ t, memN (modBoxes ms) t = false → lkB c'.bx t = lkB c.bx t) ∧ ∀ t, memN (modBoxes ms) t = true → ∀ ty cs, lkB s'.bx t = some (.st ty cs) → ∃ ty' cs', lkB c'.bx t = some (.st ty' cs')
  | [], st, c, c', _, hc, hn, h => by injection h with h; subst h; exact ⟨hc, hn, .refl _, fun _ _ => rfl, fun t ht => by cases ht⟩
  | [m], st, c, c', hp, hc, hn, h => by
    have hg : getM s' m = some st := hp
    have h : putM m st c = some c' := h
    obtain ⟨h1, h2, h3, h4⟩ := putM_ok hs' hg hc hn h
    refine ⟨h1, h2, h3, h4, fun t ht ty cs hb => ?_⟩
    obtain ⟨ty', n, rows, rfl⟩ := getM_rw hg ht hb
    simp only [putM] at h
    split at h
    · injection h with h
      subst h
      exact ⟨_, _, by show lkB ((t, _) :: _) t = _; rw [lkB_cons, if_pos rfl]⟩
    · cases h
  | m :: m' :: ms, st, c, c', hp, hc, hn, h => by
    have hp : Option.bind (getM s' m) (fun x => Option.bind (packM s' (m' :: ms)) fun xs => some (x, xs)) = some st := hp
    obtain ⟨x, hg, hp2⟩ := bindS hp
    obtain ⟨xs, hp3, he⟩ := bindS hp2
    injection he with he
    subst he
    have h : (match putMs (m' :: ms) xs c with | some s => putM m x s | none => none) = some c' := h
    split at h
    · rename_i c1 h1
      obtain ⟨k1, k2, k3, k4, k5⟩ := packM_ok hs' hp3 hc hn h1
      obtain ⟨n1, n2, n3, n4⟩ := putM_ok hs' hg k1 k2 h
      refine ⟨n1, n2, k3.trans n3, fun t ht => ?_, fun t ht ty cs hb => ?_⟩
      · rw [modBoxes_cons, Bool.or_eq_false_iff] at ht
        rw [n4 t ht.1, k4 t ht.2]
      · rw [modBoxes_cons, Bool.or_eq_true] at ht
        rcases ht with ht | ht
        · obtain ⟨ty', n, rows, rfl⟩ := getM_rw hg ht hb
          simp only [putM] at h
          split at h
          · injection h with h
            subst h
            exact ⟨_, _, by show lkB ((t, _) :: _) t = _; rw [lkB_cons, if_pos rfl]⟩
          · cases h
        · obtain ⟨ty', cs', h5⟩ := k5 t ht ty cs hb
          exact n3.st t ty' cs' h5
    · cases h
theorem modsOk_spec {s : SS} : ∀ {ms : List Mod}, modsOk wr s ms = true → (∀ m ∈ ms, ∀ i, modKey m = some i → memN wr i = true ∨ ∃ R, memN (modBoxes ms) R = true ∧ lkV s.sl i = .row R) ∧ ∀ t, memN (modBoxes ms) t = true → memN s.pr t = false
  | [], _ => ⟨fun m hm => (by cases hm), fun t ht => (by cases ht)⟩
  | m :: ms, h => by
    have key : modsOk wr s ms = true ∧ (∀ i, modKey m = some i → memN wr i = true ∨ ∃ R, memN (modBoxes [m]) R = true ∧ lkV s.sl i = .row R) ∧ ∀ t, memN (modBoxes [m]) t = true → memN s.pr t = false := by
      cases m with
      | leaf i t =>
        simp only [modsOk] at h
        split at h
        · rename_i hw; exact ⟨h, fun j hj => by injection hj with hj; subst hj; exact .inl hw, fun t ht => by cases ht⟩
        · cases h
      | agg i n =>
        simp only [modsOk] at h
        split at h
        · rename_i hw; exact ⟨h, fun j hj => by injection hj with hj; subst hj; exact .inl hw, fun t ht => by cases ht⟩
        · cases h
      | row i R e k t =>
        simp only [modsOk] at h
        split at h
        · rename_i hp hw
          refine ⟨h, fun j hj => ?_, fun t ht => ?_⟩
          · injection hj with hj
            subst hj
            rw [Bool.or_eq_true] at hw
            rcases hw with hw | hw
            · exact .inl hw
            · unfold isRow at hw
              split at hw
              · rename_i R' hv
                rw [beq_spec] at hw
                have := of_decide_eq_true hw
                subst this
                exact .inr ⟨R', by simp [modBoxes, memN_cons], hv⟩
              · cases hw
          · simp only [modBoxes, memN_cons, memN, Bool.or_false, decide_eq_true_eq] at ht
            subst ht; exact hp
        · cases h
      | box b ty n rows =>
        simp only [modsOk] at h
        split at h
        · rename_i hp hr
          refine ⟨h, fun j hj => (by cases hj), fun t ht => ?_⟩
          simp only [modBoxes, memN_cons, memN_app, memN, Bool.or_false, Bool.or_eq_true, decide_eq_true_eq] at ht
          rcases ht with ht | ht
          · subst ht; exact hp
          · clear h
            induction rows with
            | nil => cases ht
            | cons r rows ih =>
              rw [List.all_cons, Bool.and_eq_true] at hr
              rw [List.map_cons, memN_cons, Bool.or_eq_true] at ht
              rcases ht with ht | ht
              · have := of_decide_eq_true ht
                rw [this]; simpa using hr.1
              · exact ih hr.2 ht
        · cases h
    obtain ⟨h1, h2, h3⟩ := key
    obtain ⟨h4, h5⟩ := modsOk_spec h1
    refine ⟨fun m0 hm i hi => ?_, fun t ht => ?_⟩
    · rcases List.mem_cons.1 hm with rfl | hm
      · rcases h2 i hi with h | ⟨R, h6, h7⟩
        · exact .inl h
        · exact .inr ⟨R, by rw [modBoxes_cons, h6]; rfl, h7⟩
      · rcases h4 m0 hm i hi with h | ⟨R, h6, h7⟩
        · exact .inl h
        · exact .inr ⟨R, by rw [modBoxes_cons, h6]; simp, h7⟩
    · rw [modBoxes_cons, Bool.or_eq_true] at ht
      exact ht.elim (h3 t) (h5 t)
theorem norows_get : ∀ {cs : List SV} (_ : norows cs = true) {j : Nat} {c : SV}, cs[j]? = some c → norow c = true
  | [], _, j, c, h => by simp at h
  | d :: cs, h, j, c, hj => by
    simp only [norows] at h
    split at h
    · rename_i h1
      cases j with
      | zero => simp at hj; subst hj; exact h1
      | succ j => simp at hj; exact norows_get h hj
    · cases h
theorem vsim_norow {B B' : List (Nat × Option SBox)} {v : SV} {q : PV} (h : VSim B v q) : norow v = true → VSim B' v q := by
  induction h with
  | junk q => exact fun _ => .junk q
  | d c y h => exact fun _ => .d c y h
  | ag cs qs hl hr ih => exact fun hs => .ag cs qs hl fun j c q h1 h2 => ih j c q h1 h2 (norows_get hs h1)
  | tup cs qs hl hr ih => exact fun hs => .tup cs qs hl fun j c q h1 h2 => ih j c q h1 h2 (norows_get hs h1)
  | ptr t o ty cs hb => exact fun hs => by cases hs
  | row t n e k ty xs pins hb hn => exact fun hs => by cases hs
  | re t p o n i e k ty xs pins pin hb hn hp hi => exact fun hs => by cases hs
  | vw t lo hi n e k ty xs pins hb hn => exact fun hs => by cases hs
  | fe cs ds h hn => exact fun _ => .fe cs ds h hn
  | fn f ps qs ps' qs' hl hr hl2 hr2 ih ih2 =>
    intro hs
    have hs : (match norows ps with | true => norows qs | false => false) = true := hs
    split at hs
    · rename_i h1
      exact .fn f ps qs ps' qs' hl (fun j c q h2 h3 => ih j c q h2 h3 (norows_get h1 h2)) hl2 (fun j c q h2 h3 => ih2 j c q h2 h3 (norows_get hs h2))
    · cases hs
/-- The state at a head, with what may not be written in the round. -/
def headS (sc wr : List Nat) (ms : List Mod) (s1 : SS) : SS := ⟨s1.sl, s1.bx, (baseS sc wr ms s1).pr, s1.ro, s1.oc⟩
theorem pr_spec (ms : List Mod) (s1 : SS) (t : Nat) : memN (baseS sc wr ms s1).pr t = true ↔ memN (modBoxes ms) t = false ∧ memN sc t = false ∧ ∃ b, lkB s1.bx t = some b ∧ plainBox b = true := by
  show memN (prBoxes (modBoxes ms ++ sc) s1.bx []) t = true ↔ _
  rw [prBoxes_spec, memN_app, Bool.or_eq_false_iff]
  simp [memN, and_assoc]
theorem head_prOk (ms : List Mod) (s1 : SS) : PrOk (headS sc wr ms s1) := fun t ht => ((pr_spec (wr := wr) ms s1 t).1 ht).2.2
theorem base_pr {ms : List Mod} {s1 : SS} {t : Nat} (h : memN (baseS sc wr ms s1).pr t = true) : lkB (baseS sc wr ms s1).bx t = unpinB (lkB s1.bx t) := by
  obtain ⟨_, h2, _⟩ := (pr_spec ms s1 t).1 h
  show lkB (scBx s1.bx sc (keepBx (baseS sc wr ms s1).pr s1.bx [])) t = _
  rw [(scBx_spec s1.bx sc _ t).2 (.inl h2), keepBx_spec, h]
  simp [memN]
theorem base_sc {ms : List Mod} {s1 : SS} {t : Nat} (h : memN sc t = true) {ty : TypeId} {cs : List SV} (hb : lkB s1.bx t = some (.st ty cs)) : lkB (baseS sc wr ms s1).bx t = some (.st ty (junks cs)) :=
  (scBx_spec s1.bx sc _ t).1 h ty cs hb
theorem base_cases {ms : List Mod} {s1 : SS} {t : Nat} {b : SBox} (h : lkB (baseS sc wr ms s1).bx t = some b) : memN (baseS sc wr ms s1).pr t = true ∨ memN sc t = true ∧ ∃ ty cs, lkB s1.bx t = some (.st ty cs) := by
  by_cases h1 : memN sc t = true ∧ ∃ ty cs, lkB s1.bx t = some (.st ty cs)
  · exact .inr h1
  · left
    have h2 : memN sc t = false ∨ ∀ ty cs, lkB s1.bx t ≠ some (.st ty cs) := by
      by_cases h3 : memN sc t = true
      · exact .inr fun ty cs h4 => h1 ⟨h3, ty, cs, h4⟩
      · exact .inl (by simpa using h3)
    have h : lkB (scBx s1.bx sc (keepBx (baseS sc wr ms s1).pr s1.bx [])) t = some b := h
    rw [(scBx_spec s1.bx sc _ t).2 h2, keepBx_spec] at h
    cases h4 : memN (baseS sc wr ms s1).pr t with
    | true => rfl
    | false => rw [h4] at h; simp [memN] at h
/-- **Where ways meet.** -/
theorem meet_ok {ms : List Mod} {s1 s' : SS} {p1 p' : PS} {st : modsT ms} {s2 : SS} (hs1 : SimW s1 p1) (hchk : modChk sc wr ms s1.pr s1 = true) (hk : Keep sc wr (headS sc wr ms s1) s') (hs' : SimW s' p') (hpk : packM s' ms = some st) (hput : putMs ms st (baseS sc wr ms s1) = some s2) :
    SimW s2 p' ∧ Keep sc wr (headS sc wr ms s1) s2 ∧ s2.pr = (baseS sc wr ms s1).pr := by
  unfold modChk at hchk
  simp only [Bool.and_eq_true] at hchk
  obtain ⟨c1, c2, c3, c4⟩ := hchk
  obtain ⟨o1, o2⟩ := modsOk_spec c1
  have hscm := disjN_spec c3
  obtain ⟨X, bx2, rfl, hX, hkeys⟩ := putMs_sl (show putMs ms st ⟨(baseS sc wr ms s1).sl, (baseS sc wr ms s1).bx, (baseS sc wr ms s1).pr, (baseS sc wr ms s1).ro, (baseS sc wr ms s1).oc⟩ = some s2 from hput)
  have hX0 := hX []
  rw [List.append_nil] at hX0
  -- the boxes of the base
  have hsame : ∀ t, memN (baseS sc wr ms s1).pr t = true → SameB (lkB s1.bx t) (lkB s'.bx t) := hk.bx
  have hbx : BxOk (baseS sc wr ms s1).bx p' := by
    intro t b hb
    rcases base_cases hb with h | ⟨h, ty, cs, h1⟩
    · obtain ⟨_, _, b1, h2, h3⟩ := (pr_spec ms s1 t).1 h
      have h4 := hsame t h
      rw [base_pr h, h2] at hb
      rw [h2] at h4
      cases b1 with
      | st ty cs =>
        injection hb with hb
        subst hb
        obtain ⟨qs, h5, h6⟩ := hs'.bx t _ h4
        exact ⟨qs, h5, h6.len, fun j c q m1 m2 => vsim_norow (h6.rep j c q m1 m2) (norows_get h3 m1)⟩
      | rw e k ty xs pins =>
        injection hb with hb
        subst hb
        obtain ⟨pins', h4⟩ := h4
        exact ⟨(hs'.bx t _ h4).1, fun p pin hp => by cases hp⟩
    · rw [base_sc h h1] at hb
      injection hb with hb
      subst hb
      obtain ⟨cs', h2, h3⟩ := hk.st t h ty cs h1
      obtain ⟨qs, h4, h5⟩ := hs'.bx t _ h2
      refine ⟨qs, h4, by rw [junks_len, ← h3]; exact h5.len, fun j c q m1 m2 => ?_⟩
      rw [junks_get cs j c m1]
      exact .junk q
  have hnp : NoPins (baseS sc wr ms s1).bx := by
    intro t e k ty xs pins hb
    rcases base_cases hb with h | ⟨h, ty2, cs, h1⟩
    · rw [base_pr h] at hb
      cases hl : lkB s1.bx t with
      | none => rw [hl] at hb; cases hb
      | some b =>
        rw [hl] at hb
        cases b with
        | st => cases hb
        | rw e2 k2 ty2 xs2 pins2 =>
          injection hb with hb
          injection hb with q1 q2 q3 q4 q5
          exact q5.symm
    · rw [base_sc h h1] at hb; cases hb
  have hc0 : SimW ⟨[], (baseS sc wr ms s1).bx, (baseS sc wr ms s1).pr, (baseS sc wr ms s1).ro, (baseS sc wr ms s1).oc⟩ p' := ⟨fun i => .junk _, hbx⟩
  obtain ⟨k1, k2, k3, k4, k5⟩ := packM_ok hs' hpk hc0 hnp hX0
  have k4 : ∀ t, memN (modBoxes ms) t = false → lkB bx2 t = lkB (baseS sc wr ms s1).bx t := k4
  have hprm : ∀ t, memN (baseS sc wr ms s1).pr t = true → memN (modBoxes ms) t = false := fun t ht => ((pr_spec ms s1 t).1 ht).1
  have hkb : ∀ t, memN (modBoxes ms ++ (scLive s1.bx sc ++ (baseS sc wr ms s1).pr)) t = true → ∀ ty cs, lkB s'.bx t = some (.st ty cs) → ∃ ty' cs', lkB bx2 t = some (.st ty' cs') := by
    intro t ht ty cs hb
    rw [memN_app, memN_app, Bool.or_eq_true, Bool.or_eq_true] at ht
    rcases ht with ht | ht | ht
    · exact k5 t ht ty cs hb
    · obtain ⟨h1, ty2, cs2, h2⟩ := (scLive_spec s1.bx sc t).1 ht
      rw [k4 t (hscm t h1), base_sc h1 h2]
      exact ⟨_, _, rfl⟩
    · rw [k4 t (hprm t ht), base_pr ht]
      have h1 := hsame t ht
      obtain ⟨_, _, b1, h2, h3⟩ := (pr_spec ms s1 t).1 ht
      rw [h2] at h1 ⊢
      cases b1 with
      | st ty2 cs2 => exact ⟨_, _, rfl⟩
      | rw e k ty2 xs pins =>
        obtain ⟨pins', h1⟩ := h1
        rw [h1] at hb
        cases hb
  have hbase : ∀ i, lkV (baseS sc wr ms s1).sl i = if memN wr i = true then .junk else if safe (baseS sc wr ms s1).pr (modBoxes ms ++ (scLive s1.bx sc ++ (baseS sc wr ms s1).pr)) (lkV s1.sl i) = true then lkV s1.sl i else .junk := fun i => by
    show lkV (keepSl wr (baseS sc wr ms s1).pr (modBoxes ms ++ (scLive s1.bx sc ++ (baseS sc wr ms s1).pr)) s1.sl []) i = _
    rw [keepSl_spec]
    simp [memN]
  refine ⟨⟨fun i => ?_, k1.bx⟩, ⟨rfl, rfl, fun t ht => ?_, fun i hi hsf => ?_, fun t ht ty cs hb => ?_⟩, rfl⟩
  · show VSim bx2 (lkV (X ++ (baseS sc wr ms s1).sl) i) (p'.t i)
    rw [lkV_app]
    split
    · exact k1.sl i
    · rw [hbase]
      split
      · exact .junk _
      · rename_i hw
        split
        · rename_i hsf
          have e := hk.sl i (by simpa using hw) (safe_K (fun t h => h) _ hsf)
          have h1 := hs'.sl i
          rw [e] at h1
          refine vsim_safe (fun t ht e k ty xs pins hb => ?_) hkb h1 hsf
          rw [k4 t (hprm t ht), base_pr ht]
          have h2 := hsame t ht
          obtain ⟨_, _, b1, h3, h4⟩ := (pr_spec ms s1 t).1 ht
          rw [h3] at h2 ⊢
          cases b1 with
          | st ty2 cs2 => have h2 : lkB s'.bx t = some (.st ty2 cs2) := h2; rw [h2] at hb; cases hb
          | rw e2 k2 ty2 xs2 pins2 =>
            obtain ⟨pins', h2⟩ := h2
            rw [h2] at hb
            injection hb with hb
            injection hb with q1 q2 q3 q4 q5
            subst q3
            have q4 := eq_of_heq q4
            subst q4
            exact ⟨_, _, _, _, _, rfl, rfl⟩
        · exact .junk _
  · show SameB (lkB s1.bx t) (lkB bx2 t)
    have ht : memN (baseS sc wr ms s1).pr t = true := ht
    rw [k4 t (hprm t ht), base_pr ht]
    match lkB s1.bx t with
    | none => rfl
    | some (.st _ _) => rfl
    | some (.rw _ _ _ _ _) => exact ⟨[], rfl⟩
  · show lkV (X ++ (baseS sc wr ms s1).sl) i = lkV s1.sl i
    have hsf : safeK (baseS sc wr ms s1).pr (lkV s1.sl i) = true := hsf
    rw [lkV_app, if_neg, hbase, if_neg (by simp [hi]), if_pos]
    · refine safeK_safe (fun t h => h) (fun t ty cs hb => ?_) (hs1.sl i) hsf
      rw [memN_app, memN_app, Bool.or_eq_true, Bool.or_eq_true]
      rcases keptAll_spec _ _ _ _ c4 t ty cs rfl hb with h | h | h
      · exact .inl h
      · exact .inr (.inl ((scLive_spec s1.bx sc t).2 ⟨h, ty, cs, hb⟩))
      · by_cases hm : memN (modBoxes ms) t = true
        · exact .inl hm
        · by_cases hsc : memN sc t = true
          · exact .inr (.inl ((scLive_spec s1.bx sc t).2 ⟨hsc, ty, cs, hb⟩))
          · exact .inr (.inr ((pr_spec ms s1 t).2 ⟨by simpa using hm, by simpa using hsc, _, hb, h⟩))
    · intro hX1
      obtain ⟨m, hm, hkey⟩ := hkeys i hX1
      rcases o1 m hm i hkey with h | ⟨R, h1, h2⟩
      · rw [h] at hi; cases hi
      · rw [h2] at hsf
        have hsf : memN (baseS sc wr ms s1).pr R = true := hsf
        rw [hprm R hsf] at h1
        cases h1
  · show ∃ cs', lkB bx2 t = _ ∧ _
    rw [k4 t (hscm t ht), base_sc ht (show lkB s1.bx t = _ from hb)]
    exact ⟨_, rfl, junks_len cs⟩
end Go.Proofs.Ytjeeclabnimbbaa

/- The typed executor: what it makes of a function's code, the code does. -/
namespace Go.Proofs.Ytjeeclabnimbbaa
open Go.RowKit

/-! ### Results -/
theorem resX_ok {P : Program} {s : SS} {p : PS} (hs : Sim s p) : ∀ {l : List ResultVar} {vs : List SV}, resX P s l = some vs → ∃ qs, l.mapM (resP P p) = some qs ∧ CSim s.bx vs qs
  | [], vs, h => by injection h with h; subst h; exact ⟨[], rfl, .nil⟩
  | .tmp t :: l, vs, h => by
    simp only [resX] at h
    split at h
    · rename_i vs' h1
      injection h with h
      subst h
      obtain ⟨qs, h2, h3⟩ := resX_ok hs h1
      exact ⟨p.t t :: qs, by simp [List.mapM_cons, resP, h2], .cons (hs.sl t) h3⟩
    · cases h
  | .cell t ty :: l, vs, h => by
    simp only [resX] at h
    split at h
    · rename_i v vs' h0 h1
      injection h with h
      subst h
      obtain ⟨qs, h2, h3⟩ := resX_ok hs h1
      obtain ⟨r, h4, h5⟩ := loadX_ok hs (hs.sl t) h0
      exact ⟨r :: qs, by simp [List.mapM_cons, resP, h4, h2], .cons h5 h3⟩
    · cases h
theorem decRs_ok {s : SS} {p : PS} (hs : Sim s p) : ∀ {rs : List PT} {vs : List SV} {qs : List PV} {x : densR rs}, CSim s.bx vs qs → decRs s rs vs = some x → asDatas p.b qs = toRs rs x
  | [], [], qs, x, hv, h => by
    rcases hv.cases with ⟨_, rfl⟩ | ⟨_, _, _, _, h1, _⟩
    · rfl
    · cases h1
  | [], _ :: _, _, x, _, h => noneN (x := x) h
  | [t], [], _, x, _, h => noneN (x := x) h
  | [t], [v], qs, x, hv, h => by
    rcases hv.cases with ⟨h1, _⟩ | ⟨v', q, vs', qs', h1, rfl, h2, h3⟩
    · cases h1
    · injection h1 with e1 e2
      subst e1 e2
      rcases h3.cases with ⟨_, rfl⟩ | ⟨_, _, _, _, h4, _⟩
      · have := (decA_ok hs h2 (show decA s t v = some x from h)).1
        simp only [asDatas, toRs, this]
      · cases h4
  | [t], _ :: _ :: _, _, x, _, h => noneN (x := x) h
  | t :: t' :: rs, [], _, x, _, h => noneN (x := x) h
  | t :: t' :: rs, v :: vs, qs, x, hv, h => by
    rcases hv.cases with ⟨h1, _⟩ | ⟨v', q, vs', qs', h1, rfl, h2, h3⟩
    · cases h1
    · injection h1 with e1 e2
      subst e1 e2
      have h : Option.bind (decA s t v) (fun x => Option.bind (decRs s (t' :: rs) vs) fun xs => some (x, xs)) = some x := h
      obtain ⟨y, h4, h5⟩ := bindS h
      obtain ⟨ys, h6, h7⟩ := bindS h5
      injection h7 with h7
      subst h7
      simp only [asDatas, toRs, (decA_ok hs h2 h4).1, decRs_ok hs h3 h6]
theorem decRs_len {s : SS} : ∀ {rs : List PT} {vs : List SV} {x : densR rs}, decRs s rs vs = some x → vs.length = rs.length
  | [], [], x, _ => rfl
  | [], _ :: _, x, h => noneN (x := x) h
  | [t], [], x, h => noneN (x := x) h
  | [t], [v], x, _ => rfl
  | [t], _ :: _ :: _, x, h => noneN (x := x) h
  | t :: t' :: rs, [], x, h => noneN (x := x) h
  | t :: t' :: rs, v :: vs, x, h => by
    have h : Option.bind (decA s t v) (fun x => Option.bind (decRs s (t' :: rs) vs) fun xs => some (x, xs)) = some x := h
    obtain ⟨y, h4, h5⟩ := bindS h
    obtain ⟨ys, h6, h7⟩ := bindS h5
    simp only [List.length_cons, decRs_len h6]
theorem mapM_len {α β : Type} {f : α → Option β} : ∀ {l : List α} {r : List β}, l.mapM f = some r → r.length = l.length
  | [], r, h => by simp at h; subst h; rfl
  | a :: l, r, h => by
    simp only [List.mapM_cons, Option.bind_eq_bind, Option.pure_def] at h
    cases hx : f a with
    | none => simp [hx] at h
    | some b =>
      cases hl : l.mapM f with
      | none => simp [hx, hl] at h
      | some bs =>
        simp [hx, hl] at h
        subst h
        simp [mapM_len hl]
theorem kretP_ok {C : Cx} {fn : Func} (hv : fn.results.toList = C.vars) {s : SS} {p : PS} (hs : Sim (clr s) p) {r : densR C.rs} (hM : anyM C.rs = false) (h : kretX C s = some r) : ∃ q, resAll C.P fn p = some q ∧ asData p.b q = toR C.rs r := by
  unfold kretX at h
  rw [hM] at h
  simp only at h
  split at h
  · rename_i vs hvs
    obtain ⟨qs, h1, h2⟩ := resX_ok hs hvs
    have h3 := decRs_ok hs h2 h
    have h4 := decRs_len h
    have h5 := h2.len
    unfold resAll
    rw [hv, h1]
    match qs, h3, h5 with
    | [], h3, h5 =>
      refine ⟨.tup [], rfl, ?_⟩
      rcases toR_cases C.rs r with ⟨q, k1, _⟩ | k1
      · rw [k1] at h3; simp [asDatas] at h3
      · rw [k1, ← h3]; rfl
    | [q], h3, h5 =>
      refine ⟨q, rfl, ?_⟩
      have : C.rs.length = 1 := by rw [← h4, h5]; rfl
      rcases toR_cases C.rs r with ⟨q', k1, k2⟩ | k1
      · rw [k1] at h3
        rw [k2]
        simpa [asDatas] using h3
      · exfalso
        match C.rs, r, this, k1 with
        | [t], r, _, k1 => cases t <;> simp [toR, toPV] at k1
    | q :: q' :: qs, h3, h5 =>
      refine ⟨.tup (q :: q' :: qs), rfl, ?_⟩
      rcases toR_cases C.rs r with ⟨q2, k1, _⟩ | k1
      · rw [k1] at h3; simp [asDatas] at h3
      · rw [k1, ← h3]; rfl
  · cases h

/-! ### Boxes -/
theorem outOf_join : ∀ (rs : List PT) (o : outT (ioOf rs)) (r : densR (rsOf rs)), outOf rs (joinR rs o r) = o ∧ resOf rs (joinR rs o r) = r
  | [], _, _ => ⟨rfl, rfl⟩
  | [.io _], _, _ => ⟨rfl, rfl⟩
  | .io _ :: _ :: _, _, _ => ⟨rfl, rfl⟩
  | .own .. :: _, _, _ => ⟨rfl, rfl⟩
  | .mv .. :: _, _, _ => ⟨rfl, rfl⟩
  | .bx .. :: _, _, _ => ⟨rfl, rfl⟩
  | .agr .. :: _, _, _ => ⟨rfl, rfl⟩
  | .lf _ :: _, _, _ => ⟨rfl, rfl⟩
  | .ag _ :: _, _, _ => ⟨rfl, rfl⟩
  | .pl _ :: _, _, _ => ⟨rfl, rfl⟩
  | .ps _ :: _, _, _ => ⟨rfl, rfl⟩
  | .fn .. :: _, _, _ => ⟨rfl, rfl⟩
/-- What the boxes are that a function was handed. -/
def boI (i : Nat) : (b : IB) → List Nat → b.den → BU
  | .no, _, _ => []
  | .own e k t, _, xs => [(inId i, rwU e k t xs)]
  | .bx ty n rows, js, x => (inId i, .st ty (pvCells (zipR rows js) 0 (stD n x))) :: puCells (zipR rows js) 0 (stD n x)
def boIs : Nat → (ls : List IB) → List (List Nat) → outT ls → BU
  | i, b :: ls, js :: kss, o => boI i b js o.1 ++ boIs (i + 1) ls kss o.2
  | _, _, _, _ => []
/-- How a function ends that answers r. -/
def RetOk (C : Cx) (fn : Func) (p : PS) (r : densR C.rs) : Prop :=
  (anyM C.rs = false → ∃ q, resAll C.P fn p = some q ∧ asData p.b q = toR C.rs r) ∧
  (anyM C.rs = true → ∃ kss jss, shapeIO (ioOf C.rs) kss ∧ shapeOk (rsOf C.rs) jss ∧ (keptK 0 (ioOf C.rs) ++ (flatN kss ++ flatN jss)).Nodup ∧ (∃ q, resAll C.P fn p = some q ∧ nrmP q = oneP (toRIs (rsOf C.rs) jss (resOf C.rs r)).1) ∧
    ∀ t Bx, (t, Bx) ∈ boIs 0 (ioOf C.rs) kss (outOf C.rs r) ++ (toRIs (rsOf C.rs) jss (resOf C.rs r)).2 → ∃ B', p.b t = some B' ∧ nrmB B' = Bx)
theorem pu_nrm {rows : List (Nat × Nat × Nat × Nat × Ty)} {t : Nat} {Bx : Box} : ∀ {ds : List D} {j : Nat}, (t, Bx) ∈ puCells rows j ds → nrmB Bx = Bx
  | [], j, h => by cases h
  | d :: ds, j, h => by
    simp only [puCells] at h
    split at h
    · split at h
      · rcases List.mem_cons.1 h with e | h
        · injection e with _ e; subst e; rfl
        · exact pu_nrm h
      · exact pu_nrm h
    · exact pu_nrm h
theorem decB_ok {s : SS} {p : PS} (hs : Sim s p) {i : Nat} {b : IB} {o : b.den} {js : List Nat} (h : decB s i b = some (o, js)) : js.length = b.nJ ∧ ∀ t Bx, (t, Bx) ∈ boI i b js o → ∃ B', p.b t = some B' ∧ nrmB B' = Bx := by
  cases b with
  | no =>
    injection h with h
    injection h with _ h
    subst h
    exact ⟨rfl, fun _ _ h => by cases h⟩
  | own e k t =>
    simp only [decB] at h
    split at h
    · rename_i xs is hd
      injection h with h
      injection h with e1 e2
      subst e1 e2
      refine ⟨rfl, fun t' Bx hm => ?_⟩
      have hbx := hs.bx (inId i)
      unfold decRow at hd
      simp only at hd
      split at hd
      · rename_i e' k' t2 xs' pins hb
        split at hd
        · rename_i hty _
          obtain ⟨m2, hd⟩ := chk_some hd
          obtain ⟨m3, hd⟩ := chk_some hd
          injection hd with hd
          injection hd with e1 e2
          subst e1 hty
          have m2 := of_decide_eq_true m2
          have m3 := of_decide_eq_true m3
          subst m2 m3
          rw [hb] at hbx
          simp only [boI, List.mem_cons, List.not_mem_nil, or_false, Prod.mk.injEq] at hm
          obtain ⟨rfl, rfl⟩ := hm
          exact ⟨_, hbx.1, rfl⟩
        · cases hd
      · cases hd
    · cases h
  | bx ty n rows =>
    simp only [decB] at h
    split at h
    · rename_i ty' cs hb
      obtain ⟨m1, h⟩ := chk_some h
      have m1 := of_decide_eq_true m1
      subst m1
      have hbx := hs.bx (inId i)
      rw [hb] at hbx
      obtain ⟨qs, k1, k2⟩ := hbx
      obtain ⟨k3, k4, k5⟩ := decSt_ok hs k2 h
      refine ⟨k3, fun t Bx hm => ?_⟩
      rcases List.mem_cons.1 hm with e | hm
      · injection e with e1 e2
        subst e1 e2
        exact ⟨_, k1, by rw [nrmB, k4]⟩
      · exact ⟨_, k5 t Bx hm, pu_nrm hm⟩
    · cases h
theorem decIO_ok {s : SS} {p : PS} (hs : Sim s p) : ∀ {ls : List IB} {i : Nat} {o : outT ls} {kss : List (List Nat)}, decIO s i ls = some (o, kss) → shapeIO ls kss ∧ ∀ t Bx, (t, Bx) ∈ boIs i ls kss o → ∃ B', p.b t = some B' ∧ nrmB B' = Bx
  | [], i, o, kss, h => by
    injection h with h
    injection h with _ h
    subst h
    exact ⟨trivial, fun _ _ h => by cases h⟩
  | b :: ls, i, o, kss, h => by
    simp only [decIO] at h
    split at h
    · rename_i o1 js os kss' h1 h2
      injection h with h
      injection h with e1 e2
      subst e1 e2
      obtain ⟨k1, k2⟩ := decB_ok hs h1
      obtain ⟨k3, k4⟩ := decIO_ok hs h2
      refine ⟨⟨k1, k3⟩, fun t Bx hm => ?_⟩
      rcases List.mem_append.1 hm with hm | hm
      · exact k2 t Bx hm
      · exact k4 t Bx hm
    · cases h
theorem decRes_ok {s : SS} {p : PS} (hs : Sim s p) : ∀ {rs : List PT} {vs : List SV} {qs : List PV} {x : densR rs} {jss : List (List Nat)}, CSim s.bx vs qs → decRes s rs vs = some (x, jss) →
    shapeOk rs jss ∧ nrmPs qs = (toRIs rs jss x).1 ∧ ∀ t Bx, (t, Bx) ∈ (toRIs rs jss x).2 → ∃ B', p.b t = some B' ∧ nrmB B' = Bx
  | [], [], qs, x, jss, hv, h => by
    rcases hv.cases with ⟨_, rfl⟩ | ⟨_, _, _, _, h1, _⟩
    · injection h with h
      injection h with _ h
      subst h
      exact ⟨trivial, rfl, fun _ _ h => by cases h⟩
    · cases h1
  | [], _ :: _, _, x, jss, _, h => noneN (x := (x, jss)) h
  | [pt], [], _, x, jss, _, h => noneN (x := (x, jss)) h
  | [pt], [v], qs, x, jss, hv, h => by
    rcases hv.cases with ⟨h1, _⟩ | ⟨v', q, vs', qs', h1, rfl, h2, h3⟩
    · cases h1
    · injection h1 with e1 e2
      subst e1 e2
      rcases h3.cases with ⟨_, rfl⟩ | ⟨_, _, _, _, h4, _⟩
      · have h : (match decI s pt v with | some (x, is) => some (x, [is]) | none => none) = some (x, jss) := h
        split at h
        · rename_i y is hd
          injection h with h
          injection h with e1 e2
          subst e1 e2
          obtain ⟨k1, k2, k3⟩ := decI_ok hs h2 hd
          exact ⟨⟨k1, trivial⟩, by simp only [nrmPs, toRIs, k2], k3⟩
        · cases h
      · cases h4
  | [pt], _ :: _ :: _, _, x, jss, _, h => noneN (x := (x, jss)) h
  | pt :: q :: l, [], _, x, jss, _, h => noneN (x := (x, jss)) h
  | pt :: q :: l, v :: vs, qs, x, jss, hv, h => by
    rcases hv.cases with ⟨h1, _⟩ | ⟨v', qv, vs', qs', h1, rfl, h2, h3⟩
    · cases h1
    · injection h1 with e1 e2
      subst e1 e2
      have h : (match decI s pt v, decRes s (q :: l) vs with | some (x, is), some (xs, iss) => some ((x, xs), is :: iss) | _, _ => none) = some (x, jss) := h
      split at h
      · rename_i y is ys iss hd hr
        injection h with h
        injection h with e1 e2
        subst e1 e2
        obtain ⟨k1, k2, k3⟩ := decI_ok hs h2 hd
        obtain ⟨k4, k5, k6⟩ := decRes_ok hs h3 hr
        refine ⟨⟨k1, k4⟩, by simp only [nrmPs, toRIs, k2, k5], fun t Bx hm => ?_⟩
        rcases List.mem_append.1 hm with hm | hm
        · exact k3 t Bx hm
        · exact k6 t Bx hm
      · cases h
theorem resAll_one {P : Program} {fn : Func} {p : PS} {qs : List PV} (h : fn.results.toList.mapM (resP P p) = some qs) : resAll P fn p = some (oneP qs) := by
  unfold resAll
  rw [h]
  match qs with
  | [] => rfl
  | [q] => rfl
  | q :: q' :: qs => rfl
theorem nrm_one (qs : List PV) : nrmP (oneP qs) = oneP (nrmPs qs) := by
  match qs with
  | [] => rfl
  | [q] => rfl
  | q :: q' :: qs => rfl
theorem kret_ok {C : Cx} {fn : Func} (hv : fn.results.toList = C.vars) {s : SS} {p : PS} (hpr : PrOk (clr s)) (hs : Sim (clr s) p) {r : densR C.rs} (h : kretX C s = some r) : ∃ p', Le p p' ∧ RetOk C fn p' r := by
  cases hM : anyM C.rs with
  | false => exact ⟨p, .refl p, fun _ => kretP_ok hv hs hM h, fun e => by rw [hM] at e; cases e⟩
  | true =>
    unfold kretX at h
    rw [hM] at h
    simp only [kretM] at h
    split at h
    · split at h
      · rename_i s1 hf
        obtain ⟨p1, k1, k2, _, _⟩ := frzAll_sim (sc := C.sc) hpr hs hf
        split at h
        · rename_i ws hws
          obtain ⟨qs, k3, k4⟩ := resX_ok k2 hws
          split at h
          · rename_i o kss r' jss ho hr
            obtain ⟨hn, h⟩ := chk_some h
            injection h with h
            obtain ⟨e1, e2⟩ := outOf_join C.rs o r'
            rw [h] at e1 e2
            obtain ⟨m1, m2⟩ := decIO_ok k2 ho
            obtain ⟨m3, m4, m5⟩ := decRes_ok k2 k4 hr
            refine ⟨p1, k1, fun e => (by rw [hM] at e; cases e), fun _ => ⟨kss, jss, m1, m3, nodupN_spec hn, ⟨_, resAll_one (by rw [hv]; exact k3), by rw [nrm_one, m4, e2]⟩, fun t Bx hm => ?_⟩⟩
            rw [e1, e2] at hm
            rcases List.mem_append.1 hm with hm | hm
            · exact m2 t Bx hm
            · exact m5 t Bx hm
          · cases h
        · cases h
      · cases h
    · cases h

/-! ### The code -/
/-- How code ends that the executor takes to res. -/
def PostE (C : Cx) (fn : Func) (W : List Nat) (s : SS) {ρ : Type} (k : Exit → SS → Option ρ) (kr : densR C.rs → Option ρ) (res : ρ) : Exit → PS → Prop
  | .ret, p' => ∃ r, RetOk C fn p' r ∧ kr r = some res
  | e, p' => ∃ s', SimW s' p' ∧ Keep C.sc W s s' ∧ k e s' = some res
theorem memN_of {a b : List Nat} {i : Nat} (h : memN a i = true) : memN (a ++ b) i = true := by rw [memN_app, h]; rfl
theorem memN_of' {a b : List Nat} {i : Nat} (h : memN b i = true) : memN (a ++ b) i = true := by rw [memN_app, h]; simp
variable {C : Cx} {fn : Func}
theorem postE_e {W : List Nat} {s : SS} {ρ : Type} {k : Exit → SS → Option ρ} {kr : densR C.rs → Option ρ} {res : ρ} {e : Exit} {p : PS} (he : e ≠ .ret) (h : PostE C fn W s k kr res e p) : ∃ s', SimW s' p ∧ Keep C.sc W s s' ∧ k e s' = some res := by
  cases e <;> first | exact h | exact absurd rfl he
theorem postE_mk {W : List Nat} {s s' : SS} {ρ : Type} {k : Exit → SS → Option ρ} {kr : densR C.rs → Option ρ} {res : ρ} {e : Exit} {p : PS} (he : e ≠ .ret) (h1 : SimW s' p) (h2 : Keep C.sc W s s') (h3 : k e s' = some res) : PostE C fn W s k kr res e p := by
  cases e <;> first | exact ⟨s', h1, h2, h3⟩ | exact absurd rfl he
/-- That a body does what the executor takes it to. -/
def Does (C : Cx) (fn : Func) (c : Code) (W : List Nat) (body : (ρ : Type) → SS → (Exit → SS → Option ρ) → (densR C.rs → Option ρ) → Option ρ) : Prop :=
  ∀ (ρ : Type) (s : SS) (p : PS) (k : Exit → SS → Option ρ) (kr : densR C.rs → Option ρ) (res : ρ), PrOk s → SimW s p → body ρ s k kr = some res → PWP C.P C.n c (PostE C fn W s k kr res) p
theorem pr_sub {wr : List Nat} {ms : List Mod} {s s1 : SS} (hpr : PrOk s) (hk : Keep C.sc wr s s1) (hchk : modChk C.sc wr ms s.pr s1 = true) : ∀ t, memN s.pr t = true → memN (baseS C.sc wr ms s1).pr t = true := by
  intro t ht
  unfold modChk at hchk
  simp only [Bool.and_eq_true] at hchk
  obtain ⟨c1, c2, c3, c4⟩ := hchk
  rw [pr_spec]
  refine ⟨?_, ?_, hk.prOk hpr t (by rw [hk.pr]; exact ht)⟩
  · cases hm : memN (modBoxes ms) t with
    | false => rfl
    | true =>
      have := (modsOk_spec c1).2 t hm
      rw [hk.pr, ht] at this
      cases this
  · cases hm : memN C.sc t with
    | false => rfl
    | true =>
      have := disjN_spec c2 t hm
      rw [ht] at this
      cases this
mutual
theorem safeK_mono {pr pr' : List Nat} (h : ∀ t, memN pr t = true → memN pr' t = true) : ∀ v : SV, safeK pr v = true → safeK pr' v = true
  | .junk, _ => rfl
  | .d _, _ => rfl
  | .fe _, _ => rfl
  | .ptr _ _, _ => rfl
  | .row t, hs => h t hs
  | .re _ _ _, hs => by cases hs
  | .vw _ _ _, hs => by cases hs
  | .ag cs, hs => by simp only [safeK] at hs ⊢; exact safesK_mono h cs hs
  | .tup cs, hs => by simp only [safeK] at hs ⊢; exact safesK_mono h cs hs
  | .fn f ps qs, hs => by simp only [safeK, Bool.and_eq_true] at hs ⊢; exact ⟨safesK_mono h ps hs.1, safesK_mono h qs hs.2⟩
theorem safesK_mono {pr pr' : List Nat} (h : ∀ t, memN pr t = true → memN pr' t = true) : ∀ cs : List SV, safesK pr cs = true → safesK pr' cs = true
  | [], _ => rfl
  | c :: cs, hs => by
    simp only [safesK, Bool.and_eq_true] at hs ⊢
    exact ⟨safeK_mono h c hs.1, safesK_mono h cs hs.2⟩
end
theorem keep_outer {wr : List Nat} {ms : List Mod} {s s1 s2 : SS} {oc : List Nat} (hk : Keep C.sc wr s s1) (hsub : ∀ t, memN s.pr t = true → memN (baseS C.sc wr ms s1).pr t = true) (hk2 : Keep C.sc wr (headS C.sc wr ms s1) s2) : Keep C.sc wr s ⟨s2.sl, s2.bx, s.pr, s.ro, oc⟩ := by
  refine ⟨rfl, rfl, fun t ht => (hk.bx t ht).trans (hk2.bx t (hsub t ht)), fun i hi hsf => ?_, fun t ht ty cs hb => ?_⟩
  · have e := hk.sl i hi hsf
    have := hk2.sl i hi (safeK_mono hsub _ (by show safeK s.pr (lkV s1.sl i) = true; rw [e]; exact hsf))
    exact this.trans e
  · obtain ⟨cs1, h1, h2⟩ := hk.st t ht ty cs hb
    obtain ⟨cs2, h3, h4⟩ := hk2.st t ht ty cs1 h1
    exact ⟨cs2, h3, h4.trans h2⟩
theorem prOk_clr {s : SS} (h : PrOk s) : PrOk (clr s) := h
theorem keep_clr {W : List Nat} {s s' : SS} (h : Keep C.sc W (clr s) s') : Keep C.sc W s s' := ⟨h.pr, h.ro, h.bx, h.sl, h.st⟩
theorem withJ_ok {c : Code} {wr : List Nat} {h : Hint} {body : (ρ : Type) → SS → (Exit → SS → Option ρ) → (densR C.rs → Option ρ) → Option ρ} (hb : Does C fn c wr body) : Does C fn c wr (withJ C wr h body) := by
  intro ρ s p k kr res hpr hs hx
  unfold withJ at hx
  split at hx
  · rename_i ms h'
    split at hx
    · cases hx
    · rename_i s1 hnil
      obtain ⟨hchk, hx⟩ := chk_some hx
      obtain ⟨st, h1, h2⟩ := bindS hx
      split at h2
      · rename_i s2 hput
        refine pwp_le (le_cut hs) ?_
        obtain ⟨p2, k1, k2, k3, k4⟩ := nilM_ok (sc := C.sc) (s := clr s) rfl (prOk_clr hpr) (simW_cut hs) hnil
        refine pwp_le k1 ?_
        have hk1 : Keep C.sc wr s s1 := keep_clr k3
        have hw : SimW (headS C.sc wr ms s1) p2 := ⟨k2.w.sl, k2.w.bx⟩
        refine pwp_conseq (hb _ (headS C.sc wr ms s1) p2 _ _ st (head_prOk ms s1) hw h1) fun e p' hq => ?_
        by_cases he : e = .ret
        · subst he
          obtain ⟨r, _, h⟩ := hq
          cases h
        · obtain ⟨s', m1, m2, m3⟩ := postE_e he hq
          cases e with
          | normal =>
            have m3 : packF ms s' = some st := m3
            unfold packF at m3
            split at m3
            · rename_i s'' hf
              obtain ⟨p'', n1, n2, n3⟩ := frzAll_ok (sc := C.sc) (m2.prOk (head_prOk ms s1)) m1 hf
              have hchk' : modChk C.sc wr ms s1.pr s1 = true := by rw [hk1.pr]; exact hchk
              obtain ⟨o1, o2, o3⟩ := meet_ok k2.w hchk' (m2.trans (n3 wr)) n2 m3 hput
              exact ⟨p'', n1, ⟨s2.sl, s2.bx, s.pr, s.ro, s.oc⟩, ⟨o1.sl, o1.bx⟩, keep_outer hk1 (pr_sub hpr hk1 hchk) o2, h2⟩
            · cases m3
          | ret => exact absurd rfl he
          | _ => cases m3
      · cases h2
  · exact hb ρ s p k kr res hpr hs hx
end Go.Proofs.Ytjeeclabnimbbaa

/- The typed executor: a function's contract. -/
namespace Go.Proofs.Ytjeeclabnimbbaa
open Go.RowKit

variable {C : Cx} {fn : Func}
theorem stOk_spec : ∀ {l : List Oper}, stOk l = true → ∀ o ∈ l, ∀ t x y, o.op = .store t x y → o.dst = none
  | [], _, o, ho, _, _, _, _ => by cases ho
  | x :: l, h, o, ho, t, a, b, hop => by
    simp only [stOk] at h
    rcases List.mem_cons.1 ho with rfl | ho
    · cases hd : o.dst with
      | none => rfl
      | some d => rw [hop, hd] at h; cases h
    · split at h
      · cases h
      · exact stOk_spec h o ho t a b hop
theorem regX_ok (hT : TabOk C.P C.T) (hm : C.P.follows .mixedOrders = true) (id : Nat) (ops : Array Oper) (draw : Bool) : Does C fn (.region id ops draw) (dstsOf ops.toList) (fun _ s k _ => regX C id ops draw s fun s => k .normal s) := by
  intro ρ s p k kr res hpr hs h
  have ha : ops.toList.toArray = ops := by simp
  have hW : ∀ o ∈ ops.toList, ∀ d, o.dst = some d → memN (dstsOf ops.toList) d = true := fun o ho d hd => dstsOf_mem ho hd
  have hO : ∀ (j : Nat) (o : Oper), ops[j]? = some o → ∀ d, o.dst = some d → memN (dstsOf ops.toList) d = true := fun j o ho d hd => dstsOf_mem (by
    rw [Array.mem_toList_iff]
    exact Array.mem_of_getElem? ho) hd
  replace h : regX C id ops draw s (fun s => k .normal s) = some res := h
  unfold regX at h
  cases hf : frzAll (lkF C.fz id) s with
  | none => rw [hf] at h; cases h
  | some s0 =>
    rw [hf] at h
    obtain ⟨p1, k1, k2, k3⟩ := frzAll_ok (sc := C.sc) hpr hs hf
    refine pwp_le k1 (pwp_le (le_cut k2) ?_)
    have hs2 := simW_cut k2
    have hpr2 : PrOk ⟨s0.sl, s0.bx, s0.pr, s0.ro, []⟩ := (k3 []).prOk hpr
    have fin : ∀ p', Post C.sc (dstsOf ops.toList) ops.toList ⟨s0.sl, s0.bx, s0.pr, s0.ro, []⟩ (cutP s0 p1) (fun s => k .normal s) res p' → PostE C fn (dstsOf ops.toList) s k kr res .normal p' := by
      rintro p' ⟨s', m1, m2, m3, m4, _⟩
      exact ⟨s', m1.w, (k3 _).trans ⟨m2.pr, m2.ro, m2.bx, m2.sl, m2.st⟩, m4⟩
    simp only at h
    cases draw <;> simp only at h
    · obtain ⟨h1, h2⟩ := chk_some h
      rw [Bool.and_eq_true] at h1
      have hrun := runX_ok (q := true) (sc := C.sc) hT (ops := ops) 1000 0 [] ops.toList hW hO (stOk_spec h1.1) hpr2 hs2 h2
      have := pwp_regionQ (P := C.P) (n := C.n) (id := id) (Qs := PostE C fn (dstsOf ops.toList) s k kr res) (s := cutP s0 p1) h1.2 (by rw [ha]; exact runP_mono hrun fin)
      rw [ha] at this
      exact this
    · obtain ⟨h1, h2⟩ := chk_some h
      obtain ⟨h3, h4⟩ := chk_some h2
      split at h4
      · have hrun := runX_ok (q := false) (sc := C.sc) hT (ops := ops) 1000 0 [] ops.toList hW hO (stOk_spec h1) hpr2 hs2 h4
        have := pwp_draw (P := C.P) (n := C.n) (id := id) (l := ops.toList) (Qs := PostE C fn (dstsOf ops.toList) s k kr res) (s := cutP s0 p1) _ hm (by rw [ha]; exact h3) (by
          rw [ha]
          exact runI_take (P := C.P) (ops := ops) ops.toList 0 (cutP s0 p1) (fun j hj => by simp) (runP_mono hrun fin))
        rw [ha] at this
        exact this
      · obtain ⟨h5, h6⟩ := chk_some h4
        rw [Bool.and_eq_true] at h5
        have hle := of_decide_eq_true h5.2
        have hsub1 : ∀ o ∈ ops.toList.take (tailOf ops), o ∈ ops.toList := fun o ho => List.mem_of_mem_take ho
        have hsub2 : ∀ o ∈ ops.toList.drop (tailOf ops), o ∈ ops.toList := fun o ho => List.mem_of_mem_drop ho
        have hrun1 := runX_ok (q := false) (sc := C.sc) hT (ops := ops) 1000 0 [] (ops.toList.take (tailOf ops)) (fun o ho => hW o (hsub1 o ho)) hO (fun o ho => stOk_spec h1 o (hsub1 o ho)) hpr2 hs2 h6
        have hrun : RunQ false C.P ops (nthB (bndX C.T ⟨s0.sl, s0.bx, s0.pr, s0.ro, []⟩ ops.toList [] [])) 0 (ops.toList.take (tailOf ops)) (cutP s0 p1) fun p' => RunQ true C.P ops (nthB []) 0 (ops.toList.drop (tailOf ops)) p' (PostE C fn (dstsOf ops.toList) s k kr res .normal) := by
          refine runP_mono hrun1 fun p' hp => ?_
          obtain ⟨s', m1, m2, m3, m4, _⟩ := hp
          have hrun2 := runX_ok (q := true) (sc := C.sc) hT (ops := ops) 1000 0 [] (ops.toList.drop (tailOf ops)) (fun o ho => hW o (hsub2 o ho)) hO (fun o ho => stOk_spec h1 o (hsub2 o ho)) m3 m1 m4
          refine runP_mono hrun2 fun p2 hp2 => ?_
          obtain ⟨s3, n1, n2, n3, n4, _⟩ := hp2
          exact ⟨s3, n1.w, (k3 _).trans ((show Keep C.sc (dstsOf ops.toList) s0 s' from ⟨m2.pr, m2.ro, m2.bx, m2.sl, m2.st⟩).trans n2), n4⟩
        have := pwp_drawT (P := C.P) (n := C.n) (id := id) (l := ops.toList) (Qs := PostE C fn (dstsOf ops.toList) s k kr res) (s := cutP s0 p1) _ (tailOf ops) hle hm (by rw [ha]; exact h3) (by rw [ha]; exact h5.1) (by
          rw [ha]
          have e1 : (ops.toList.take (tailOf ops)).length = tailOf ops := by rw [List.length_take]; exact Nat.min_eq_left (by simpa using hle)
          have e2 : (ops.toList.drop (tailOf ops)).length = ops.toList.length - tailOf ops := by simp
          rw [← e2]
          have r1 := runI_take (P := C.P) (ops := ops) (ops.toList.take (tailOf ops)) 0 (cutP s0 p1) (fun j hj => by
            rw [e1] at hj
            rw [List.getElem?_take, if_pos hj]
            simp) hrun
          rw [e1] at r1
          refine runI_mono r1 fun p' hp => runT_of _ _ _ _ (fun j hj => by rw [List.getElem?_drop]; simp) hp)
        rw [ha] at this
        exact this
theorem regF_ok (hT : TabOk C.P C.T) (hm : C.P.follows .mixedOrders = true) (id : Nat) (ops : Array Oper) (draw : Bool) : Does C fn (.region id ops draw) (dstsOf ops.toList) (fun _ s k _ => regF C id ops draw s fun s => k .normal s) := by
  intro ρ s p k kr res hpr hs h
  replace h : regF C id ops draw s (fun s => k .normal s) = some res := h
  unfold regF at h
  split at h
  · exact regX_ok hT hm id ops draw ρ s p k kr res hpr hs h
  · rename_i t l _
    obtain ⟨h1, h2⟩ := chk_some h
    have h3 := regX_ok (fn := fn) hT hm id ops draw ρ s p (fun e s => match e with | .normal => (match fbAll C.sc (t :: l) s with | some s => k .normal s | none => none) | e => k e s) kr res hpr hs h2
    refine pwp_conseq h3 fun e p' hq => ?_
    by_cases he : e = .ret
    · subst he; exact ⟨p', .refl _, hq⟩
    · obtain ⟨s', m1, m2, m3⟩ := postE_e he hq
      cases e with
      | ret => exact absurd rfl he
      | normal =>
        have m3 : (match fbAll C.sc (t :: l) s' with | some s => k .normal s | none => none) = some res := m3
        split at m3
        · rename_i s2 hfb
          obtain ⟨p2, k1, k2, k3⟩ := fbAll_ok hs (m2.prOk hpr) h1 m2 m1 hfb
          exact ⟨p2, k1, s2, k2, k3, m3⟩
        · cases m3
      | _ => exact ⟨p', .refl _, postE_mk he m1 m2 m3⟩
theorem simW_known {s : SS} {p : PS} (hs : SimW s p) {x : Operand} {b : Bool} (h : evX s x = .d (.bool b)) : SimW (known s x b) p := by
  unfold known
  split
  · rename_i i
    refine ⟨fun j => ?_, hs.bx⟩
    show VSim s.bx (lkV ((i, .d (.bool b)) :: s.sl) j) (p.t j)
    rw [lkV_cons]
    split
    · rename_i e
      subst e
      have := hs.sl j
      rw [show lkV s.sl j = .d (.bool b) from h] at this
      exact this
    · exact hs.sl j
  · exact hs
theorem keep_known {W : List Nat} {s : SS} {x : Operand} {b : Bool} (h : ∀ i, x = .tmp i → memN W i = true) : Keep C.sc W s (known s x b) := by
  unfold known
  split
  · rename_i i
    refine ⟨rfl, rfl, fun _ _ => .refl _, fun j hj _ => ?_, fun _ _ _ cs h => ⟨cs, h, rfl⟩⟩
    show lkV ((i, .d (.bool b)) :: s.sl) j = _
    rw [lkV_cons, if_neg (fun e => by rw [e, h i rfl] at hj; cases hj)]
  · exact .refl _ _
theorem known_prOk {s : SS} {x : Operand} {b : Bool} (h : PrOk s) : PrOk (known s x b) := by unfold known; split <;> exact h
theorem evX_simW {s : SS} {p : PS} (hs : SimW s p) (x : Operand) : VSim s.bx (evX s x) (ev p x) := by
  cases x with
  | tmp i => exact hs.sl i
  | const v => exact constV_sim v
  | global g => exact .junk _
  | func f => exact .fn f [] [] [] [] rfl (fun j c q h => by simp at h) rfl (fun j c q h => by simp at h)
theorem postE_wide {W W' : List Nat} {s s0 : SS} {ρ : Type} {k : Exit → SS → Option ρ} {kr : densR C.rs → Option ρ} {res : ρ} (hW : ∀ i, memN W i = true → memN W' i = true) (hk : Keep C.sc W' s0 s) {e : Exit} {p : PS} (h : PostE C fn W s k kr res e p) : PostE C fn W' s0 k kr res e p := by
  by_cases he : e = .ret
  · subst he; exact h
  · obtain ⟨s', h1, h2, h3⟩ := postE_e he h
    exact postE_mk he h1 (hk.trans (h2.wide hW)) h3
theorem loopO_step {σ τ : Type} {f : σ → Option (σ ⊕ τ)} {m : Nat} {st : σ} {out : τ} (h : loopO f m st = some out) : ∃ m', m = m' + 1 ∧ ((∃ st', f st = some (.inl st') ∧ loopO f m' st' = some out) ∨ f st = some (.inr out)) := by
  cases m with
  | zero => cases h
  | succ m =>
    refine ⟨m, rfl, ?_⟩
    unfold loopO at h
    split at h
    · cases h
    · rename_i st' hf; exact .inl ⟨st', hf, h⟩
    · rename_i r hf; injection h with h; subst h; exact .inr hf
/-- A loop, whatever it answers. -/
theorem loop_ok {c : Code} {ms : List Mod} {id : Nat} {τ : Type} {inr : modsT ms → τ} {ret : densR C.rs → Option τ} {step : modsT ms → Option (modsT ms ⊕ τ)} {body : (ρ : Type) → SS → (Exit → SS → Option ρ) → (densR C.rs → Option ρ) → Option ρ} (hb : Does C fn c (wrC c) body)
    {s0 : SS} (hstep : step = fun st => match putMs ms st (baseS C.sc (wrC c) ms s0) with
      | none => none
      | some sh => body (modsT ms ⊕ τ) sh (fun e s' => match e with
        | .normal => Option.bind (packF ms s') fun st' => some (.inl st')
        | .exit id' => (match Nat.beq id' id with | true => Option.bind (packF ms s') fun st' => some (.inr (inr st')) | false => none)
        | _ => none) (fun r => (ret r).map .inr))
    {st0 : modsT ms} {p : PS} (hs0 : SimW s0 p) (hchk : modChk C.sc (wrC c) ms s0.pr s0 = true) (hpack : packM s0 ms = some st0) {out : τ} (hl : loopO step rounds st0 = some out)
    (hput : ∀ st, inr st = out → ∃ s2, putMs ms st (baseS C.sc (wrC c) ms s0) = some s2) {Q : Exit → PS → Prop} (hexit : ∀ st s2 p', inr st = out → putMs ms st (baseS C.sc (wrC c) ms s0) = some s2 → SimW s2 p' → Keep C.sc (wrC c) (headS C.sc (wrC c) ms s0) s2 → Q (.exit id) p')
    (hret : ∀ r p', ret r = some out → RetOk C fn p' r → Q .ret p') : PWP C.P C.n (.loop c) Q p := by
  have put_of : ∀ {m st out}, loopO step m st = some out → ∃ sh, putMs ms st (baseS C.sc (wrC c) ms s0) = some sh := by
    intro m st out h
    obtain ⟨m', _, h⟩ := loopO_step h
    have : ∃ r, step st = some r := by rcases h with ⟨st', h, _⟩ | h <;> exact ⟨_, h⟩
    obtain ⟨r, hr⟩ := this
    rw [hstep] at hr
    simp only at hr
    split at hr
    · cases hr
    · rename_i sh hsh; exact ⟨sh, hsh⟩
  refine pwp_loopW (ks := []) (bs := []) (fun q m => ∃ st sh, putMs ms st (baseS C.sc (wrC c) ms s0) = some sh ∧ SimW sh q ∧ Keep C.sc (wrC c) (headS C.sc (wrC c) ms s0) sh ∧ loopO step m st = some out) rounds ?_ ?_
  · obtain ⟨sh, hsh⟩ := put_of hl
    obtain ⟨o1, o2, o3⟩ := meet_ok hs0 hchk (.refl _ _) (s' := headS C.sc (wrC c) ms s0) ⟨hs0.sl, hs0.bx⟩ (show packM (headS C.sc (wrC c) ms s0) ms = some st0 from (by
      have : ∀ (l : List Mod) (s s' : SS), s.sl = s'.sl → s.bx = s'.bx → packM s l = packM s' l := by
        intro l s s' h1 h2
        have cells : ∀ (rows : List (Nat × Nat × Nat × Nat × Ty)) (cs : List SV) (j : Nat), cellsOf s rows j cs = cellsOf s' rows j cs := by
          intro rows cs
          induction cs with
          | nil => intro j; rfl
          | cons c cs ih => intro j; simp only [cellsOf, h2, ih]
        have one : ∀ m : Mod, getM s m = getM s' m := by
          intro m
          cases m <;> simp only [getM, h1, h2, cells]
        induction l with
        | nil => rfl
        | cons m l ih =>
          cases l with
          | nil => exact one m
          | cons m' l => simp only [packM, one, ih]
      exact (this ms (headS C.sc (wrC c) ms s0) s0 rfl rfl).trans hpack)) hsh
    exact ⟨st0, sh, hsh, o1, o2, hl⟩
  · rintro q m ⟨st, sh, hsh, hq, hk, hlo⟩
    obtain ⟨m', rfl, hcase⟩ := loopO_step hlo
    have hrun : ∃ fr, step st = some fr ∧ ((∃ st', fr = .inl st' ∧ loopO step m' st' = some out) ∨ fr = .inr out) := by
      rcases hcase with ⟨st', h1, h2⟩ | h1
      · exact ⟨_, h1, .inl ⟨st', rfl, h2⟩⟩
      · exact ⟨_, h1, .inr rfl⟩
    obtain ⟨fr, hfr, hcase⟩ := hrun
    have hbody : body (modsT ms ⊕ τ) sh (fun e s' => match e with
        | .normal => Option.bind (packF ms s') fun st' => some (.inl st')
        | .exit id' => (match Nat.beq id' id with | true => Option.bind (packF ms s') fun st' => some (.inr (inr st')) | false => none)
        | _ => none) (fun r => (ret r).map .inr) = some fr := by
      rw [hstep] at hfr
      simp only [hsh] at hfr
      exact hfr
    have hprh : PrOk sh := hk.prOk (head_prOk ms s0)
    have meet : ∀ {s' : SS} {p' : PS} {st' : modsT ms} {s2 : SS}, SimW s' p' → Keep C.sc (wrC c) sh s' → packF ms s' = some st' → putMs ms st' (baseS C.sc (wrC c) ms s0) = some s2 → ∃ p'', Le p' p'' ∧ SimW s2 p'' ∧ Keep C.sc (wrC c) (headS C.sc (wrC c) ms s0) s2 := by
      intro s' p' st' s2 m1 m2 m3 m4
      unfold packF at m3
      split at m3
      · rename_i s'' hf
        obtain ⟨p'', n1, n2, n3⟩ := frzAll_ok (sc := C.sc) (m2.prOk hprh) m1 hf
        obtain ⟨o1, o2, o3⟩ := meet_ok hs0 hchk ((hk.trans m2).trans (n3 (wrC c))) n2 m3 m4
        exact ⟨p'', n1, o1, o2⟩
      · cases m3
    refine pwp_conseq (hb _ sh q _ _ fr hprh hq hbody) fun e p' hpost => ?_
    by_cases he : e = .ret
    · subst he
      obtain ⟨r, h1, h3⟩ := hpost
      rw [Option.map_eq_some_iff] at h3
      obtain ⟨v, h4, h5⟩ := h3
      rcases hcase with ⟨st', rfl, _⟩ | rfl
      · cases h5
      · injection h5 with h5
        subst h5
        exact ⟨p', .refl _, hret r p' h4 h1⟩
    · obtain ⟨s', m1, m2, m3⟩ := postE_e he hpost
      cases e with
      | normal =>
        obtain ⟨st', m4, m5⟩ := bindS m3
        injection m5 with m5
        rcases hcase with ⟨st2, h1, h2⟩ | h1
        · rw [← m5] at h1
          injection h1 with h1
          subst h1
          obtain ⟨sh', hsh'⟩ := put_of h2
          obtain ⟨p'', n1, n2, n3⟩ := meet m1 m2 m4 hsh'
          exact ⟨p'', n1, p'', fun _ _ _ _ _ h => h, m', ⟨st', sh', hsh', n2, n3, h2⟩, Nat.lt_succ_self _⟩
        · rw [← m5] at h1; cases h1
      | exit id' =>
        replace m3 : (match Nat.beq id' id with | true => Option.bind (packF ms s') fun st' => some (.inr (inr st')) | false => none) = some fr := m3
        split at m3
        · rename_i hid
          rw [beq_spec] at hid
          have hid := of_decide_eq_true hid
          subst hid
          obtain ⟨st', m4, m5⟩ := bindS m3
          injection m5 with m5
          rcases hcase with ⟨st2, h1, h2⟩ | h1
          · rw [← m5] at h1; cases h1
          · rw [← m5] at h1
            injection h1 with h1
            obtain ⟨s2, hs2⟩ := hput st' h1
            obtain ⟨p'', n1, n2, n3⟩ := meet m1 m2 m4 hs2
            exact ⟨p'', n1, hexit st' s2 p'' h1 hs2 n2 n3⟩
        · cases m3
      | ret => exact absurd rfl he
      | _ => cases m3
end Go.Proofs.Ytjeeclabnimbbaa

/- The typed executor: the whole code; contracts. -/
namespace Go.Proofs.Ytjeeclabnimbbaa
open Go.RowKit

variable {C : Cx} {fn : Func}
theorem exec_ok (hT : TabOk C.P C.T) (hm : C.P.follows .mixedOrders = true) (hv : fn.results.toList = C.vars) : ∀ (c : Code) (h : Hint), Does C fn c (wrC c) (exec C c h)
  | .skip, h => fun ρ s p k kr res hpr hs hx => pwp_skip ⟨s, hs, .refl _ _, hx⟩
  | .label l, h => fun ρ s p k kr res hpr hs hx => pwp_label ⟨s, hs, .refl _ _, hx⟩
  | .exit id, h => fun ρ s p k kr res hpr hs hx => pwp_exit ⟨s, hs, .refl _ _, hx⟩
  | .ret, h => fun ρ s p k kr res hpr hs hx => by
    obtain ⟨r, h1, h2⟩ := bindS (show Option.bind (kretX C s) kr = some res from hx)
    obtain ⟨p', h3, h4⟩ := kret_ok hv (prOk_clr hpr) (simW_cut hs) h1
    exact pwp_le ((le_cut hs).trans h3) (pwp_ret ⟨r, h4, h2⟩)
  | .region id ops draw, h => withJ_ok (regF_ok hT hm id ops draw)
  | .seq a b, h => by
    refine withJ_ok (c := .seq a b) (wr := wrC a ++ wrC b) fun ρ s p k kr res hpr hs hx => ?_
    refine pwp_seq (pwp_conseq (exec_ok hT hm hv a h.l ρ s p _ _ res hpr hs hx) fun e p' hq => ⟨p', .refl _, ?_⟩)
    by_cases he : e = .ret
    · subst he; exact hq
    · obtain ⟨s', m1, m2, m3⟩ := postE_e he hq
      have hk : Keep C.sc (wrC a ++ wrC b) s s' := m2.wide fun i hi => memN_of hi
      cases e with
      | normal =>
        refine pwp_conseq (exec_ok hT hm hv b h.r ρ s' p' k kr res (hk.prOk hpr) m1 m3) fun e p2 hq2 => ⟨p2, .refl _, ?_⟩
        exact postE_wide (fun i hi => memN_of' hi) hk hq2
      | ret => exact absurd rfl he
      | _ => exact ⟨s', m1, hk, m3⟩
  | .cond x a b, h => by
    have hwA : ∀ i, memN (wrC a) i = true → memN (wrC (.cond x a b)) i = true := fun i hi => by
      cases x <;> simp only [wrC, memN_cons, memN_app, hi, Bool.true_or, Bool.or_true]
    have hwB : ∀ i, memN (wrC b) i = true → memN (wrC (.cond x a b)) i = true := fun i hi => by
      cases x <;> simp only [wrC, memN_cons, memN_app, hi, Bool.or_true]
    have hwx : ∀ i, x = .tmp i → memN (wrC (.cond x a b)) i = true := fun i hi => by
      subst hi; simp only [wrC, memN_cons, decide_true, Bool.true_or]
    refine withJ_ok (c := .cond x a b) (wr := wrC (.cond x a b)) fun ρ s p k kr res hpr hs hx => ?_
    have hx : (match evX s x with | .d (.bool t) => if t = true then exec C a h.l ρ (known s x true) k kr else exec C b h.r ρ (known s x false) k kr | _ => none) = some res := hx
    split at hx
    · rename_i t ht
      have hq := evX_simW hs x
      rw [ht] at hq
      have hb := vs_bool hq
      cases t
      · rw [if_neg (by simp)] at hx
        refine pwp_cond false (by rw [hb]; rfl) ?_
        rw [if_neg (by simp)]
        exact pwp_conseq (exec_ok hT hm hv b h.r ρ _ p k kr res (known_prOk hpr) (simW_known hs ht) hx) fun e p' hq => ⟨p', .refl _, postE_wide hwB (keep_known hwx) hq⟩
      · rw [if_pos rfl] at hx
        refine pwp_cond true (by rw [hb]; rfl) ?_
        rw [if_pos rfl]
        exact pwp_conseq (exec_ok hT hm hv a h.l ρ _ p k kr res (known_prOk hpr) (simW_known hs ht) hx) fun e p' hq => ⟨p', .refl _, postE_wide hwA (keep_known hwx) hq⟩
    · cases hx
  | .block id c, h => by
    refine withJ_ok (c := .block id c) (wr := wrC c) fun ρ s p k kr res hpr hs hx => ?_
    refine pwp_block (pwp_conseq (exec_ok hT hm hv c h.l ρ s p _ _ res hpr hs hx) fun e p' hq => ⟨p', .refl _, ?_⟩)
    by_cases he : e = .ret
    · subst he; exact hq
    · obtain ⟨s', m1, m2, m3⟩ := postE_e he hq
      cases e with
      | exit id' =>
        have m3 : (match Nat.beq id' id with | true => k .normal s' | false => k (.exit id') s') = some res := m3
        simp only [inBlockP]
        rw [beq_spec] at m3
        by_cases hid : id' = id
        · rw [if_pos hid]
          simp only [hid, decide_true] at m3
          exact ⟨s', m1, m2, m3⟩
        · rw [if_neg hid]
          simp only [hid, decide_false] at m3
          exact ⟨s', m1, m2, m3⟩
      | ret => exact absurd rfl he
      | _ => exact ⟨s', m1, m2, m3⟩
  | .loop c, h => fun ρ s p k kr res hpr hs hx => by
    cases h with
    | lp ms id ret hb =>
      unfold exec at hx
      cases he : enterM (wrC c) ms (clr s) with
      | none => rw [he] at hx; cases hx
      | some s0 =>
        rw [he] at hx
        obtain ⟨hchk, hx⟩ := chk_some hx
        refine pwp_le (le_cut hs) ?_
        unfold enterM at he
        split at he
        · rename_i s1 hnil
          obtain ⟨p2, k1, k2, k3, k4⟩ := nilM_ok (sc := C.sc) (s := clr s) rfl (prOk_clr hpr) (simW_cut hs) hnil
          refine pwp_le k1 ?_
          have hk1 : Keep C.sc (wrC c) s s1 := keep_clr k3
          obtain ⟨p3, n1, n2, n3⟩ := frzAll_ok (sc := C.sc) (hk1.prOk hpr) k2.w he
          refine pwp_le n1 ?_
          have hk0 : Keep C.sc (wrC c) s s0 := hk1.trans (n3 _)
          have hchk' : modChk C.sc (wrC c) ms s0.pr s0 = true := by rw [hk0.pr]; exact hchk
          cases hpk : packM s0 ms with
          | none => rw [hpk] at hx; cases hx
          | some st0 =>
            rw [hpk] at hx
            cases ret with
            | false =>
              obtain ⟨out, h1, h2⟩ := bindS hx
              refine loop_ok (C := C) (fn := fn) (c := c) (ms := ms) (id := id) (τ := modsT ms) (inr := fun st => st) (ret := fun _ => none) (body := exec C c hb) (exec_ok hT hm hv c hb) rfl n2 hchk' hpk h1 ?_ ?_ ?_
              · intro st hst
                subst hst
                split at h2
                · rename_i s2 hs2; exact ⟨s2, hs2⟩
                · cases h2
              · intro st s2 p' hst hs2 m1 m2
                subst hst
                rw [hs2] at h2
                exact ⟨⟨s2.sl, s2.bx, s.pr, s.ro, s.oc⟩, ⟨m1.sl, m1.bx⟩, keep_outer hk0 (pr_sub hpr hk0 hchk) m2, h2⟩
              · intro r p' hr; cases hr
            | true =>
              obtain ⟨out, h1, h2⟩ := bindS hx
              refine loop_ok (C := C) (fn := fn) (c := c) (ms := ms) (id := id) (τ := modsT ms ⊕ densR C.rs) (inr := .inl) (ret := fun r => some (.inr r)) (body := exec C c hb) (exec_ok hT hm hv c hb) rfl n2 hchk' hpk h1 ?_ ?_ ?_
              · intro st hst
                subst hst
                have h2 : (match putMs ms st (baseS C.sc (wrC c) ms s0) with | some s2 => k (.exit id) ⟨s2.sl, s2.bx, s.pr, s.ro, s.oc⟩ | none => none) = some res := h2
                split at h2
                · rename_i s2 hs2; exact ⟨s2, hs2⟩
                · cases h2
              · intro st s2 p' hst hs2 m1 m2
                subst hst
                have h2 : (match putMs ms st (baseS C.sc (wrC c) ms s0) with | some s2 => k (.exit id) ⟨s2.sl, s2.bx, s.pr, s.ro, s.oc⟩ | none => none) = some res := h2
                rw [hs2] at h2
                exact ⟨⟨s2.sl, s2.bx, s.pr, s.ro, s.oc⟩, ⟨m1.sl, m1.bx⟩, keep_outer hk0 (pr_sub hpr hk0 hchk) m2, h2⟩
              · intro r p' hr h3
                injection hr with hr
                subst hr
                exact ⟨r, h3, h2⟩
        · cases he
    | _ => cases hx
  | .rangeFunc .., h => fun ρ s p k kr res hpr hs hx => by cases hx
  | .scope .., h => fun ρ s p k kr res hpr hs hx => by cases hx
  | .goto .., h => fun ρ s p k kr res hpr hs hx => by cases hx
  | .refuse .., h => fun ρ s p k kr res hpr hs hx => by cases hx
theorem argX_lk : ∀ (vs : List SV) (i j : Nat), lkV (argX i vs) (i + j) = (vs[j]?).getD .junk
  | [], i, j => by simp [argX, lkV]
  | v :: vs, i, 0 => by simp [argX, lkV_cons]
  | v :: vs, i, j + 1 => by
    simp only [argX, lkV_cons]
    rw [if_neg (by omega), show i + (j + 1) = i + 1 + j by omega, argX_lk vs (i + 1) j]
    simp
theorem toPVs_len : ∀ (ps : List PT) (x : dens ps), (toPVs ps x).length = ps.length
  | [], _ => rfl
  | p :: ps, x => by simp [toPVs, toPVs_len ps]
/-- **A function's contract.** -/
theorem ctr_of {P : Program} {T : List (Nat × Ent)} {n : Nat} {ps rs : List PT} {vars : List ResultVar} {fz : List (Nat × List Nat)} {sc : List Nat} {fb : List (Nat × List Nat)} {h : Hint} {f : FuncId} {fn : Func} {c : Code} (hT : TabOk P T) (hm : P.follows .mixedOrders = true) (hf : P.funcs[f]? = some fn) (hb : fn.body = some c) (hcb : callable P f = true) (hn : fn.ntmps = n) (hv : fn.results.toList = vars) (hl : ((decide (ps.length ≤ n) && ptsOk ps) && !(anyM ps || anyM rs)) = true)
    {F : dens ps → Option (densR rs)} (hF : ∀ x, runF ⟨P, T, n, rs, vars, fz, sc, fb⟩ c h ps x = F x) : CtrOk P f ps rs F := by
  intro x r hx
  rw [Bool.and_eq_true] at hl
  obtain ⟨hl, hl3⟩ := hl
  refine ⟨fun hnM => ?_, fun h => by rw [h] at hl3; cases hl3⟩
  have hrs : anyM rs = false := by rw [Bool.or_eq_false_iff] at hnM; exact hnM.2
  rw [← hF] at hx
  rw [Bool.and_eq_true] at hl
  have hlen := of_decide_eq_true hl.1
  subst hn
  refine pc_intro hf hb hcb (by rw [toPVs_len]; exact hlen) ?_
  have hargs := encAs_sim (B := []) ps x hl.2
  have hs : SimW ⟨argX 0 (encAs ps x), [], [], false, []⟩ ⟨argsT (toPVs ps x), bNone⟩ := by
    refine ⟨fun i => ?_, fun t b hb => by cases hb⟩
    show VSim [] (lkV (argX 0 (encAs ps x)) i) (argsT (toPVs ps x) i)
    have := argX_lk (encAs ps x) 0 i
    rw [Nat.zero_add] at this
    rw [this]
    unfold argsT
    cases h1 : (encAs ps x)[i]? with
    | none => exact .junk _
    | some v =>
      have hlt : i < (toPVs ps x).length := by rw [← hargs.len]; exact (List.getElem?_eq_some_iff.1 h1).1
      rw [List.getElem?_eq_getElem hlt]
      exact hargs.rep i v _ h1 (List.getElem?_eq_getElem hlt)
  have hpr : PrOk ⟨argX 0 (encAs ps x), [], [], false, []⟩ := fun t ht => by cases ht
  refine pwp_conseq (exec_ok (C := ⟨P, T, fn.ntmps, rs, vars, fz, sc, fb⟩) (fn := fn) hT hm hv c h _ _ _ _ _ r hpr hs hx) fun e p' hq => ?_
  by_cases he : e = .ret
  · subst he
    obtain ⟨r', h1, h3⟩ := hq
    injection h3 with h3
    subst h3
    obtain ⟨q, h1, h2⟩ := h1.1 hrs
    exact ⟨p', .refl _, trivial, q, h1, h2⟩
  · obtain ⟨s', m1, m2, m3⟩ := postE_e he hq
    cases e with
    | normal =>
      obtain ⟨q, h1, h2⟩ := kretP_ok (C := ⟨P, T, fn.ntmps, rs, vars, fz, sc, fb⟩) hv (simW_cut m1) hrs m3
      exact ⟨cutP s' p', le_cut m1, trivial, q, h1, h2⟩
    | ret => exact absurd rfl he
    | _ => cases m3
end Go.Proofs.Ytjeeclabnimbbaa

/- The typed executor: contracts of functions that turn boxes, or answer rows of their own: numbers. -/
namespace Go.Proofs.Ytjeeclabnimbbaa
open Go.RowKit

/-! ### Numbers by numbers -/
def mapN : List Nat → List Nat → Nat → Nat
  | a :: xs, b :: bs, t => if t = a then b else mapN xs bs t
  | _, _, t => t
theorem mapN_map : ∀ {xs bs : List Nat}, xs.Nodup → xs.length = bs.length → xs.map (mapN xs bs) = bs
  | [], [], _, _ => rfl
  | [], _ :: _, _, h => by cases h
  | _ :: _, [], _, h => by cases h
  | a :: xs, b :: bs, hn, hl => by
    rw [List.nodup_cons] at hn
    have ih := mapN_map (xs := xs) (bs := bs) hn.2 (by simpa using hl)
    simp only [List.map_cons, mapN, if_true]
    congr 1
    conv => rhs; rw [← ih]
    apply List.map_congr_left
    intro t ht
    rw [if_neg (fun (e : t = a) => hn.1 (by rw [← e]; exact ht))]
theorem nodup_inj {f : Nat → Nat} : ∀ {l : List Nat}, (l.map f).Nodup → ∀ x ∈ l, ∀ y ∈ l, f x = f y → x = y
  | [], _, x, hx, _, _ => by cases hx
  | a :: l, h, x, hx, y, hy => by
    rw [List.map_cons, List.nodup_cons] at h
    intro e
    have hm : ∀ z ∈ l, f z ≠ f a := fun z hz e => h.1 (by rw [← e]; exact List.mem_map_of_mem hz)
    rcases List.mem_cons.1 hx with h1 | h1
    · rcases List.mem_cons.1 hy with h2 | h2
      · rw [h1, h2]
      · exact absurd (by rw [← e, h1]) (hm y h2)
    · rcases List.mem_cons.1 hy with h2 | h2
      · exact absurd (by rw [e, h2]) (hm x h1)
      · exact nodup_inj h.2 x h1 y h2 e
theorem flat_map (τ : Nat → Nat) : ∀ ls : List (List Nat), flatN (ls.map (·.map τ)) = (flatN ls).map τ
  | [] => rfl
  | l :: ls => by simp only [List.map_cons, flatN, flat_map τ ls, List.map_append]
theorem blocks_eq {τ : Nat → Nat} : ∀ {xs bs : List (List Nat)}, xs.map List.length = bs.map List.length → (flatN xs).map τ = flatN bs → xs.map (·.map τ) = bs
  | [], [], _, _ => rfl
  | [], _ :: _, h, _ => by cases h
  | _ :: _, [], h, _ => by cases h
  | a :: xs, b :: bs, hl, h => by
    simp only [List.map_cons, List.cons.injEq] at hl
    simp only [flatN, List.map_append] at h
    obtain ⟨h1, h2⟩ := List.append_inj h (by simpa using hl.1)
    rw [List.map_cons, h1, blocks_eq hl.2 h2]
theorem shape_lens : ∀ {ps : List PT} {xs bs : List (List Nat)}, shapeOk ps xs → shapeOk ps bs → xs.map List.length = bs.map List.length
  | [], [], [], _, _ => rfl
  | [], _ :: _, _, h, _ => h.elim
  | [], [], _ :: _, _, h => h.elim
  | _ :: _, [], _, h, _ => h.elim
  | _ :: _, _ :: _, [], _, h => h.elim
  | p :: ps, a :: xs, b :: bs, h1, h2 => by simp only [List.map_cons, h1.1, h2.1, shape_lens h1.2 h2.2]
theorem shapeIO_lens : ∀ {ls : List IB} {xs bs : List (List Nat)}, shapeIO ls xs → shapeIO ls bs → xs.map List.length = bs.map List.length
  | [], [], [], _, _ => rfl
  | [], _ :: _, _, h, _ => h.elim
  | [], [], _ :: _, _, h => h.elim
  | _ :: _, [], _, h, _ => h.elim
  | _ :: _, _ :: _, [], _, h => h.elim
  | p :: ps, a :: xs, b :: bs, h1, h2 => by simp only [List.map_cons, h1.1, h2.1, shapeIO_lens h1.2 h2.2]
theorem lens_flat : ∀ {xs bs : List (List Nat)}, xs.map List.length = bs.map List.length → (flatN xs).length = (flatN bs).length
  | [], [], _ => rfl
  | [], _ :: _, h => by cases h
  | _ :: _, [], h => by cases h
  | a :: xs, b :: bs, h => by
    simp only [List.map_cons, List.cons.injEq] at h
    simp only [flatN, List.length_append, h.1, lens_flat h.2]
theorem shape_start : ∀ (ps : List PT) (i : Nat), shapeOk ps (startIds i ps)
  | [], _ => trivial
  | p :: ps, i => ⟨by cases p <;> first | rfl | simp [startI, PT.nI], shape_start ps (i + 1)⟩

/-! ### What is encoded, by other numbers -/
mutual
theorem clean_ren (τ : Nat → Nat) : ∀ q : PV, clean q = true → renP τ q = q ∧ refsP q = []
  | .junk, _ => ⟨rfl, rfl⟩
  | .d _, _ => ⟨rfl, rfl⟩
  | .fe _, _ => ⟨rfl, rfl⟩
  | .ptr _ _, h => by cases h
  | .row _ _, h => by cases h
  | .re _ _ _ _, h => by cases h
  | .vw _ _ _ _, h => by cases h
  | .ag cs, h => by simp only [renP, refsP]; rw [(cleans_ren τ cs h).1, (cleans_ren τ cs h).2]; exact ⟨rfl, rfl⟩
  | .tup cs, h => by simp only [renP, refsP]; rw [(cleans_ren τ cs h).1, (cleans_ren τ cs h).2]; exact ⟨rfl, rfl⟩
  | .fn f ps qs, h => by
    have h : (cleans ps && cleans qs) = true := h
    rw [Bool.and_eq_true] at h
    simp only [renP, refsP]; rw [(cleans_ren τ ps h.1).1, (cleans_ren τ qs h.2).1, (cleans_ren τ ps h.1).2, (cleans_ren τ qs h.2).2]; exact ⟨rfl, rfl⟩
theorem cleans_ren (τ : Nat → Nat) : ∀ cs : List PV, cleans cs = true → renPs τ cs = cs ∧ refsPs cs = []
  | [], _ => ⟨rfl, rfl⟩
  | c :: cs, h => by
    simp only [cleans, Bool.and_eq_true] at h
    simp only [renPs, refsPs]; rw [(clean_ren τ c h.1).1, (cleans_ren τ cs h.2).1, (clean_ren τ c h.1).2, (cleans_ren τ cs h.2).2]; exact ⟨rfl, rfl⟩
end
theorem find_ren (τ : Nat → Nat) : ∀ (rows : List (Nat × Nat × Nat × Ty)) (is : List Nat) (j : Nat), findR (zipR rows (is.map τ)) j = (findR (zipR rows is) j).map fun r => (τ r.1, r.2)
  | [], is, j => by cases is <;> rfl
  | (j0, e, k, t) :: rows, [], j => rfl
  | (j0, e, k, t) :: rows, R :: is, j => by
    simp only [List.map_cons, zipR, findR]
    split
    · rfl
    · exact find_ren τ rows is j
theorem pv_ren (τ : Nat → Nat) (rows : List (Nat × Nat × Nat × Ty)) (is : List Nat) : ∀ (ds : List D) (j : Nat), pvCells (zipR rows (is.map τ)) j ds = renPs τ (pvCells (zipR rows is) j ds)
  | [], _ => rfl
  | d :: ds, j => by
    simp only [pvCells, renPs, pv_ren τ rows is ds (j + 1), find_ren]
    congr 1
    cases findR (zipR rows is) j with
    | none => rfl
    | some r =>
      obtain ⟨R, e, k, t⟩ := r
      cases d <;> rfl
theorem pu_ren (τ : Nat → Nat) (rows : List (Nat × Nat × Nat × Ty)) (is : List Nat) : ∀ (ds : List D) (j : Nat), puCells (zipR rows (is.map τ)) j ds = renU τ (puCells (zipR rows is) j ds)
  | [], _ => rfl
  | d :: ds, j => by
    simp only [puCells, find_ren]
    cases findR (zipR rows is) j with
    | none => exact pu_ren τ rows is ds (j + 1)
    | some r =>
      obtain ⟨R, e, k, t⟩ := r
      cases d with
      | v => exact pu_ren τ rows is ds (j + 1)
      | sl es => simp only [Option.map_some, renU, pu_ren τ rows is ds (j + 1)]; rfl
theorem renU_app (τ : Nat → Nat) : ∀ (a b : BU), renU τ (a ++ b) = renU τ a ++ renU τ b
  | [], b => rfl
  | (t, B) :: a, b => by simp only [List.cons_append, renU, renU_app τ a b]
theorem domU_app : ∀ (a b : BU), domU (a ++ b) = domU a ++ domU b
  | [], b => rfl
  | (t, B) :: a, b => by simp only [List.cons_append, domU, domU_app a b]
theorem domU_ren (τ : Nat → Nat) : ∀ (a : BU), domU (renU τ a) = (domU a).map τ
  | [] => rfl
  | (t, B) :: a => by simp only [renU, domU, domU_ren τ a, List.map_cons]
theorem toI_ren (τ : Nat → Nat) (p : PT) (is : List Nat) (x : p.den) : toI p (is.map τ) x = (renP τ (toI p is x).1, renU τ (toI p is x).2) := by
  cases p with
  | io => rfl
  | lf t => simp only [toI]; rw [(clean_ren τ _ (clean_toPV (.lf t) x)).1]; rfl
  | ag t => simp only [toI]; rw [(clean_ren τ _ (clean_toPV (.ag t) x)).1]; rfl
  | pl t => simp only [toI]; rw [(clean_ren τ _ (clean_toPV (.pl t) x)).1]; rfl
  | ps t => simp only [toI]; rw [(clean_ren τ _ (clean_toPV (.ps t) x)).1]; rfl
  | fn f a b => simp only [toI]; rw [(clean_ren τ _ (clean_toPV (.fn f a b) x)).1]; rfl
  | own e k t => match is with
    | [] => rfl
    | [i] => rfl
    | _ :: _ :: _ => rfl
  | mv e k t => match is with
    | [] => rfl
    | [i] => rfl
    | _ :: _ :: _ => rfl
  | bx ty n rows => match is with
    | [] => rfl
    | i :: is => simp only [toI, List.map_cons, pv_ren, pu_ren]; rfl
  | agr n rows => simp only [toI, pv_ren, pu_ren]; rfl
theorem toIs_ren (τ : Nat → Nat) : ∀ (ps : List PT) (iss : List (List Nat)) (x : dens ps), toIs ps (iss.map (·.map τ)) x = (renPs τ (toIs ps iss x).1, renU τ (toIs ps iss x).2)
  | [], iss, x => by cases iss <;> rfl
  | p :: ps, [], x => rfl
  | p :: ps, is :: iss, x => by simp only [List.map_cons, toIs, toI_ren, toIs_ren τ ps iss x.2, renPs, renU_app]
theorem toRIs_ren (τ : Nat → Nat) : ∀ (rs : List PT) (iss : List (List Nat)) (x : densR rs), toRIs rs (iss.map (·.map τ)) x = (renPs τ (toRIs rs iss x).1, renU τ (toRIs rs iss x).2)
  | [], iss, x => by cases iss <;> rfl
  | [p], [], x => rfl
  | [p], is :: iss, x => by
    have h := toI_ren τ p is x
    show ([(toI p (is.map τ) x).1], (toI p (is.map τ) x).2) = ([renP τ (toI p is x).1], renU τ (toI p is x).2)
    exact congrArg (fun z : PV × BU => ([z.1], z.2)) h
  | p :: q :: l, [], x => rfl
  | p :: q :: l, is :: iss, x => by
    have h1 := toI_ren τ p is x.1
    have h2 := toRIs_ren τ (q :: l) iss x.2
    have h3 : ((toI p (is.map τ) x.1).1 :: (toRIs (q :: l) (iss.map (·.map τ)) x.2).1, (toI p (is.map τ) x.1).2 ++ (toRIs (q :: l) (iss.map (·.map τ)) x.2).2) = (renP τ (toI p is x.1).1 :: renPs τ (toRIs (q :: l) iss x.2).1, renU τ (toI p is x.1).2 ++ renU τ (toRIs (q :: l) iss x.2).2) :=
      congr (f₁ := fun (y : List PV × BU) => ((toI p (is.map τ) x.1).1 :: y.1, (toI p (is.map τ) x.1).2 ++ y.2)) (f₂ := fun (y : List PV × BU) => (renP τ (toI p is x.1).1 :: y.1, renU τ (toI p is x.1).2 ++ y.2)) (congrArg (fun (z : PV × BU) (y : List PV × BU) => (z.1 :: y.1, z.2 ++ y.2)) h1) h2
    refine h3.trans ?_
    rw [← renU_app]; rfl
theorem one_ren (τ : Nat → Nat) (qs : List PV) : renP τ (oneP qs) = oneP (renPs τ qs) := by
  match qs with
  | [] => rfl
  | [q] => rfl
  | q :: q' :: qs => rfl
/-- What the boxes are that are kept, by the caller's numbers. -/
theorem toOs_ren (τi τ : Nat → Nat) : ∀ (ps : List PT) (ls : List IB) (i : Nat) (iss kss : List (List Nat)) (x : dens ps) (o : outT ls), okIO ps ls = true → shapeOk ps iss → shapeIO ls kss → (∀ s ∈ keptK i ls, τ s = τi s) → (startIds i ps).map (·.map τi) = iss → toOs ps ls iss (kss.map (·.map τ)) x o = renU τ (boIs i ls kss o)
  | [], [], i, iss, kss, x, o, _, _, _, _, _ => rfl
  | [], _ :: _, _, _, _, _, _, h, _, _, _, _ => by cases h
  | _ :: _, [], _, _, _, _, _, h, _, _, _, _ => by cases h
  | p :: ps, b :: ls, i, [], kss, x, o, _, h, _, _, _ => h.elim
  | p :: ps, b :: ls, i, is :: iss, [], x, o, _, _, h, _, _ => h.elim
  | p :: ps, b :: ls, i, is :: iss, js :: kss, x, o, hio, hs, hk, hkk, he => by
    simp only [okIO] at hio
    split at hio
    · rename_i h1
      simp only [startIds, List.map_cons, List.cons.injEq] at he
      obtain ⟨e1, e2⟩ := he
      have hk2 : ∀ s ∈ keptK (i + 1) ls, τ s = τi s := fun s hs => hkk s (by cases b <;> simp [keptK, hs])
      have ih := toOs_ren τi τ ps ls (i + 1) iss kss x.2 o.2 hio hs.2 hk.2 hk2 e2
      simp only [List.map_cons, toOs, boIs, renU_app, ih]
      congr 1
      cases p with
      | own e k t => cases b with
        | own e' k' t' =>
          subst e1
          have := hkk (inId i) (by simp [keptK])
          simp only [toO, startI, List.map_cons, List.map_nil, boI, renU, this]; rfl
        | _ => cases h1
      | bx ty n rows => cases b with
        | bx ty' n' rows' =>
          subst e1
          have := hkk (inId i) (by simp [keptK])
          simp only [toO, startI, List.map_cons, boI, renU, pv_ren, pu_ren, this]; rfl
        | _ => cases h1
      | mv => cases b <;> first | rfl | cases h1
      | lf => cases b <;> first | rfl | cases h1
      | ag => cases b <;> first | rfl | cases h1
      | pl => cases b <;> first | rfl | cases h1
      | ps => cases b <;> first | rfl | cases h1
      | fn => cases b <;> first | rfl | cases h1
      | agr => cases h1
      | io => cases h1
    · cases hio
end Go.Proofs.Ytjeeclabnimbbaa

/- The typed executor: contracts of functions that turn boxes, or answer rows of their own. -/
namespace Go.Proofs.Ytjeeclabnimbbaa
open Go.RowKit

/-! ### What is named -/
def closedM (l : BU) : Prop := ∀ t B, (t, B) ∈ l → ∀ s ∈ refsB B, s ∈ domU l
theorem closedM.app {a b : BU} (h : closedM a) (h' : closedM b) : closedM (a ++ b) := fun t B hm s hs => by
  rw [domU_app, List.mem_append]
  rcases List.mem_append.1 hm with hm | hm
  · exact .inl (h t B hm s hs)
  · exact .inr (h' t B hm s hs)
theorem closedM.u {l : BU} (h : closedM l) : closedU l := fun t B hl => h t B (lkU_mem hl)
theorem pv_refs {rows : List (Nat × Nat × Nat × Nat × Ty)} : ∀ (ds : List D) (j : Nat), ∀ s ∈ refsPs (pvCells rows j ds), s ∈ domU (puCells rows j ds)
  | [], _, s, h => by cases h
  | d :: ds, j, s, h => by
    simp only [pvCells, refsPs, List.mem_append] at h
    simp only [puCells]
    have ih := pv_refs (rows := rows) ds (j + 1) s
    cases hf : findR rows j with
    | none =>
      rw [hf] at h
      exact ih (h.resolve_left (by simp [refsP]))
    | some r =>
      obtain ⟨R, e, k, t⟩ := r
      rw [hf] at h
      cases d with
      | v => exact ih (h.resolve_left (by simp [refsP]))
      | sl es =>
        simp only [domU, List.mem_cons]
        rcases h with h | h
        · simp only [refsP, List.mem_cons, List.not_mem_nil, or_false] at h; exact .inl h
        · exact .inr (ih h)
theorem pu_closed {rows : List (Nat × Nat × Nat × Nat × Ty)} : ∀ (ds : List D) (j : Nat) t B, (t, B) ∈ puCells rows j ds → refsB B = [] ∧ ∃ e k es, B = .rw e k es
  | [], _, t, B, h => by cases h
  | d :: ds, j, t, B, h => by
    simp only [puCells] at h
    split at h
    · split at h
      · rcases List.mem_cons.1 h with e | h
        · injection e with _ e; subst e; exact ⟨rfl, _, _, _, rfl⟩
        · exact pu_closed ds (j + 1) t B h
      · exact pu_closed ds (j + 1) t B h
    · exact pu_closed ds (j + 1) t B h
theorem st_closed {rows : List (Nat × Nat × Nat × Nat × Ty)} (i : Nat) (ty : TypeId) (ds : List D) : closedM ((i, .st ty (pvCells rows 0 ds)) :: puCells rows 0 ds) := fun t B hm s hs => by
  simp only [domU, List.mem_cons]
  rcases List.mem_cons.1 hm with e | hm
  · injection e with _ e
    subst e
    exact .inr (pv_refs ds 0 s hs)
  · rw [(pu_closed ds 0 t B hm).1] at hs; cases hs
theorem one_closed (i : Nat) (e k : Nat) (t : Ty) (xs : List t.den) : closedM [(i, rwU e k t xs)] := fun t B hm s hs => by
  simp only [List.mem_cons, List.not_mem_nil, or_false, Prod.mk.injEq] at hm
  rw [hm.2] at hs
  cases hs
theorem nil_closed : closedM [] := fun t B hm => by cases hm
theorem toI_refs (p : PT) (is : List Nat) (x : p.den) : (∀ s ∈ refsP (toI p is x).1, s ∈ domU (toI p is x).2) ∧ closedM (toI p is x).2 := by
  have plain : ∀ {q : PV}, clean q = true → (∀ s ∈ refsP q, s ∈ domU []) ∧ closedM [] := fun hq => ⟨fun s h => (by rw [(clean_ren id _ hq).2] at h; cases h), nil_closed⟩
  cases p with
  | io => exact ⟨fun s h => (by cases h), nil_closed⟩
  | lf t => exact plain (clean_toPV (.lf t) x)
  | ag t => exact plain (clean_toPV (.ag t) x)
  | pl t => exact plain (clean_toPV (.pl t) x)
  | ps t => exact plain (clean_toPV (.ps t) x)
  | fn f a b => exact plain (clean_toPV (.fn f a b) x)
  | own e k t => match is with
    | [] => exact ⟨fun s h => (by cases h), nil_closed⟩
    | [i] => exact ⟨fun s h => h, one_closed i e k t x⟩
    | _ :: _ :: _ => exact ⟨fun s h => (by cases h), nil_closed⟩
  | mv e k t => match is with
    | [] => exact ⟨fun s h => (by cases h), nil_closed⟩
    | [i] => exact ⟨fun s h => h, one_closed i e k t x⟩
    | _ :: _ :: _ => exact ⟨fun s h => (by cases h), nil_closed⟩
  | bx ty n rows => match is with
    | [] => exact ⟨fun s h => (by cases h), nil_closed⟩
    | i :: is => exact ⟨fun s h => by simp only [toI, refsP, List.mem_cons, List.not_mem_nil, or_false] at h; simp only [toI, domU, List.mem_cons]; exact .inl h, st_closed i ty _⟩
  | agr n rows => exact ⟨fun s h => pv_refs _ 0 s h, fun t B hm s hs => by rw [(pu_closed _ 0 t B hm).1] at hs; cases hs⟩
theorem toIs_refs : ∀ (ps : List PT) (iss : List (List Nat)) (x : dens ps), (∀ s ∈ refsPs (toIs ps iss x).1, s ∈ domU (toIs ps iss x).2) ∧ closedM (toIs ps iss x).2
  | [], iss, x => ⟨fun s h => (by cases h), nil_closed⟩
  | p :: ps, [], x => ⟨fun s h => (by cases h), nil_closed⟩
  | p :: ps, is :: iss, x => by
    obtain ⟨h1, h2⟩ := toI_refs p is x.1
    obtain ⟨h3, h4⟩ := toIs_refs ps iss x.2
    refine ⟨fun s h => ?_, h2.app h4⟩
    simp only [toIs, refsPs, List.mem_append] at h
    simp only [toIs, domU_app, List.mem_append]
    exact h.imp (h1 s) (h3 s)
theorem toRIs_refs : ∀ (rs : List PT) (iss : List (List Nat)) (x : densR rs), (∀ s ∈ refsPs (toRIs rs iss x).1, s ∈ domU (toRIs rs iss x).2) ∧ closedM (toRIs rs iss x).2
  | [], iss, x => ⟨fun s h => (by cases h), nil_closed⟩
  | [p], [], x => ⟨fun s h => (by cases h), nil_closed⟩
  | [p], is :: iss, x => by
    obtain ⟨h1, h2⟩ := toI_refs p is (show p.den from x)
    refine ⟨fun s h => ?_, h2⟩
    have h : s ∈ refsP (toI p is (show p.den from x)).1 ++ [] := h
    rw [List.append_nil] at h
    exact h1 s h
  | p :: q :: l, [], x => ⟨fun s h => (by cases h), nil_closed⟩
  | p :: q :: l, is :: iss, x => by
    obtain ⟨h1, h2⟩ := toI_refs p is x.1
    obtain ⟨h3, h4⟩ := toRIs_refs (q :: l) iss x.2
    refine ⟨fun s h => ?_, h2.app h4⟩
    have h : s ∈ refsP (toI p is x.1).1 ++ refsPs (toRIs (q :: l) iss x.2).1 := h
    show s ∈ domU ((toI p is x.1).2 ++ (toRIs (q :: l) iss x.2).2)
    rw [domU_app, List.mem_append]
    exact (List.mem_append.1 h).imp (h1 s) (h3 s)
theorem one_refs (qs : List PV) : ∀ s ∈ refsP (oneP qs), s ∈ refsPs qs := by
  match qs with
  | [] => exact fun s h => by cases h
  | [q] => exact fun s h => by simpa [refsPs, oneP] using h
  | q :: q' :: qs => exact fun s h => h
theorem toRIs_ids : ∀ {rs : List PT} {iss : List (List Nat)} {x : densR rs} {t : Nat}, t ∈ domU (toRIs rs iss x).2 → t ∈ flatN iss
  | [], iss, x, t, h => by cases h
  | [p], [], x, t, h => by cases h
  | [p], is :: iss, x, t, h => by
    have h : t ∈ domU (toI p is (show p.den from x)).2 := h
    rw [flatN_app, List.mem_append]
    obtain ⟨B, hB⟩ := domU_mem.1 h
    exact .inl (toI_ids (lkU_mem hB))
  | p :: q :: l, [], x, t, h => by cases h
  | p :: q :: l, is :: iss, x, t, h => by
    have h : t ∈ domU ((toI p is x.1).2 ++ (toRIs (q :: l) iss x.2).2) := h
    rw [domU_app, List.mem_append] at h
    rw [flatN_app, List.mem_append]
    rcases h with h | h
    · obtain ⟨B, hB⟩ := domU_mem.1 h
      exact .inl (toI_ids (lkU_mem hB))
    · exact .inr (toRIs_ids h)
theorem boI_ids (i : Nat) (b : IB) (js : List Nat) (o : b.den) : closedM (boI i b js o) ∧ ∀ t ∈ domU (boI i b js o), t = inId i ∧ b ≠ .no ∨ t ∈ js := by
  cases b with
  | no => exact ⟨nil_closed, fun t h => by cases h⟩
  | own e k t => exact ⟨one_closed _ _ _ _ _, fun t' h => by simp only [boI, domU, List.mem_cons, List.not_mem_nil, or_false] at h; exact .inl ⟨h, fun e => by cases e⟩⟩
  | bx ty n rows =>
    refine ⟨st_closed _ _ _, fun t h => ?_⟩
    simp only [boI, domU, List.mem_cons] at h
    rcases h with h | h
    · exact .inl ⟨h, fun e => by cases e⟩
    · obtain ⟨B, hB⟩ := domU_mem.1 h
      exact .inr (pu_ids (lkU_mem hB))
theorem kept_mem {i : Nat} {b : IB} {ls : List IB} {s : Nat} : s ∈ keptK i (b :: ls) ↔ (s = inId i ∧ b ≠ .no) ∨ s ∈ keptK (i + 1) ls := by
  cases b <;> simp [keptK]
theorem boIs_ids : ∀ (ls : List IB) (i : Nat) (kss : List (List Nat)) (o : outT ls), shapeIO ls kss → closedM (boIs i ls kss o) ∧ (∀ t ∈ domU (boIs i ls kss o), t ∈ keptK i ls ∨ t ∈ flatN kss) ∧ ∀ t ∈ keptK i ls, t ∈ domU (boIs i ls kss o)
  | [], i, kss, o, _ => ⟨nil_closed, fun t h => (by cases h), fun t h => by cases h⟩
  | b :: ls, i, [], o, h => h.elim
  | b :: ls, i, js :: kss, o, h => by
    obtain ⟨h1, h2⟩ := boI_ids i b js o.1
    obtain ⟨h3, h4, h5⟩ := boIs_ids ls (i + 1) kss o.2 h.2
    refine ⟨h1.app h3, fun t ht => ?_, fun t ht => ?_⟩
    · simp only [boIs, domU_app, List.mem_append] at ht
      rw [kept_mem, flatN_app, List.mem_append]
      rcases ht with ht | ht
      · rcases h2 t ht with h6 | h6
        · exact .inl (.inl h6)
        · exact .inr (.inl h6)
      · rcases h4 t ht with h6 | h6
        · exact .inl (.inr h6)
        · exact .inr (.inr h6)
    · rw [kept_mem] at ht
      simp only [boIs, domU_app, List.mem_append]
      rcases ht with ⟨rfl, hb⟩ | ht
      · left
        cases b with
        | no => exact absurd rfl hb
        | own => simp [boI, domU]
        | bx => simp [boI, domU]
      · exact .inr (h5 t ht)
theorem kept_big : ∀ (ls : List IB) (i : Nat), ∀ s ∈ keptK i ls, 1000000 ≤ s
  | [], i, s, h => by cases h
  | b :: ls, i, s, h => by
    rw [kept_mem] at h
    rcases h with ⟨rfl, _⟩ | h
    · unfold inId; omega
    · exact kept_big ls (i + 1) s h
/-- What a function is handed: what it keeps, what it is given for good. -/
theorem start_kinds : ∀ (ps : List PT) (ls : List IB) (i : Nat) (x : dens ps), okIO ps ls = true →
    (∀ s ∈ keptK i ls, s ∈ domU (toIs ps (startIds i ps) x).2) ∧ ∀ t B, (t, B) ∈ (toIs ps (startIds i ps) x).2 → t ∉ keptK i ls → (∃ e k es, B = .rw e k es) ∧ t ∈ gones ps (startIds i ps)
  | [], [], i, x, _ => ⟨fun s h => (by cases h), fun t B h => by cases h⟩
  | [], _ :: _, _, _, h => by cases h
  | _ :: _, [], _, _, h => by cases h
  | p :: ps, b :: ls, i, x, hio => by
    simp only [okIO] at hio
    split at hio
    · rename_i h1
      obtain ⟨k1, k2⟩ := start_kinds ps ls (i + 1) x.2 hio
      have head : (b ≠ .no → inId i ∈ domU (toI p (startI i p) x.1).2) ∧ ∀ t B, (t, B) ∈ (toI p (startI i p) x.1).2 → ¬ (t = inId i ∧ b ≠ .no) → (∃ e k es, B = .rw e k es) ∧ t ∈ gone1 p (startI i p) := by
        cases p with
        | own e k t => cases b with
          | own e' k' t' =>
            refine ⟨fun _ => by simp [toI, startI, domU], fun t B hm hn => ?_⟩
            simp only [toI, startI, List.mem_cons, List.not_mem_nil, or_false, Prod.mk.injEq] at hm
            exact absurd ⟨hm.1, fun e => by cases e⟩ hn
          | _ => cases h1
        | mv e k t => cases b with
          | no =>
            refine ⟨fun h => absurd rfl h, fun t B hm _ => ?_⟩
            simp only [toI, startI, List.mem_cons, List.not_mem_nil, or_false, Prod.mk.injEq] at hm
            obtain ⟨rfl, rfl⟩ := hm
            exact ⟨⟨_, _, _, rfl⟩, by simp [gone1, startI]⟩
          | _ => cases h1
        | bx ty n rows => cases b with
          | bx ty' n' rows' =>
            refine ⟨fun _ => by simp [toI, startI, domU], fun t B hm hn => ?_⟩
            simp only [toI, startI] at hm
            rcases List.mem_cons.1 hm with e | hm
            · injection e with e _
              exact absurd ⟨e, fun e => by cases e⟩ hn
            · exact ⟨(pu_closed _ 0 t B hm).2, pu_ids hm⟩
          | _ => cases h1
        | lf => cases b <;> first | exact ⟨fun h => absurd rfl h, fun t B hm => by cases hm⟩ | cases h1
        | ag => cases b <;> first | exact ⟨fun h => absurd rfl h, fun t B hm => by cases hm⟩ | cases h1
        | pl => cases b <;> first | exact ⟨fun h => absurd rfl h, fun t B hm => by cases hm⟩ | cases h1
        | ps => cases b <;> first | exact ⟨fun h => absurd rfl h, fun t B hm => by cases hm⟩ | cases h1
        | fn => cases b <;> first | exact ⟨fun h => absurd rfl h, fun t B hm => by cases hm⟩ | cases h1
        | agr => cases h1
        | io => cases h1
      refine ⟨fun s hs => ?_, fun t B hm hn => ?_⟩
      · simp only [startIds, toIs, domU_app, List.mem_append]
        rcases kept_mem.1 hs with ⟨rfl, h⟩ | h
        · exact .inl (head.1 h)
        · exact .inr (k1 s h)
      · simp only [startIds, toIs] at hm
        simp only [startIds, gones, List.mem_append]
        rw [kept_mem, not_or] at hn
        rcases List.mem_append.1 hm with hm | hm
        · obtain ⟨q1, q2⟩ := head.2 t B hm hn.1
          exact ⟨q1, .inl q2⟩
        · obtain ⟨q1, q2⟩ := k2 t B hm hn.2
          exact ⟨q1, .inr q2⟩
    · cases hio
theorem gones_ren (τ : Nat → Nat) : ∀ (ps : List PT) (iss : List (List Nat)), gones ps (iss.map (·.map τ)) = (gones ps iss).map τ
  | [], iss => by cases iss <;> rfl
  | p :: ps, [] => rfl
  | p :: ps, is :: iss => by
    simp only [List.map_cons, gones, gones_ren τ ps iss, List.map_append]
    congr 1
    cases p with
    | bx => cases is <;> rfl
    | _ => rfl
theorem gones_flat : ∀ (ps : List PT) (iss : List (List Nat)), ∀ s ∈ gones ps iss, s ∈ flatN iss
  | [], iss, s, h => by cases iss <;> cases h
  | p :: ps, [], s, h => by cases h
  | p :: ps, is :: iss, s, h => by
    simp only [gones, List.mem_append] at h
    rw [flatN_app, List.mem_append]
    rcases h with h | h
    · left
      cases p with
      | mv => exact h
      | bx => cases is with
        | nil => cases h
        | cons a is => exact List.mem_cons_of_mem _ h
      | _ => cases h
    · exact .inr (gones_flat ps iss s h)
theorem goneU_lk (l : BU) : ∀ (is : List Nat) (t : Nat), lkU (goneU l is) t = if t ∈ is then some (match lkU l t with | some B => goneB B | none => .st 0 []) else none
  | [], t => rfl
  | a :: is, t => by
    simp only [goneU, lkU]
    by_cases h : t = a
    · subst h; simp only [if_true, List.mem_cons, true_or]; rfl
    · simp only [h, if_false, List.mem_cons, false_or]; exact goneU_lk l is t
theorem lkU_app (a b : BU) (t : Nat) : lkU (a ++ b) t = match lkU a t with | some B => some B | none => lkU b t := by
  induction a with
  | nil => rfl
  | cons x a ih =>
    obtain ⟨j, B⟩ := x
    simp only [List.cons_append, lkU]
    split
    · rfl
    · exact ih
end Go.Proofs.Ytjeeclabnimbbaa

/- The typed executor: **contracts of functions that turn boxes, or answer rows of their own**. -/
namespace Go.Proofs.Ytjeeclabnimbbaa
open Go.RowKit

theorem ctrB_of {P : Program} {f : FuncId} {ps rs : List PT} {x : dens ps} {r : densR rs} (hio : okIO ps (ioOf rs) = true) (hlen : lenOs ps (ioOf rs) x (outOf rs r)) (hn0 : (flatN (startIds 0 ps)).Nodup) (hgk : ∀ s ∈ gones ps (startIds 0 ps), s ∉ keptK 0 (ioOf rs))
    (h : PCm P f (toIs ps (startIds 0 ps) x).1 (toIs ps (startIds 0 ps) x).2 (keptK 0 (ioOf rs)) fun q bo => ∃ kss jss, shapeIO (ioOf rs) kss ∧ shapeOk (rsOf rs) jss ∧ (keptK 0 (ioOf rs) ++ (flatN kss ++ flatN jss)).Nodup ∧ q = oneP (toRIs (rsOf rs) jss (resOf rs r)).1 ∧ bo = boIs 0 (ioOf rs) kss (outOf rs r) ++ (toRIs (rsOf rs) jss (resOf rs r)).2) : CtrB P f ps rs x r := by
  refine ⟨hlen, fun iss kss jss hsi hsk hsj hnd hlt hall => ⟨h.1, fun w0 F0 ρ b w F vs args hargs hb hbn hi hv => ?_⟩⟩
  have hK := start_kinds ps (ioOf rs) 0 x hio
  have hl0 := shape_lens (shape_start ps 0) hsi
  let τi := mapN (flatN (startIds 0 ps)) (flatN iss)
  have e1 : (flatN (startIds 0 ps)).map τi = flatN iss := mapN_map hn0 (lens_flat hl0)
  have e2 : (startIds 0 ps).map (·.map τi) = iss := blocks_eq hl0 e1
  obtain ⟨n1, n2, n3⟩ := List.nodup_append.1 hnd
  have hinj : ∀ s ∈ flatN (startIds 0 ps), ∀ s' ∈ flatN (startIds 0 ps), τi s = τi s' → s = s' := nodup_inj (by rw [e1]; exact n1)
  have hdom : ∀ s ∈ domU (toIs ps (startIds 0 ps) x).2, s ∈ flatN (startIds 0 ps) := fun s hs => by
    obtain ⟨B, hB⟩ := domU_mem.1 hs
    exact toIs_ids (lkU_mem hB)
  have hren := toIs_ren τi ps (startIds 0 ps) x
  rw [e2] at hren
  have hfl : ∀ s ∈ flatN (startIds 0 ps), s ∈ domU (toIs ps (startIds 0 ps) x).2 := fun s hs => by
    have h1 : τi s ∈ flatN iss := by rw [← e1]; exact List.mem_map_of_mem hs
    have h2 := hall _ h1
    rw [hren] at h2
    simp only [domU_ren] at h2
    obtain ⟨s', h3, h4⟩ := List.mem_map.1 h2
    rw [← hinj s' (hdom s' h3) s hs h4]
    exact h3
  have hii : ∀ s ∈ domU (toIs ps (startIds 0 ps) x).2, ∀ s' ∈ domU (toIs ps (startIds 0 ps) x).2, τi s = τi s' → s = s' := fun s h1 s' h2 => hinj s (hdom s h1) s' (hdom s' h2)
  have hcl := toIs_refs ps (startIds 0 ps) x
  refine callM_of (τi := τi) (N := flatN kss ++ flatN jss) (u := madeU ps rs iss kss jss x r) h hii ?_ hlt hcl.1 (by rw [hargs, hren]) hcl.2.u w0 F0 ρ b w F vs (fun s B hs => ?_) hbn hi hv
  rotate_left
  · have := lkU_ren (σ := τi) hii hs
    rw [show renU τi (toIs ps (startIds 0 ps) x).2 = (toIs ps iss x).2 from by rw [hren]] at this
    exact hb _ _ this
  rintro q bo ⟨kss0, jss0, m1, m2, m3, rfl, rfl⟩
  have hl1 := shapeIO_lens m1 hsk
  have hl2 := shape_lens m2 hsj
  have hKf : ∀ s ∈ keptK 0 (ioOf rs), s ∈ flatN (startIds 0 ps) := fun s hs => hdom s (hK.1 s hs)
  have ⟨p1, p2, p3⟩ := List.nodup_append.1 m3
  have hKn : ((keptK 0 (ioOf rs)).map τi).Nodup := by
    have : ∀ l : List Nat, l.Nodup → (∀ s ∈ l, s ∈ flatN (startIds 0 ps)) → (l.map τi).Nodup := fun l => by
      induction l with
      | nil => intro _ _; exact List.nodup_nil
      | cons a l ih =>
        intro hn hs
        rw [List.nodup_cons] at hn
        rw [List.map_cons, List.nodup_cons]
        refine ⟨fun hm => ?_, ih hn.2 fun s h => hs s (List.mem_cons_of_mem _ h)⟩
        obtain ⟨s, h1, h2⟩ := List.mem_map.1 hm
        have := hinj s (hs s (List.mem_cons_of_mem _ h1)) a (hs a List.mem_cons_self) h2
        rw [this] at h1
        exact hn.1 h1
    exact this _ p1 hKf
  have htg : ((keptK 0 (ioOf rs)).map τi ++ (flatN kss ++ flatN jss)).Nodup := by
    refine List.nodup_append.2 ⟨hKn, n2, fun a ha b' hb' => ?_⟩
    obtain ⟨s, h1, rfl⟩ := List.mem_map.1 ha
    exact n3 _ (by rw [← e1]; exact List.mem_map_of_mem (hKf s h1)) _ hb'
  let τ := mapN (keptK 0 (ioOf rs) ++ (flatN kss0 ++ flatN jss0)) ((keptK 0 (ioOf rs)).map τi ++ (flatN kss ++ flatN jss))
  have et : (keptK 0 (ioOf rs) ++ (flatN kss0 ++ flatN jss0)).map τ = (keptK 0 (ioOf rs)).map τi ++ (flatN kss ++ flatN jss) := mapN_map m3 (by simp [lens_flat hl1, lens_flat hl2])
  have hinjo := nodup_inj (f := τ) (l := keptK 0 (ioOf rs) ++ (flatN kss0 ++ flatN jss0)) (by rw [et]; exact htg)
  have et2 := et
  rw [List.map_append, List.map_append] at et2
  obtain ⟨q1, q2⟩ := List.append_inj et2 (by simp)
  obtain ⟨q2, q3⟩ := List.append_inj q2 (by simp [lens_flat hl1])
  have hτK : ∀ s ∈ keptK 0 (ioOf rs), τ s = τi s := List.map_inj_left.1 q1
  have b1 := blocks_eq hl1 q2
  have b2 := blocks_eq hl2 q3
  obtain ⟨c1, c2, c3⟩ := boIs_ids (ioOf rs) 0 kss0 (outOf rs r) m1
  have hbo : ∀ s ∈ domU (boIs 0 (ioOf rs) kss0 (outOf rs r) ++ (toRIs (rsOf rs) jss0 (resOf rs r)).2), s ∈ keptK 0 (ioOf rs) ∨ s ∈ flatN kss0 ++ flatN jss0 := fun s hs => by
    rw [domU_app, List.mem_append] at hs
    rw [List.mem_append]
    rcases hs with hs | hs
    · rcases c2 s hs with h | h
      · exact .inl h
      · exact .inr (.inl h)
    · exact .inr (.inr (toRIs_ids hs))
  have hbo' : ∀ s ∈ domU (boIs 0 (ioOf rs) kss0 (outOf rs r) ++ (toRIs (rsOf rs) jss0 (resOf rs r)).2), s ∈ keptK 0 (ioOf rs) ++ (flatN kss0 ++ flatN jss0) := fun s hs => List.mem_append.2 (hbo s hs)
  have hnewm : ∀ s ∈ flatN kss0 ++ flatN jss0, τ s ∈ flatN kss ++ flatN jss := fun s hs => by
    rw [← q2, ← q3, ← List.map_append]
    exact List.mem_map_of_mem hs
  have hoo : ∀ s ∈ domU (boIs 0 (ioOf rs) kss0 (outOf rs r) ++ (toRIs (rsOf rs) jss0 (resOf rs r)).2), ∀ s' ∈ domU (boIs 0 (ioOf rs) kss0 (outOf rs r) ++ (toRIs (rsOf rs) jss0 (resOf rs r)).2), τ s = τ s' → s = s' := fun s h1 s' h2 => hinjo s (hbo' s h1) s' (hbo' s' h2)
  have hfit : FitU τi τ (toIs ps (startIds 0 ps) x).2 (boIs 0 (ioOf rs) kss0 (outOf rs r) ++ (toRIs (rsOf rs) jss0 (resOf rs r)).2) (keptK 0 (ioOf rs)) := by
    refine ⟨hii, hoo, fun s hs s' hs' e => ?_, fun s hs => ⟨hK.1 s hs, by rw [domU_app, List.mem_append]; exact .inl (c3 s hs), (hτK s hs).symm⟩⟩
    rcases hbo s' hs' with h1 | h1
    · rw [hτK s' h1] at e
      have := hii s hs s' (hK.1 s' h1) e
      subst this
      exact ⟨rfl, h1⟩
    · exact absurd e (n3 _ (by rw [← e1]; exact List.mem_map_of_mem (hdom s hs)) _ (hnewm s' h1))
  have hgo : gones ps iss = (gones ps (startIds 0 ps)).map τi := by rw [← gones_ren, e2]
  have hu : madeU ps rs iss kss jss x r = renU τ (boIs 0 (ioOf rs) kss0 (outOf rs r) ++ (toRIs (rsOf rs) jss0 (resOf rs r)).2) ++ goneU (renU τi (toIs ps (startIds 0 ps) x).2) (gones ps iss) := by
    unfold madeU
    rw [hren]
    have h1 := toOs_ren τi τ ps (ioOf rs) 0 iss kss0 x (outOf rs r) hio hsi m1 hτK e2
    rw [b1] at h1
    have h2 := toRIs_ren τ (rsOf rs) jss0 (resOf rs r)
    rw [b2] at h2
    rw [h1, h2, renU_app, List.append_assoc]
  refine ⟨τ, hfit, ⟨fun s B hs => ?_, fun s B hs hk => ?_, fun i B hB => ?_⟩, ?_, fun s hs hk => ?_⟩
  · rw [hu, lkU_app, lkU_ren hoo hs]
  · have hm := lkU_mem hs
    obtain ⟨⟨e, k, es, rfl⟩, hg⟩ := hK.2 s B hm hk
    have hnone : lkU (renU τ (boIs 0 (ioOf rs) kss0 (outOf rs r) ++ (toRIs (rsOf rs) jss0 (resOf rs r)).2)) (τi s) = none := by
      cases hl : lkU (renU τ (boIs 0 (ioOf rs) kss0 (outOf rs r) ++ (toRIs (rsOf rs) jss0 (resOf rs r)).2)) (τi s) with
      | none => rfl
      | some C =>
        obtain ⟨s', h1, h2⟩ := lkU_ren_inv hl
        exact absurd (hfit.io s (domU_mem.2 ⟨_, hs⟩) s' h1 h2).2 hk
    refine ⟨e, k, es, es ++ [[]], rfl, ?_, by simp⟩
    rw [hu, lkU_app, hnone]
    simp only
    rw [goneU_lk, if_pos (by rw [hgo]; exact List.mem_map_of_mem hg), lkU_ren hii hs]
    rfl
  · rw [hu, lkU_app] at hB
    split at hB
    · rename_i C hC
      obtain ⟨s', h1, h2⟩ := lkU_ren_inv hC
      exact .inl ⟨s', h1, h2⟩
    · rw [goneU_lk] at hB
      split at hB
      · rename_i hm
        rw [hgo] at hm
        obtain ⟨s, h1, h2⟩ := List.mem_map.1 hm
        exact .inr ⟨s, hfl s (gones_flat _ _ s h1), hgk s h1, h2.symm⟩
      · cases hB
  · have h2 := toRIs_ren τ (rsOf rs) jss0 (resOf rs r)
    rw [b2] at h2
    rw [one_ren, h2]
  · exact hnewm s ((hbo s hs).resolve_left hk)

/-- **A function's contract, where it turns boxes or answers rows of its own.** -/
theorem ctrM_of {P : Program} {T : List (Nat × Ent)} {n : Nat} {ps rs : List PT} {vars : List ResultVar} {fz : List (Nat × List Nat)} {sc : List Nat} {fb : List (Nat × List Nat)} {h : Hint} {f : FuncId} {fn : Func} {c : Code} (hT : TabOk P T) (hm : P.follows .mixedOrders = true) (hf : P.funcs[f]? = some fn) (hb : fn.body = some c) (hcb : callable P f = true) (hn : fn.ntmps = n) (hv : fn.results.toList = vars)
    (hl : (decide (ps.length ≤ n) && (ptsOkM ps && (anyM rs && (okIO ps (ioOf rs) && (nodupN (flatN (startIds 0 ps)) && disjN (gones ps (startIds 0 ps)) (keptK 0 (ioOf rs))))))) = true)
    {F : dens ps → Option (densR rs)} (hlen : ∀ x r, F x = some r → lenOs ps (ioOf rs) x (outOf rs r)) (hF : ∀ x, runFM ⟨P, T, n, rs, vars, fz, sc, fb⟩ c h ps x = F x) : CtrOk P f ps rs F := by
  intro x r hx
  simp only [Bool.and_eq_true] at hl
  obtain ⟨hl1, hl2, hl3, hl4, hl5, hl6⟩ := hl
  refine ⟨fun hnM => (by rw [Bool.or_eq_false_iff, hl3] at hnM; cases hnM.2), fun _ => ?_⟩
  have hln := hlen x r hx
  rw [← hF] at hx
  have hlen := of_decide_eq_true hl1
  subst hn
  unfold runFM at hx
  split at hx
  rotate_left
  · cases hx
  rename_i vs bx hen
  obtain ⟨hnd, hx⟩ := chk_some hx
  have hseen : Seen bx bx := by have := seen_of (l' := []) (nodupN_spec hnd); rw [List.append_nil] at this; exact this
  obtain ⟨hal, hargs⟩ := encIs_ok (G := []) hl2 hen hseen
  have halen : (toIs ps (startIds 0 ps) x).1.length = ps.length := by
    have : ∀ (ps : List PT) (i : Nat) (x : dens ps), (toIs ps (startIds i ps) x).1.length = ps.length := fun ps => by
      induction ps with
      | nil => intro i x; rfl
      | cons p ps ih => intro i x; simp only [startIds, toIs, List.length_cons, ih]
    exact this ps 0 x
  refine ctrB_of hl4 hln (nodupN_spec hl5) (fun s hs hk => ?_) ?_
  · have := disjN_spec hl6 s (memN_mem.2 hs)
    rw [memN_not] at this
    exact this hk
  refine pcm_intro hf hb hcb (by rw [halen]; exact hlen) (kept_big _ 0) ?_
  have hs : SimW ⟨argX 0 vs, bx, [], false, []⟩ ⟨argsT (toIs ps (startIds 0 ps) x).1, lkU (toIs ps (startIds 0 ps) x).2⟩ := by
    refine ⟨fun i => ?_, fun t b hbl => ?_⟩
    · show VSim bx (lkV (argX 0 vs) i) (argsT (toIs ps (startIds 0 ps) x).1 i)
      have := argX_lk vs 0 i
      rw [Nat.zero_add] at this
      rw [this]
      unfold argsT
      cases h1 : vs[i]? with
      | none => exact .junk _
      | some v =>
        have hlt : i < (toIs ps (startIds 0 ps) x).1.length := by rw [← hargs.len]; exact (List.getElem?_eq_some_iff.1 h1).1
        rw [List.getElem?_eq_getElem hlt]
        exact hargs.rep i v _ h1 (List.getElem?_eq_getElem hlt)
    · show BSim bx true (some b) (lkU (toIs ps (startIds 0 ps) x).2 t)
      have hbl : lkB bx t = some b := hbl
      rcases ual_lk hal [] t with ⟨_, sb, b', m2, m3, m4, _⟩ | ⟨_, m2, _⟩
      · rw [List.append_nil, hbl] at m2
        rw [m3]
        exact m4 b m2.symm
      · rw [List.append_nil, hbl] at m2
        cases m2
  have hpr : PrOk ⟨argX 0 vs, bx, [], false, []⟩ := fun t ht => by cases ht
  have fin : ∀ {e : Exit} {p' : PS}, (match e with | .normal => True | .ret => True | _ => False) → RetOk ⟨P, T, fn.ntmps, rs, vars, fz, sc, fb⟩ fn p' r → RetM P fn (keptK 0 (ioOf rs)) (fun q bo => ∃ kss jss, shapeIO (ioOf rs) kss ∧ shapeOk (rsOf rs) jss ∧ (keptK 0 (ioOf rs) ++ (flatN kss ++ flatN jss)).Nodup ∧ q = oneP (toRIs (rsOf rs) jss (resOf rs r)).1 ∧ bo = boIs 0 (ioOf rs) kss (outOf rs r) ++ (toRIs (rsOf rs) jss (resOf rs r)).2) e p' := fun {e p'} he hr => by
    obtain ⟨kss, jss, m1, m2, m3, ⟨q, m4, m5⟩, m6⟩ := hr.2 hl3
    have m1 : shapeIO (ioOf rs) kss := m1
    have m2 : shapeOk (rsOf rs) jss := m2
    have m5 : nrmP q = oneP (toRIs (rsOf rs) jss (resOf rs r)).1 := m5
    obtain ⟨c1, c2, c3⟩ := boIs_ids (ioOf rs) 0 kss (outOf rs r) m1
    obtain ⟨d1, d2⟩ := toRIs_refs (rsOf rs) jss (resOf rs r)
    refine ⟨he, _, _, ⟨kss, jss, m1, m2, m3, rfl, rfl⟩, fun t ht => by rw [domU_app, List.mem_append]; exact .inl (c3 t ht), fun s hs => ?_, (c1.app d2).u, ⟨q, m4, m5⟩, fun t B ht => m6 t B (lkU_mem ht)⟩
    rw [domU_app, List.mem_append]
    exact .inr (d1 s (one_refs _ s hs))
  refine pwp_conseq (exec_ok (C := ⟨P, T, fn.ntmps, rs, vars, fz, sc, fb⟩) (fn := fn) hT hm hv c h _ _ _ _ _ r hpr hs hx) fun e p' hq => ?_
  by_cases he : e = .ret
  · subst he
    obtain ⟨r', h1, h3⟩ := hq
    injection h3 with h3
    subst h3
    exact ⟨p', .refl _, fin trivial h1⟩
  · obtain ⟨s', m1, m2, m3⟩ := postE_e he hq
    cases e with
    | normal =>
      obtain ⟨p2, h1, h2⟩ := kret_ok (C := ⟨P, T, fn.ntmps, rs, vars, fz, sc, fb⟩) hv (prOk_clr (m2.prOk hpr)) (simW_cut m1) m3
      exact ⟨p2, (le_cut m1).trans h1, fin trivial h2⟩
    | ret => exact absurd rfl he
    | _ => cases m3
end Go.Proofs.Ytjeeclabnimbbaa

/- The typed executor: contracts of library functions that are told by hand. -/
namespace Go.Proofs.Ytjeeclabnimbbaa
open Go.RowKit

theorem own_low {w : World} {B e k n : Nat} {v : Value} {xs : List Value} (h : w.ownsRow B e k v n xs) : w.ownsRow 0 e k v n xs ∧ ∀ g, blk v = some g → B ≤ g := by
  refine ⟨⟨h.1, ?_⟩, fun g hg => ?_⟩
  · rcases h.2 with hn | ⟨g, cap, cur, rfl, hb, hr⟩
    · exact .inl hn
    · exact .inr ⟨g, cap, cur, rfl, Nat.zero_le _, hr⟩
  · rcases h.2 with ⟨rfl, _⟩ | ⟨g', cap, cur, rfl, hb, hr⟩
    · cases hg
    · injection hg with hg; subst hg; exact hb
/-- A function that is handed a list and answers a row of its own. -/
theorem ctr_row {P : Program} {f : FuncId} {ty : Ty} {e k : Nat} {F : List ty.den → Option (List ty.den)} (hk : tyN ty = k) (hk0 : 0 < k) (hcall : callable P f = true)
    (H : ∀ (xs zs : List ty.den) (w : World) (G : Nat → Prop) (v : Value), F xs = some zs → (∀ g, G g → g < w.heap.size) → DRep w G v (.sl (xs.map (encE ty))) → Calls P f #[v] w fun en w' => ∃ v' us, en = .returned v' ∧ w'.ownsRow w.heap.size e k v' zs.length us ∧ Ext w w' ∧ us.length = zs.length * k ∧ ∀ (j : Nat) u d, us[j]? = some u → (zs.map (encE ty)).flatten[j]? = some d → DRep w G u d) :
    CtrOk P f [.lf (.sl ty)] [.io [.no], .own e k ty] (fun x => (F x.1).bind fun z => some (((), ()), z)) := by
  rintro ⟨xs, ⟨⟩⟩ zz hF
  change List ty.den at xs
  obtain ⟨zs, hz, hF⟩ := bindS hF
  injection hF with hF
  subst hF
  refine ⟨fun h => (by cases h), fun _ => ⟨⟨trivial, trivial⟩, fun iss kss jss h1 h2 h3 h4 h5 h6 => ⟨hcall, ?_⟩⟩⟩
  match iss, h1 with
  | [is], h1 =>
  match is, h1.1 with
  | [], _ =>
  match kss, h2 with
  | [ks], h2 =>
  match ks, h2.1 with
  | [], _ =>
  match jss, h3 with
  | [js], h3 =>
  match js, h3.1 with
  | [j], _ =>
  intro w0 F0 ρ b w G vs args ha hb0 hb hi hr
  have hj : j < 1000000 := h5 j (by simp [flatN])
  have hbj : b j = none := hb j (by simp [flatN])
  have hal : args.length = 1 := by rw [← nrmPs_len args, ha]; rfl
  match args, hal with
  | [a], _ =>
  have ha : nrmP a = .d (.sl (xs.map (encE ty))) := by
    simp only [nrmPs, toIs, toI, List.cons.injEq] at ha
    exact ha.1
  have hvl : vs.toList.length = 1 := hr.len
  obtain ⟨v, hv⟩ : ∃ v, vs = #[v] := by
    match hv : vs.toList, hvl with
    | [v], _ => exact ⟨v, by apply Array.ext'; simpa using hv⟩
  subst hv
  have hrep := (hr.rep 0 v a rfl rfl).nrmd
  rw [ha] at hrep
  have hd : DRep w G v (.sl (xs.map (encE ty))) := by
    cases hrep with
    | d _ _ h => exact h
  refine (H xs zs w G v hz hi.flt hd).mono ?_
  rintro en w' ⟨v', us, rfl, ho, hx, hl, hu⟩
  obtain ⟨ho0, hbase⟩ := own_low ho
  have hzl : ∀ x ∈ zs.map (encE ty), x.length = k := fun x hx => by
    obtain ⟨y, _, rfl⟩ := List.mem_map.1 hx
    rw [encE_len, hk]
  have := newRw (P := P) (t := j) (e := e) (k := k) (es := zs.map (encE ty)) (xs := us) (v := v') (w' := w') hi hj hbj hk0 hx hbase (by rw [List.length_map]; exact ho0) hzl (by rw [hl, flat_length k _ hzl, List.length_map]) hu
  obtain ⟨v2, w2, ρ', e1, k1, k2, k3⟩ := this
  injection e1 with e1 e2
  subst e1 e2
  have hU : bupdL b (madeU [.lf (.sl ty)] [.io [.no], .own e k ty] [[]] [[]] [[j]] (xs, ()) (((), ()), zs)) = bupd b (some (j, .rw e k (zs.map (encE ty)))) := by
    rw [← bupdL_opt]; rfl
  rw [hU]
  refine ⟨v', ρ', G, rfl, k1, k2, ?_⟩
  rw [List.length_map] at k3
  exact k3
/-- A function of one text. -/
theorem ctr_str {P : Program} {f : FuncId} {F : dens [.lf .str] → Option (densR [.lf .str])} (hcall : callable P f = true)
    (H : ∀ (x z : ByteArray) (w : World), F (x, ()) = some z → Calls P f #[.string x] w fun en w' => en = .returned (.string z) ∧ Ext w w') : CtrOk P f [.lf .str] [.lf .str] F := by
  rintro ⟨x, ⟨⟩⟩ z hF
  refine ⟨fun _ => ⟨hcall, fun w G vs hG hr => ?_⟩, fun h => (by cases h)⟩
  have hvl : vs.toList.length = 1 := hr.len
  obtain ⟨v, hv⟩ : ∃ v, vs = #[v] := by
    match hv : vs.toList, hvl with
    | [v], _ => exact ⟨v, by apply Array.ext'; simpa using hv⟩
  subst hv
  obtain ⟨rfl, _⟩ := PRep.vv (hr.rep 0 v _ rfl rfl)
  refine (H x z w hF).mono ?_
  rintro en w' ⟨rfl, hx⟩
  exact ⟨_, G, rfl, hx, fun _ h => h, fun g hg => Nat.lt_of_lt_of_le (hG g hg) hx.size, fun _ h => .inl h, .d _ _ (.v _ rfl)⟩
end Go.Proofs.Ytjeeclabnimbbaa

/- Rows of elements of k cells, in memory. -/
namespace Go.Proofs.Ytjeeclabnimbbaa
open Go.RowKit

theorem at_worldB {P : Program} {f : Func} {post : Ending → World → Prop} {ex : Exit} {a : Act} {w : World} (h : ∀ W, W = w → bodyPost P f post ex a W) : bodyPost P f post ex a w := h w rfl
theorem set_two (l : List Value) (n : Nat) (hn : l.length = n) (u v x y : Value) (r : List Value) : ((l ++ u :: v :: r).set n x).set (n + 1) y = l ++ x :: y :: r := by
  subst hn
  induction l with
  | nil => rfl
  | cons a l ih => simp [ih]
theorem get_two (l : List Value) (n : Nat) (hn : l.length = n) (u v : Value) (r : List Value) : (l ++ u :: v :: r)[n]? = some u ∧ (l ++ u :: v :: r)[n + 1]? = some v := by
  subst hn
  simp [List.getElem?_append_right]
theorem own_ExtK {w w' : World} {base : Nat} {e : TypeId} {k : Nat} {v : Value} {n : Nat} {xs : List Value} (h : w.ownsRow base e k v n xs) (x : Ext w w') : w'.ownsRow base e k v n xs := by
  refine ⟨h.1, ?_⟩
  rcases h.2 with hn | ⟨g, cap, cur, rfl, hb, hg, hr⟩
  · exact .inl hn
  · exact .inr ⟨g, cap, cur, rfl, hb, (x.block g (Array.getElem?_eq_some_iff.1 hg).1).trans hg, hr⟩

/-- v reads as n elements of k cells each: xs. -/
def RdK (k : Nat) (w : World) (v : Value) (n : Nat) (xs : List Value) : Prop :=
  ∃ A c, v = .slice A n c ∧ n ≤ c ∧ c ≤ maxLen ∧ xs.length = n * k ∧ (0 < xs.length → ∃ a, A = some a ∧ a.block < w.heap.size ∧ ∀ j u, xs[j]? = some u → w.cell? (a.add j) = some u)
theorem RdK.ext {k : Nat} {w w' : World} {v : Value} {n : Nat} {xs : List Value} (h : RdK k w v n xs) (x : Ext w w') : RdK k w' v n xs := by
  obtain ⟨A, c, rfl, h1, h2, h3, h4⟩ := h
  refine ⟨A, c, rfl, h1, h2, h3, fun hn => ?_⟩
  obtain ⟨a, rfl, hb, hc⟩ := h4 hn
  exact ⟨a, rfl, Nat.lt_of_lt_of_le hb x.size, fun j u hu => (Below.cell x (p := a.add j) (by rw [add_block]; exact hb)).trans (hc j u hu)⟩
theorem RdK.of_own {k : Nat} {w : World} {base : Nat} {e : TypeId} {v : Value} {n : Nat} {xs : List Value} (h : w.ownsRow base e k v n xs) : RdK k w v n xs := by
  have hl := h.1
  rcases h.2 with ⟨rfl, h0⟩ | ⟨g, cap, cur, rfl, _, hg, hc, hm, _⟩
  · subst h0; exact ⟨none, 0, rfl, Nat.le_refl _, by simp [maxLen], hl, fun hn => by omega⟩
  · exact ⟨_, cap, rfl, hc, hm, hl, fun hn => ⟨⟨g, 0, none⟩, rfl, (Array.getElem?_eq_some_iff.1 hg).1, h.cells (g := g) rfl⟩⟩
theorem RdK.grown {k : Nat} {w w' : World} {row : Option Nat} {v : Value} {n : Nat} {xs : List Value} (h : RdK k w v n xs) (x : w.grownBy w' row) (hr : ∀ g, row = some g → v.ownBlock ≠ some g) : RdK k w' v n xs := by
  obtain ⟨A, c, rfl, h1, h2, h3, h4⟩ := h
  refine ⟨A, c, rfl, h1, h2, h3, fun hn => ?_⟩
  obtain ⟨a, rfl, hb, hc⟩ := h4 hn
  refine ⟨a, rfl, Nat.lt_of_lt_of_le hb x.size, fun j u hu => ?_⟩
  rw [World.cell?_of_block (x.block (a.add j).block (by rw [add_block]; exact hb) (fun e => hr _ e.symm (by rw [add_block]; rfl)))]
  exact hc j u hu
/-- Whatever is no cells may turn. -/
theorem RdK.turned {k : Nat} {w w' : World} {row : Option Nat} {v : Value} {n : Nat} {xs : List Value} (h : RdK k w v n xs) (x : w.grownBy w' row) (hr : ∀ r, row = some r → ∃ o : Obj, w.heap[r]? = some o ∧ o.isCells = false) : RdK k w' v n xs := by
  obtain ⟨A, c, rfl, h1, h2, h3, h4⟩ := h
  refine ⟨A, c, rfl, h1, h2, h3, fun hn => ?_⟩
  obtain ⟨a, rfl, hb, hc⟩ := h4 hn
  exact ⟨a, rfl, Nat.lt_of_lt_of_le hb x.size, fun j u hu => cell_kept (hc j u hu) x hr⟩

/-- All cells that lie from block B on are as they were. -/
def Above (B : Nat) (w w' : World) : Prop := w.heap.size ≤ w'.heap.size ∧ ∀ g (o : Obj), B ≤ g → w.heap[g]? = some o → o.isCells = true → w'.heap[g]? = some o
theorem cell_block {w : World} {p : Addr} {u : Value} (h : w.cell? p = some u) : ∃ o : Obj, w.heap[p.block]? = some o ∧ o.isCells = true := by
  unfold World.cell? at h
  split at h
  · rename_i c e f hb
    exact ⟨_, hb, rfl⟩
  · simp at h
theorem Above.cell {B : Nat} {w w' : World} (x : Above B w w') {p : Addr} {u : Value} (h : w.cell? p = some u) (hB : B ≤ p.block) : w'.cell? p = some u := by
  obtain ⟨o, ho, hc⟩ := cell_block h
  rw [World.cell?_of_block ((x.2 p.block o hB ho hc).trans ho.symm)]
  exact h
theorem RdK.above {k B : Nat} {w w' : World} {v : Value} {n : Nat} {xs : List Value} (h : RdK k w v n xs) (x : Above B w w') (hr : ∀ g, v.ownBlock = some g → B ≤ g) : RdK k w' v n xs := by
  obtain ⟨A, c, rfl, h1, h2, h3, h4⟩ := h
  refine ⟨A, c, rfl, h1, h2, h3, fun hn => ?_⟩
  obtain ⟨a, rfl, hb, hc⟩ := h4 hn
  exact ⟨a, rfl, Nat.lt_of_lt_of_le hb x.1, fun j u hu => x.cell (hc j u hu) (by rw [add_block]; exact hr _ rfl)⟩
theorem Rd.above {B : Nat} {w w' : World} {v : Value} {xs : List Value} (h : Rd w v xs) (x : Above B w w') (hr : ∀ g, v.ownBlock = some g → B ≤ g) : Rd w' v xs := by
  obtain ⟨A, c, rfl, h1, h2, h3⟩ := h
  refine ⟨A, c, rfl, h1, h2, fun hn => ?_⟩
  obtain ⟨a, rfl, hb, hc⟩ := h3 hn
  exact ⟨a, rfl, Nat.lt_of_lt_of_le hb x.1, fun j u hu => x.cell (hc j u hu) (by rw [add_block]; exact hr _ rfl)⟩

theorem own_turned {w w' : World} {B e k n : Nat} {row : Option Nat} {v : Value} {xs : List Value} (h : w.ownsRow B e k v n xs) (x : w.grownBy w' row) (hr : ∀ r, row = some r → ∃ o : Obj, w.heap[r]? = some o ∧ o.isCells = false) : w'.ownsRow B e k v n xs := by
  refine ⟨h.1, ?_⟩
  rcases h.2 with hn | ⟨g, cap, cur, rfl, hb, hg, hrest⟩
  · exact .inl hn
  · refine .inr ⟨g, cap, cur, rfl, hb, ?_, hrest⟩
    rw [x.block g (Array.getElem?_eq_some_iff.1 hg).1 (fun e => by
      obtain ⟨o, ho, hc⟩ := hr g e.symm
      rw [hg] at ho
      injection ho with ho
      subst ho
      cases hc)]
    exact hg
/-- append onto a row of the call's own, as one step of a region that draws. -/
theorem step_app_own {P : Program} {ops : Array Oper} {o : Oper} {a : Act} {w : World} {K : Act → World → Prop} {Q : Exit → Act → World → Prop} {E : Prop} (hgd : o.guard = none) (s x : Operand) (t : TypeId)
    (ho : o.op = .call { callee := .builtin .append, args := #[s, x], argTypes := #[t, t] })
    (base : Nat) (e : TypeId) (i : TypeInfo) (z : Value) (size bytes : Nat) (ht : P.underlying t = some (.slice e)) (hi : P.info? e = some i) (hz : i.zero = some z)
    (hsize : i.size = size) (hby : i.bytes = bytes) (hzs : z.cells.size = size) (hsz : 0 < size)
    (v : Value) (n : Nat) (xs : List Value) (hs : a.eval s = v) (hown : w.ownsRow base e size v n xs)
    (ad : Addr) (m c : Nat) (news : List Value) (hx : a.eval x = .slice (some ad) m c) (hl : news.length = m * size) (hnews : ∀ j u, news[j]? = some u → w.cell? (ad.add j) = some u) (h1 : ∀ u ∈ news, u.oneCell' = true)
    (h63 : n + m ≤ maxLen) (hbytes : (n + m) * bytes ≤ 140737488355328) (hbase : base ≤ w.heap.size)
    (h : ∀ v' w', w'.ownsRow base e size v' (n + m) (xs ++ news) → w.grownBy w' v.ownBlock → (v'.ownBlock = v.ownBlock ∨ v'.ownBlock = some w.heap.size) → K (a.put o.dst v') w') :
    if Region.wanted o (yielded ops a.tmps) = true then Oper.wp P o a w K Q else E := by
  have hw : Region.wanted o (yielded ops a.tmps) = true := by simp [Region.wanted, hgd]
  rw [if_pos hw]
  obtain ⟨v', w', hr, h2, h3, h4, h5⟩ := run_append_own_at (P := P) w base t o.type e i z size bytes ht hi hz hsize hby hzs hsz v n xs hown ad m c news hl hnews h1 h63 hbytes hbase
  unfold Oper.wp execOp
  simp only [ho, resolve, invoke, builtin, Sem.run_bind, Sem.run_pure, Result.andThen_ok, List.map_toArray, List.map_cons, List.map_nil, hs, hx, hr]
  exact h v' w' h2 h3 h5

theorem own_shape {w : World} {B e k n : Nat} {v : Value} {xs : List Value} (h : w.ownsRow B e k v n xs) : ∃ A c, v = .slice A n c ∧ n ≤ c ∧ c ≤ 9223372036854775807 := by
  rcases h.2 with ⟨rfl, h0⟩ | ⟨g, cap, cur, rfl, _, _, hc, hm, _⟩
  · subst h0; exact ⟨none, 0, rfl, Nat.le_refl _, by omega⟩
  · unfold maxLen at hm; exact ⟨_, cap, rfl, hc, by omega⟩

theorem own_heap {w W : World} {B e k n : Nat} {v : Value} {xs : List Value} (h : w.ownsRow B e k v n xs) (hW : W.heap = w.heap) : W.ownsRow B e k v n xs := by
  refine ⟨h.1, ?_⟩
  rw [hW]
  exact h.2
theorem cell_three_new (w : World) (x y z : Value) (t : TypeId) : ∀ j u, [x, y, z][j]? = some u → (w.alloc (.cells #[x, y, z] t)).cell? ((⟨w.heap.size, 0, none⟩ : Addr).add j) = some u := by
  intro j u hu
  have hadd : (⟨w.heap.size, 0, none⟩ : Addr).add j = ⟨w.heap.size, j, none⟩ := by unfold Addr.add; split <;> simp_all
  rw [hadd, cell_of_row _ w.heap.size j _ t (0, 0) (heap_alloc_new w _), ← Array.getElem?_toList]
  exact hu
theorem own_ne {w : World} {B B' e e' k k' n n' : Nat} {v v' : Value} {xs xs' : List Value} (h : w.ownsRow B e k v n xs) (h' : w.ownsRow B' e' k' v' n' xs') (he : e ≠ e') : v.ownBlock = none ∨ v.ownBlock ≠ v'.ownBlock := by
  rcases h.2 with ⟨rfl, _⟩ | ⟨g, cap, cur, rfl, _, hg, _⟩
  · exact .inl rfl
  · refine .inr fun e1 => ?_
    rcases h'.2 with ⟨rfl, _⟩ | ⟨g', cap', cur', rfl, _, hg', _⟩
    · cases e1
    · simp [Value.ownBlock] at e1
      subst e1
      rw [hg] at hg'
      injection hg' with hg'
      injection hg' with _ h2
      exact he h2
theorem own_emptyT (W : World) (B : Nat) (e : TypeId) (k : Nat) (h : B ≤ W.heap.size) : (W.alloc (.cells #[] e)).ownsRow B e k (.slice (some ⟨W.heap.size, 0, none⟩) 0 0) 0 [] :=
  ⟨by simp, .inr ⟨W.heap.size, 0, #[], rfl, h, heap_alloc_new W _, Nat.le_refl _, by simp [maxLen], by simp, by simp⟩⟩
/-- append of a row of the call's own to an empty one: the row may be nil. -/
theorem wpList_append_twoR {P : Program} {w : World} {ops : Array Oper} {rest : List Oper} {o : Oper} {a : Act} {Q : Exit → Act → World → Prop} (hgd : o.guard = none) (s x : Operand) (t : TypeId)
    (ho : o.op = .call { callee := .builtin .append, args := #[s, x], argTypes := #[t, t] })
    (base : Nat) (e : TypeId) (i : TypeInfo) (z : Value) (size bytes : Nat) (ht : P.underlying t = some (.slice e)) (hi : P.info? e = some i) (hz : i.zero = some z)
    (hsize : i.size = size) (hby : i.bytes = bytes) (hzs : z.cells.size = size) (hsz : 0 < size)
    (v : Value) (hs : a.eval s = v) (hown : w.ownsRow base e size v 0 [])
    (vx : Value) (m : Nat) (news : List Value) (hx : a.eval x = vx) (hown2 : (vx = .slice none 0 0 ∧ m = 0 ∧ news = []) ∨ ∃ ad c, vx = .slice (some ad) m c ∧ news.length = m * size ∧ ∀ j u, news[j]? = some u → w.cell? (ad.add j) = some u) (h1 : ∀ u ∈ news, u.oneCell' = true)
    (h63 : m ≤ maxLen) (hbytes : m * bytes ≤ 140737488355328) (hbase : base ≤ w.heap.size)
    (h : ∀ v' w', w'.ownsRow base e size v' m news → w.grownBy w' v.ownBlock → wpList P ops Q rest (a.put o.dst v') w') :
    wpList P ops Q (o :: rest) a w := by
  rcases hown2 with ⟨rfl, rfl, rfl⟩ | ⟨ad, c, rfl, hl, hc⟩
  · exact wpList_append_own_none hgd s x t ho base e i size ht hi v 0 [] hs hown hx (h v w hown (World.grownBy.refl _ _))
  · refine wpList_append_own_at w hgd s x t ho base e i z size bytes ht hi hz hsize hby hzs hsz v 0 [] hs hown ad m c news hx hl hc h1 (by omega) (by rw [Nat.zero_add]; exact hbytes) hbase ?_
    intro v' w' k1 k2 _ _
    rw [Nat.zero_add, List.nil_append] at k1
    exact h v' w' k1 k2
end Go.Proofs.Ytjeeclabnimbbaa

/- append(x, make([]T, m)...): so many zeros behind a row of the call's own. -/
namespace Go.Proofs.Ytjeeclabnimbbaa
open Go.RowKit

section
variable {P : Program} (w : World)

theorem zeros_list (z : Value) (hz : z.cells = #[z]) (m : Nat) : Builtin.zeroCells z.cells m = (List.replicate m z).toArray := by
  rw [hz]
  apply Array.ext
  · simp [Builtin.zeroCells]
  · intro i h1 h2
    simp [Builtin.zeroCells]
    have : i % 1 = 0 := Nat.mod_one i
    simp [this]

theorem run_mk_grow (t tx ty e : TypeId) (i : TypeInfo) (z : Value) (ht : P.underlying t = some (.slice e)) (hk : P.underlying tx = some (.int .i64)) (hi : P.info? e = some i) (hz : i.zero = some z) (hs1 : i.size = 1) (hzc : z.cells = #[z])
    (base : Option Addr) (sLen sCap : Nat) (olds : List Value)
    (hold : (Builtin.firstCells i.size sLen (.slice base sLen sCap)).run P w.drew = .ok olds.toArray w.drew) (n : Nat) (hn0 : 0 < n)
    (hg : sCap < sLen + n) (h63 : ((sLen + n : Nat) : Int) ≤ 9223372036854775807) (hb : n * i.bytes ≤ 281474976710656) (hfit : Builtin.nextslicecap (sLen + n) sCap * i.bytes ≤ 281474976710656) :
    (Builtin.append_ #[t, tx] ty #[.slice base sLen sCap, .int .i64 (n : Int)]).run P w =
      .ok (.slice (some ⟨w.heap.size, 0, none⟩) (sLen + n) (grownCap w (sLen + n) sCap e))
        (w.drew.alloc (.cells ((olds ++ List.replicate n z).toArray ++ Builtin.zeroCells z.cells (grownCap w (sLen + n) sCap e - (sLen + n))) e)) := by
  have hn : ¬ (sLen + n ≤ sCap) := by omega
  have h63' : ¬ (9223372036854775807 < ((sLen : Int) + (n : Int))) := by omega
  have h48' : ¬ (281474976710656 < Builtin.nextslicecap (sLen + n) sCap * i.bytes) := by omega
  have hw : IntKind.i64.wrap (n : Int) = (n : Int) := IntWalk.i64_in _ (by omega)
  have hneg : ¬ ((n : Int) < 0) := by omega
  have hmax : max (n : Int) 0 = (n : Int) := by omega
  have hbb : ¬ (281474976710656 < (n : Int) * (i.bytes : Int)) := by
    have : ((n * i.bytes : Nat) : Int) ≤ 281474976710656 := by omega
    push_cast at this; omega
  have hnz : ¬ (n = 0) := by omega
  have hzl := zeros_list z hzc n
  rw [hzc] at hzl
  rw [hs1] at hold
  simp [Builtin.append_, run_underlying ht, run_underlying hk, sizeOf, typeInfo, zeroValue, hi, hz, hs1, asInt, asIntOf, hmax, hw, hneg, hbb, hnz, hn, h63', h48', Question.forced, hold, newRow, grownCap, hzc, hzl]
  congr 2
  apply Array.ext'
  simp [List.append_assoc]

theorem run_mk_room (t tx ty e : TypeId) (i : TypeInfo) (z : Value) (ht : P.underlying t = some (.slice e)) (hk : P.underlying tx = some (.int .i64)) (hi : P.info? e = some i) (hz : i.zero = some z) (hs1 : i.size = 1) (hzc : z.cells = #[z]) (hz1 : z.oneCell' = true)
    (g sLen sCap : Nat) (cur : Array Value) (hg : w.heap[g]? = some (.cells cur e (0, 0))) (n : Nat) (hn0 : 0 < n) (h63 : ((sLen + n : Nat) : Int) ≤ 9223372036854775807) (hb : n * i.bytes ≤ 281474976710656)
    (hroom : sLen + n ≤ sCap) (hfit : sLen + n ≤ cur.size) :
    (Builtin.append_ #[t, tx] ty #[.slice (some ⟨g, 0, none⟩) sLen sCap, .int .i64 (n : Int)]).run P w =
      .ok (.slice (some ⟨g, 0, none⟩) (sLen + n) sCap) (w.setRow g (cur.toList.take sLen ++ List.replicate n z ++ cur.toList.drop (sLen + n)).toArray) := by
  have hst := run_storeCells_at P g sLen e (List.replicate n z) 0 cur w hg (by simp; omega) (by intro v hv; rw [List.mem_replicate] at hv; rw [hv.2]; exact hz1)
  simp only [Nat.add_zero, List.length_replicate] at hst
  have hw : IntKind.i64.wrap (n : Int) = (n : Int) := IntWalk.i64_in _ (by omega)
  have hneg : ¬ ((n : Int) < 0) := by omega
  have hmax : max (n : Int) 0 = (n : Int) := by omega
  have hbb : ¬ (281474976710656 < (n : Int) * (i.bytes : Int)) := by
    have : ((n * i.bytes : Nat) : Int) ≤ 281474976710656 := by omega
    push_cast at this; omega
  have hnz : ¬ (n = 0) := by omega
  have hzl := zeros_list z hzc n
  rw [hzc] at hzl
  simp [Builtin.append_, run_underlying ht, run_underlying hk, sizeOf, typeInfo, zeroValue, hi, hz, hs1, asInt, asIntOf, hmax, hw, hneg, hbb, hnz, hroom, hzc, hzl, Addr.add_lit, hst]

/-- The law: the zeros stand behind what the row held. -/
theorem run_app_mk (base : Nat) (t tx ty e : TypeId) (i : TypeInfo) (z : Value) (bytes : Nat) (ht : P.underlying t = some (.slice e)) (hk : P.underlying tx = some (.int .i64)) (hi : P.info? e = some i) (hz : i.zero = some z)
    (hsize : i.size = 1) (hby : i.bytes = bytes) (hzc : z.cells = #[z]) (hz1 : z.oneCell' = true)
    (v : Value) (n : Nat) (xs : List Value) (hown : w.ownsRow base e 1 v n xs) (m : Nat) (hm : 0 < m)
    (h63 : n + m ≤ maxLen) (hbytes : (n + m) * bytes ≤ 140737488355328) (hbase : base ≤ w.heap.size) :
    ∃ v' w', (Builtin.append_ #[t, tx] ty #[v, .int .i64 (m : Int)]).run P w = .ok v' w' ∧ w'.ownsRow base e 1 v' (n + m) (xs ++ List.replicate m z) ∧ w.grownBy w' v.ownBlock ∧
      (v'.ownBlock = v.ownBlock ∨ v'.ownBlock = some w.heap.size) := by
  subst hby
  have hsmall : n + m ≤ 9223372036854775807 := by simp only [maxLen] at h63; omega
  have hmb : m * i.bytes ≤ 281474976710656 := by
    have : m * i.bytes ≤ (n + m) * i.bytes := Nat.mul_le_mul_right _ (by omega)
    omega
  have hzs : z.cells.size = 1 := by rw [hzc]; rfl
  have hl : (List.replicate m z).length = m := List.length_replicate
  have hlen : (xs ++ List.replicate m z).length = (n + m) * 1 := by rw [List.length_append, hown.1, hl]; omega
  have grown : ∀ (old : Nat), old < n + m → ∀ (row : Option Nat),
      (w.drew.alloc (.cells ((xs ++ List.replicate m z).toArray ++ Builtin.zeroCells z.cells (grownCap w (n + m) old e - (n + m))) e)).ownsRow base e 1
        (.slice (some ⟨w.heap.size, 0, none⟩) (n + m) (grownCap w (n + m) old e)) (n + m) (xs ++ List.replicate m z) ∧
      w.grownBy (w.drew.alloc (.cells ((xs ++ List.replicate m z).toArray ++ Builtin.zeroCells z.cells (grownCap w (n + m) old e - (n + m))) e)) row := by
    intro old ho row
    have hge := grownCap_ge w (n + m) old e
    have hcm : grownCap w (n + m) old e ≤ maxLen := grownCap_le_maxLen w (n + m) old e h63
    refine ⟨⟨hlen, .inr ⟨w.heap.size, _, _, rfl, hbase, heap_alloc_new w.drew _, hge, hcm, ?_, ?_⟩⟩, ⟨rfl, rfl, rfl, by simp, fun k hk _ => heap_alloc_old w.drew _ hk⟩⟩
    · simp only [Array.size_append, List.size_toArray, size_zeroCells, hzs, hlen]
      omega
    · simp only [Array.toList_append]
      rw [← hlen]
      exact List.take_left
  rcases hown.2 with ⟨rfl, rfl⟩ | ⟨g, cap, cur, rfl, hbg, hg, hnc, hcm, hcs, htake⟩
  · have hx : xs = [] := List.eq_nil_of_length_eq_zero (by simpa using hown.1)
    subst hx
    have hr := run_mk_grow (P := P) w t tx ty e i z ht hk hi hz hsize hzc none 0 0 [] (by simpa using run_firstCells_none w.drew i.size 0 0 0) m hm (by omega) (by omega) hmb (by
        have hb := hbytes; rw [Nat.zero_add] at hb ⊢; rw [nextslicecap_zero (by omega)]; omega)
    have hgr := grown 0 (by omega) (Value.ownBlock (.slice none 0 0))
    exact ⟨_, _, hr, hgr.1, hgr.2, .inr rfl⟩
  · by_cases hroom : n + m ≤ cap
    · have hfit : n + m ≤ cur.size := by omega
      have hr := run_mk_room (P := P) w t tx ty e i z ht hk hi hz hsize hzc hz1 g n cap cur hg m hm (by omega) hmb hroom hfit
      have e1 : n * 1 = n := by omega
      rw [e1] at htake
      refine ⟨_, _, hr, ⟨hlen, .inr ⟨g, cap, _, rfl, hbg, setRow_heap w g cur _ e _ hg, hroom, hcm, ?_, ?_⟩⟩, ⟨rfl, rfl, rfl, by simp, fun k _ hk => setRow_other w g k _ (fun e => hk (by simp [Value.ownBlock, e]))⟩, .inl rfl⟩
      · simp only [List.size_toArray, List.length_append, List.length_take, List.length_drop, Array.length_toList, hl]
        omega
      · rw [htake, ← hlen]
        exact List.take_left
    · have holds : ∀ j u, xs[j]? = some u → w.cell? ((⟨g, 0, none⟩ : Addr).add j) = some u := hown.cells (g := g) rfl
      have hr := run_mk_grow (P := P) w t tx ty e i z ht hk hi hz hsize hzc (some ⟨g, 0, none⟩) n cap xs (run_firstCells_some w.drew i.size n ⟨g, 0, none⟩ n cap xs (by rw [hsize]; exact hown.1) (by simpa using holds)) m hm (by omega) (by omega) hmb (growslice_fits (by omega) hbytes)
      have hgr := grown cap (by omega) (Value.ownBlock (.slice (some ⟨g, 0, none⟩) n cap))
      exact ⟨_, _, hr, hgr.1, hgr.2, .inr rfl⟩

theorem wpList_app_mk {ops : Array Oper} {rest : List Oper} {o : Oper} {a : Act} {Q : Exit → Act → World → Prop} (hgd : o.guard = none) (s y : Operand) (t tx : TypeId)
    (ho : o.op = .call { callee := .builtin .append, args := #[s, y], argTypes := #[t, tx] })
    (base : Nat) (e : TypeId) (i : TypeInfo) (z : Value) (bytes : Nat) (ht : P.underlying t = some (.slice e)) (hk : P.underlying tx = some (.int .i64)) (hi : P.info? e = some i) (hz : i.zero = some z)
    (hsize : i.size = 1) (hby : i.bytes = bytes) (hzc : z.cells = #[z]) (hz1 : z.oneCell' = true)
    (v : Value) (n : Nat) (xs : List Value) (hs : a.eval s = v) (hown : w.ownsRow base e 1 v n xs) (x : Int) (m : Nat) (hx : a.eval y = .int .i64 x) (hxm : x = (m : Int)) (hm : 0 < m)
    (h63 : n + m ≤ maxLen) (hbytes : (n + m) * bytes ≤ 140737488355328) (hbase : base ≤ w.heap.size)
    (h : ∀ v' w', w'.ownsRow base e 1 v' (n + m) (xs ++ List.replicate m z) → w.grownBy w' v.ownBlock → (v'.ownBlock = v.ownBlock ∨ v'.ownBlock = some w.heap.size) → wpList P ops Q rest (a.put o.dst v') w') :
    wpList P ops Q (o :: rest) a w := by
  subst hxm
  refine wpList_plain hgd fun _ hK => ?_
  obtain ⟨v', w', hrun, h2, h3, h4⟩ := run_app_mk (P := P) w base t tx o.type e i z bytes ht hk hi hz hsize hby hzc hz1 v n xs hown m hm h63 hbytes hbase
  unfold Oper.wp execOp
  simp only [ho, resolve, invoke, builtin, Sem.run_bind, Sem.run_pure, Result.andThen_ok, List.map_toArray, List.map_cons, List.map_nil, hs, hx, hrun]
  exact hK _ _ (h v' w' h2 h3 h4)

end

end Go.Proofs.Ytjeeclabnimbbaa

/- slices.Clone: the copy lies in a block of its own. -/
namespace Go.Proofs.Ytjeeclabnimbbaa
open Go.RowKit

def ClonePost (k : Nat) (t : TypeId) (n : Nat) (xs : List Value) (w : World) (e : Ending) (w' : World) : Prop := ∃ A' c', e = .returned (.slice A' n c') ∧ w'.ownsRow w.heap.size t k (.slice A' n c') n xs ∧ Ext w w'

theorem Try.infoClNode : (Try.prog.info? 40).map (fun i => (i.zero, i.size, i.bytes)) = some (some (.agg #[.int .i64 0, .int .i64 0, .int .i64 0, .int .i64 0, .int .i64 0, .int .i64 0, .int .i64 0, .bool false]), 8, 64) := by kernel_rfl
theorem cloneNode_any (v : Value) (n : Nat) (xs : List Value) (w : World) (h : RdK 8 w v n xs) (h1 : ∀ u ∈ xs, u.oneCell' = true) (h2 : n ≤ 1000000) :
    Calls Try.prog 68 #[v] w (ClonePost 8 40 n xs w) := by
  obtain ⟨c0, hc, hcz0, hcz1, hcz2⟩ := info_parts Try.infoClNode
  obtain ⟨A, c, rfl, hc1, hc2, hl, hcell⟩ := h
  have hn := fun (W : World) (A : Option Addr) (n c n' c' : Nat) => Lib.run_eql_slice_nil (P := Try.prog) W 28 40 A n c n' c' Try.underlying28
  have HL := Lib.hid hl
  have H1 := Lib.hid h1
  cases A with
  | none =>
    have hx : xs = [] := by
      rcases xs with _ | ⟨x, xs⟩
      · rfl
      · obtain ⟨a, e, _⟩ := hcell (by simp)
        cases e
    subst hx
    have hn0 : n = 0 := by simp at hl; omega
    subst hn0
    clear hcell hl
    go_enter Try.func68, Try.ntmps68
    go_wp2
    go_ret
    exact ⟨none, 0, rfl, World.ownsRow_nil _ _ _ 8, Ext.refl _⟩
  | some a =>
    have HO := Lib.hid (own_emptyT w w.heap.size 40 8 (Nat.le_refl _))
    have HCS := Lib.hid (show ∀ (j : Nat) (u : Value), xs[j]? = some u → (w.alloc (.cells #[] 40)).cell? (a.add j) = some u from fun j u hu => by
      obtain ⟨a', e, hb, hcs⟩ := hcell (by have := (List.getElem?_eq_some_iff.1 hu).1; omega)
      obtain rfl : a = a' := Option.some.inj e
      exact (Below.cell (ext_alloc w _) (p := a.add j) (by rw [add_block]; exact hb)).trans (hcs j u hu))
    clear hcell hl h1
    go_enter Try.func68, Try.ntmps68
    go_wp2_with (at_builtin; go_loud (refine wpList_append_own_at _ rfl (.tmp 5) (.tmp 6) 28 rfl w.heap.size 40 c0 _ 8 64 Try.underlying28 hc hcz0 hcz1 hcz2 rfl (by decide) _ 0 [] rfl HO.out a n c xs rfl HL.out HCS.out H1.out ?c3 ?c4 ?c5 ?_))
    case c3 => simp [maxLen]; omega
    case c4 => omega
    case c5 => simp
    intro v' w3 ho3 hg3 _ hat3
    have HE := Lib.hid ((ext_alloc w (.cells #[] 40)).trans' (grown_below hg3 (by simp) (fun k hk => by simp [Value.ownBlock] at hk; omega)))
    have HO3 := Lib.hid ho3
    obtain ⟨A3, c3, rfl, _, _⟩ := own_shape ho3
    clear ho3 hg3 hat3
    go_wp2
    go_ret
    exact ⟨_, _, rfl, HO3.out, HE.out⟩

theorem Try.infoClCont : (Try.prog.info? 64).map (fun i => (i.zero, i.size, i.bytes)) = some (some (.agg #[.int .i64 0, .int .i64 0, .int .i64 0, .int .i64 0, .int .i64 0, .int .i64 0, .int .i64 0, .bool false, .int .i64 0]), 9, 72) := by kernel_rfl
theorem cloneCont_any (v : Value) (n : Nat) (xs : List Value) (w : World) (h : RdK 9 w v n xs) (h1 : ∀ u ∈ xs, u.oneCell' = true) (h2 : n ≤ 1000000) :
    Calls Try.prog 70 #[v] w (ClonePost 9 64 n xs w) := by
  obtain ⟨c0, hc, hcz0, hcz1, hcz2⟩ := info_parts Try.infoClCont
  obtain ⟨A, c, rfl, hc1, hc2, hl, hcell⟩ := h
  have hn := fun (W : World) (A : Option Addr) (n c n' c' : Nat) => Lib.run_eql_slice_nil (P := Try.prog) W 30 64 A n c n' c' Try.underlying30
  have HL := Lib.hid hl
  have H1 := Lib.hid h1
  cases A with
  | none =>
    have hx : xs = [] := by
      rcases xs with _ | ⟨x, xs⟩
      · rfl
      · obtain ⟨a, e, _⟩ := hcell (by simp)
        cases e
    subst hx
    have hn0 : n = 0 := by simp at hl; omega
    subst hn0
    clear hcell hl
    go_enter Try.func70, Try.ntmps70
    go_wp2
    go_ret
    exact ⟨none, 0, rfl, World.ownsRow_nil _ _ _ 9, Ext.refl _⟩
  | some a =>
    have HO := Lib.hid (own_emptyT w w.heap.size 64 9 (Nat.le_refl _))
    have HCS := Lib.hid (show ∀ (j : Nat) (u : Value), xs[j]? = some u → (w.alloc (.cells #[] 64)).cell? (a.add j) = some u from fun j u hu => by
      obtain ⟨a', e, hb, hcs⟩ := hcell (by have := (List.getElem?_eq_some_iff.1 hu).1; omega)
      obtain rfl : a = a' := Option.some.inj e
      exact (Below.cell (ext_alloc w _) (p := a.add j) (by rw [add_block]; exact hb)).trans (hcs j u hu))
    clear hcell hl h1
    go_enter Try.func70, Try.ntmps70
    go_wp2_with (at_builtin; go_loud (refine wpList_append_own_at _ rfl (.tmp 5) (.tmp 6) 30 rfl w.heap.size 64 c0 _ 9 72 Try.underlying30 hc hcz0 hcz1 hcz2 rfl (by decide) _ 0 [] rfl HO.out a n c xs rfl HL.out HCS.out H1.out ?c3 ?c4 ?c5 ?_))
    case c3 => simp [maxLen]; omega
    case c4 => omega
    case c5 => simp
    intro v' w3 ho3 hg3 _ hat3
    have HE := Lib.hid ((ext_alloc w (.cells #[] 64)).trans' (grown_below hg3 (by simp) (fun k hk => by simp [Value.ownBlock] at hk; omega)))
    have HO3 := Lib.hid ho3
    obtain ⟨A3, c3, rfl, _, _⟩ := own_shape ho3
    clear ho3 hg3 hat3
    go_wp2
    go_ret
    exact ⟨_, _, rfl, HO3.out, HE.out⟩

theorem Try.infoClSlot : (Try.prog.info? 76).map (fun i => (i.zero, i.size, i.bytes)) = some (some (.agg #[.int .i64 0, .int .i64 0, .int .i64 0]), 3, 24) := by kernel_rfl
theorem cloneSlot_any (v : Value) (n : Nat) (xs : List Value) (w : World) (h : RdK 3 w v n xs) (h1 : ∀ u ∈ xs, u.oneCell' = true) (h2 : n ≤ 1000000) :
    Calls Try.prog 71 #[v] w (ClonePost 3 76 n xs w) := by
  obtain ⟨c0, hc, hcz0, hcz1, hcz2⟩ := info_parts Try.infoClSlot
  obtain ⟨A, c, rfl, hc1, hc2, hl, hcell⟩ := h
  have hn := fun (W : World) (A : Option Addr) (n c n' c' : Nat) => Lib.run_eql_slice_nil (P := Try.prog) W 31 76 A n c n' c' Try.underlying31
  have HL := Lib.hid hl
  have H1 := Lib.hid h1
  cases A with
  | none =>
    have hx : xs = [] := by
      rcases xs with _ | ⟨x, xs⟩
      · rfl
      · obtain ⟨a, e, _⟩ := hcell (by simp)
        cases e
    subst hx
    have hn0 : n = 0 := by simp at hl; omega
    subst hn0
    clear hcell hl
    go_enter Try.func71, Try.ntmps71
    go_wp2
    go_ret
    exact ⟨none, 0, rfl, World.ownsRow_nil _ _ _ 3, Ext.refl _⟩
  | some a =>
    have HO := Lib.hid (own_emptyT w w.heap.size 76 3 (Nat.le_refl _))
    have HCS := Lib.hid (show ∀ (j : Nat) (u : Value), xs[j]? = some u → (w.alloc (.cells #[] 76)).cell? (a.add j) = some u from fun j u hu => by
      obtain ⟨a', e, hb, hcs⟩ := hcell (by have := (List.getElem?_eq_some_iff.1 hu).1; omega)
      obtain rfl : a = a' := Option.some.inj e
      exact (Below.cell (ext_alloc w _) (p := a.add j) (by rw [add_block]; exact hb)).trans (hcs j u hu))
    clear hcell hl h1
    go_enter Try.func71, Try.ntmps71
    go_wp2_with (at_builtin; go_loud (refine wpList_append_own_at _ rfl (.tmp 5) (.tmp 6) 31 rfl w.heap.size 76 c0 _ 3 24 Try.underlying31 hc hcz0 hcz1 hcz2 rfl (by decide) _ 0 [] rfl HO.out a n c xs rfl HL.out HCS.out H1.out ?c3 ?c4 ?c5 ?_))
    case c3 => simp [maxLen]; omega
    case c4 => omega
    case c5 => simp
    intro v' w3 ho3 hg3 _ hat3
    have HE := Lib.hid ((ext_alloc w (.cells #[] 76)).trans' (grown_below hg3 (by simp) (fun k hk => by simp [Value.ownBlock] at hk; omega)))
    have HO3 := Lib.hid ho3
    obtain ⟨A3, c3, rfl, _, _⟩ := own_shape ho3
    clear ho3 hg3 hat3
    go_wp2
    go_ret
    exact ⟨_, _, rfl, HO3.out, HE.out⟩

theorem Try.infoClPlan : (Try.prog.info? 105).map (fun i => (i.zero, i.size, i.bytes)) = some (some (.agg #[.int .i64 0, .int .i64 0, .int .i64 0, .int .i64 0, .int .i64 0, .int .i64 0]), 6, 48) := by kernel_rfl
theorem clonePlan_any (v : Value) (n : Nat) (xs : List Value) (w : World) (h : RdK 6 w v n xs) (h1 : ∀ u ∈ xs, u.oneCell' = true) (h2 : n ≤ 1000000) :
    Calls Try.prog 72 #[v] w (ClonePost 6 105 n xs w) := by
  obtain ⟨c0, hc, hcz0, hcz1, hcz2⟩ := info_parts Try.infoClPlan
  obtain ⟨A, c, rfl, hc1, hc2, hl, hcell⟩ := h
  have hn := fun (W : World) (A : Option Addr) (n c n' c' : Nat) => Lib.run_eql_slice_nil (P := Try.prog) W 32 105 A n c n' c' Try.underlying32
  have HL := Lib.hid hl
  have H1 := Lib.hid h1
  cases A with
  | none =>
    have hx : xs = [] := by
      rcases xs with _ | ⟨x, xs⟩
      · rfl
      · obtain ⟨a, e, _⟩ := hcell (by simp)
        cases e
    subst hx
    have hn0 : n = 0 := by simp at hl; omega
    subst hn0
    clear hcell hl
    go_enter Try.func72, Try.ntmps72
    go_wp2
    go_ret
    exact ⟨none, 0, rfl, World.ownsRow_nil _ _ _ 6, Ext.refl _⟩
  | some a =>
    have HO := Lib.hid (own_emptyT w w.heap.size 105 6 (Nat.le_refl _))
    have HCS := Lib.hid (show ∀ (j : Nat) (u : Value), xs[j]? = some u → (w.alloc (.cells #[] 105)).cell? (a.add j) = some u from fun j u hu => by
      obtain ⟨a', e, hb, hcs⟩ := hcell (by have := (List.getElem?_eq_some_iff.1 hu).1; omega)
      obtain rfl : a = a' := Option.some.inj e
      exact (Below.cell (ext_alloc w _) (p := a.add j) (by rw [add_block]; exact hb)).trans (hcs j u hu))
    clear hcell hl h1
    go_enter Try.func72, Try.ntmps72
    go_wp2_with (at_builtin; go_loud (refine wpList_append_own_at _ rfl (.tmp 5) (.tmp 6) 32 rfl w.heap.size 105 c0 _ 6 48 Try.underlying32 hc hcz0 hcz1 hcz2 rfl (by decide) _ 0 [] rfl HO.out a n c xs rfl HL.out HCS.out H1.out ?c3 ?c4 ?c5 ?_))
    case c3 => simp [maxLen]; omega
    case c4 => omega
    case c5 => simp
    intro v' w3 ho3 hg3 _ hat3
    have HE := Lib.hid ((ext_alloc w (.cells #[] 105)).trans' (grown_below hg3 (by simp) (fun k hk => by simp [Value.ownBlock] at hk; omega)))
    have HO3 := Lib.hid ho3
    obtain ⟨A3, c3, rfl, _, _⟩ := own_shape ho3
    clear ho3 hg3 hat3
    go_wp2
    go_ret
    exact ⟨_, _, rfl, HO3.out, HE.out⟩

theorem Try.infoClStr : (Try.prog.info? 9).map (fun i => (i.zero, i.size, i.bytes)) = some (some (.string ⟨#[]⟩), 1, 16) := by kernel_rfl
theorem cloneStr_any (v : Value) (n : Nat) (xs : List Value) (w : World) (h : RdK 1 w v n xs) (h1 : ∀ u ∈ xs, u.oneCell' = true) (h2 : n ≤ 1000000) :
    Calls Try.prog 108 #[v] w (ClonePost 1 9 n xs w) := by
  obtain ⟨c0, hc, hcz0, hcz1, hcz2⟩ := info_parts Try.infoClStr
  obtain ⟨A, c, rfl, hc1, hc2, hl, hcell⟩ := h
  have hn := fun (W : World) (A : Option Addr) (n c n' c' : Nat) => Lib.run_eql_slice_nil (P := Try.prog) W 24 9 A n c n' c' Try.underlying24
  have HL := Lib.hid hl
  have H1 := Lib.hid h1
  cases A with
  | none =>
    have hx : xs = [] := by
      rcases xs with _ | ⟨x, xs⟩
      · rfl
      · obtain ⟨a, e, _⟩ := hcell (by simp)
        cases e
    subst hx
    have hn0 : n = 0 := by simp at hl; omega
    subst hn0
    clear hcell hl
    go_enter Try.func108, Try.ntmps108
    go_wp2
    go_ret
    exact ⟨none, 0, rfl, World.ownsRow_nil _ _ _ 1, Ext.refl _⟩
  | some a =>
    have HO := Lib.hid (own_emptyT w w.heap.size 9 1 (Nat.le_refl _))
    have HCS := Lib.hid (show ∀ (j : Nat) (u : Value), xs[j]? = some u → (w.alloc (.cells #[] 9)).cell? (a.add j) = some u from fun j u hu => by
      obtain ⟨a', e, hb, hcs⟩ := hcell (by have := (List.getElem?_eq_some_iff.1 hu).1; omega)
      obtain rfl : a = a' := Option.some.inj e
      exact (Below.cell (ext_alloc w _) (p := a.add j) (by rw [add_block]; exact hb)).trans (hcs j u hu))
    clear hcell hl h1
    go_enter Try.func108, Try.ntmps108
    go_wp2_with (at_builtin; go_loud (refine wpList_append_own_at _ rfl (.tmp 5) (.tmp 6) 24 rfl w.heap.size 9 c0 _ 1 16 Try.underlying24 hc hcz0 hcz1 hcz2 rfl (by decide) _ 0 [] rfl HO.out a n c xs rfl HL.out HCS.out H1.out ?c3 ?c4 ?c5 ?_))
    case c3 => simp [maxLen]; omega
    case c4 => omega
    case c5 => simp
    intro v' w3 ho3 hg3 _ hat3
    have HE := Lib.hid ((ext_alloc w (.cells #[] 9)).trans' (grown_below hg3 (by simp) (fun k hk => by simp [Value.ownBlock] at hk; omega)))
    have HO3 := Lib.hid ho3
    obtain ⟨A3, c3, rfl, _, _⟩ := own_shape ho3
    clear ho3 hg3 hat3
    go_wp2
    go_ret
    exact ⟨_, _, rfl, HO3.out, HE.out⟩

theorem Try.infoClQueue : (Try.prog.info? 46).map (fun i => (i.zero, i.size, i.bytes)) = some (some (.agg #[.string ⟨#[]⟩, .slice none 0 0, .int .i64 0]), 3, 48) := by kernel_rfl
theorem cloneQueue_any (v : Value) (n : Nat) (xs : List Value) (w : World) (h : RdK 3 w v n xs) (h1 : ∀ u ∈ xs, u.oneCell' = true) (h2 : n ≤ 1000000) :
    Calls Try.prog 109 #[v] w (ClonePost 3 46 n xs w) := by
  obtain ⟨c0, hc, hcz0, hcz1, hcz2⟩ := info_parts Try.infoClQueue
  obtain ⟨A, c, rfl, hc1, hc2, hl, hcell⟩ := h
  have hn := fun (W : World) (A : Option Addr) (n c n' c' : Nat) => Lib.run_eql_slice_nil (P := Try.prog) W 25 46 A n c n' c' Try.underlying25
  have HL := Lib.hid hl
  have H1 := Lib.hid h1
  cases A with
  | none =>
    have hx : xs = [] := by
      rcases xs with _ | ⟨x, xs⟩
      · rfl
      · obtain ⟨a, e, _⟩ := hcell (by simp)
        cases e
    subst hx
    have hn0 : n = 0 := by simp at hl; omega
    subst hn0
    clear hcell hl
    go_enter Try.func109, Try.ntmps109
    go_wp2
    go_ret
    exact ⟨none, 0, rfl, World.ownsRow_nil _ _ _ 3, Ext.refl _⟩
  | some a =>
    have HO := Lib.hid (own_emptyT w w.heap.size 46 3 (Nat.le_refl _))
    have HCS := Lib.hid (show ∀ (j : Nat) (u : Value), xs[j]? = some u → (w.alloc (.cells #[] 46)).cell? (a.add j) = some u from fun j u hu => by
      obtain ⟨a', e, hb, hcs⟩ := hcell (by have := (List.getElem?_eq_some_iff.1 hu).1; omega)
      obtain rfl : a = a' := Option.some.inj e
      exact (Below.cell (ext_alloc w _) (p := a.add j) (by rw [add_block]; exact hb)).trans (hcs j u hu))
    clear hcell hl h1
    go_enter Try.func109, Try.ntmps109
    go_wp2_with (at_builtin; go_loud (refine wpList_append_own_at _ rfl (.tmp 5) (.tmp 6) 25 rfl w.heap.size 46 c0 _ 3 48 Try.underlying25 hc hcz0 hcz1 hcz2 rfl (by decide) _ 0 [] rfl HO.out a n c xs rfl HL.out HCS.out H1.out ?c3 ?c4 ?c5 ?_))
    case c3 => simp [maxLen]; omega
    case c4 => omega
    case c5 => simp
    intro v' w3 ho3 hg3 _ hat3
    have HE := Lib.hid ((ext_alloc w (.cells #[] 46)).trans' (grown_below hg3 (by simp) (fun k hk => by simp [Value.ownBlock] at hk; omega)))
    have HO3 := Lib.hid ho3
    obtain ⟨A3, c3, rfl, _, _⟩ := own_shape ho3
    clear ho3 hg3 hat3
    go_wp2
    go_ret
    exact ⟨_, _, rfl, HO3.out, HE.out⟩

theorem Try.infoClCap : (Try.prog.info? 43).map (fun i => (i.zero, i.size, i.bytes)) = some (some (.agg #[.int .i64 0, .int .i64 0]), 2, 16) := by kernel_rfl
theorem cloneCap_any (v : Value) (n : Nat) (xs : List Value) (w : World) (h : RdK 2 w v n xs) (h1 : ∀ u ∈ xs, u.oneCell' = true) (h2 : n ≤ 1000000) :
    Calls Try.prog 65 #[v] w (ClonePost 2 43 n xs w) := by
  obtain ⟨c0, hc, hcz0, hcz1, hcz2⟩ := info_parts Try.infoClCap
  obtain ⟨A, c, rfl, hc1, hc2, hl, hcell⟩ := h
  have hn := fun (W : World) (A : Option Addr) (n c n' c' : Nat) => Lib.run_eql_slice_nil (P := Try.prog) W 44 43 A n c n' c' Try.underlying44
  have HL := Lib.hid hl
  have H1 := Lib.hid h1
  cases A with
  | none =>
    have hx : xs = [] := by
      rcases xs with _ | ⟨x, xs⟩
      · rfl
      · obtain ⟨a, e, _⟩ := hcell (by simp)
        cases e
    subst hx
    have hn0 : n = 0 := by simp at hl; omega
    subst hn0
    clear hcell hl
    go_enter Try.func65, Try.ntmps65
    go_wp2
    go_ret
    exact ⟨none, 0, rfl, World.ownsRow_nil _ _ _ 2, Ext.refl _⟩
  | some a =>
    have HO := Lib.hid (own_emptyT w w.heap.size 43 2 (Nat.le_refl _))
    have HCS := Lib.hid (show ∀ (j : Nat) (u : Value), xs[j]? = some u → (w.alloc (.cells #[] 43)).cell? (a.add j) = some u from fun j u hu => by
      obtain ⟨a', e, hb, hcs⟩ := hcell (by have := (List.getElem?_eq_some_iff.1 hu).1; omega)
      obtain rfl : a = a' := Option.some.inj e
      exact (Below.cell (ext_alloc w _) (p := a.add j) (by rw [add_block]; exact hb)).trans (hcs j u hu))
    clear hcell hl h1
    go_enter Try.func65, Try.ntmps65
    go_wp2_with (at_builtin; go_loud (refine wpList_append_own_at _ rfl (.tmp 5) (.tmp 6) 44 rfl w.heap.size 43 c0 _ 2 16 Try.underlying44 hc hcz0 hcz1 hcz2 rfl (by decide) _ 0 [] rfl HO.out a n c xs rfl HL.out HCS.out H1.out ?c3 ?c4 ?c5 ?_))
    case c3 => simp [maxLen]; omega
    case c4 => omega
    case c5 => simp
    intro v' w3 ho3 hg3 _ hat3
    have HE := Lib.hid ((ext_alloc w (.cells #[] 43)).trans' (grown_below hg3 (by simp) (fun k hk => by simp [Value.ownBlock] at hk; omega)))
    have HO3 := Lib.hid ho3
    obtain ⟨A3, c3, rfl, _, _⟩ := own_shape ho3
    clear ho3 hg3 hat3
    go_wp2
    go_ret
    exact ⟨_, _, rfl, HO3.out, HE.out⟩

theorem Try.infoClAsk : (Try.prog.info? 107).map (fun i => (i.zero, i.size, i.bytes)) = some (some (.agg #[.int .i64 0, .int .i64 0, .int .i64 0, .int .i64 0, .int .i64 0, .int .i64 0, .int .i64 0, .int .i64 0]), 8, 64) := by kernel_rfl
theorem cloneAsk_any (v : Value) (n : Nat) (xs : List Value) (w : World) (h : RdK 8 w v n xs) (h1 : ∀ u ∈ xs, u.oneCell' = true) (h2 : n ≤ 1000000) :
    Calls Try.prog 79 #[v] w (ClonePost 8 107 n xs w) := by
  obtain ⟨c0, hc, hcz0, hcz1, hcz2⟩ := info_parts Try.infoClAsk
  obtain ⟨A, c, rfl, hc1, hc2, hl, hcell⟩ := h
  have hn := fun (W : World) (A : Option Addr) (n c n' c' : Nat) => Lib.run_eql_slice_nil (P := Try.prog) W 55 107 A n c n' c' Try.underlying55
  have HL := Lib.hid hl
  have H1 := Lib.hid h1
  cases A with
  | none =>
    have hx : xs = [] := by
      rcases xs with _ | ⟨x, xs⟩
      · rfl
      · obtain ⟨a, e, _⟩ := hcell (by simp)
        cases e
    subst hx
    have hn0 : n = 0 := by simp at hl; omega
    subst hn0
    clear hcell hl
    go_enter Try.func79, Try.ntmps79
    go_wp2
    go_ret
    exact ⟨none, 0, rfl, World.ownsRow_nil _ _ _ 8, Ext.refl _⟩
  | some a =>
    have HO := Lib.hid (own_emptyT w w.heap.size 107 8 (Nat.le_refl _))
    have HCS := Lib.hid (show ∀ (j : Nat) (u : Value), xs[j]? = some u → (w.alloc (.cells #[] 107)).cell? (a.add j) = some u from fun j u hu => by
      obtain ⟨a', e, hb, hcs⟩ := hcell (by have := (List.getElem?_eq_some_iff.1 hu).1; omega)
      obtain rfl : a = a' := Option.some.inj e
      exact (Below.cell (ext_alloc w _) (p := a.add j) (by rw [add_block]; exact hb)).trans (hcs j u hu))
    clear hcell hl h1
    go_enter Try.func79, Try.ntmps79
    go_wp2_with (at_builtin; go_loud (refine wpList_append_own_at _ rfl (.tmp 5) (.tmp 6) 55 rfl w.heap.size 107 c0 _ 8 64 Try.underlying55 hc hcz0 hcz1 hcz2 rfl (by decide) _ 0 [] rfl HO.out a n c xs rfl HL.out HCS.out H1.out ?c3 ?c4 ?c5 ?_))
    case c3 => simp [maxLen]; omega
    case c4 => omega
    case c5 => simp
    intro v' w3 ho3 hg3 _ hat3
    have HE := Lib.hid ((ext_alloc w (.cells #[] 107)).trans' (grown_below hg3 (by simp) (fun k hk => by simp [Value.ownBlock] at hk; omega)))
    have HO3 := Lib.hid ho3
    obtain ⟨A3, c3, rfl, _, _⟩ := own_shape ho3
    clear ho3 hg3 hat3
    go_wp2
    go_ret
    exact ⟨_, _, rfl, HO3.out, HE.out⟩

theorem Try.infoClInt : (Try.prog.info? 3).map (fun i => (i.zero, i.size, i.bytes)) = some (some (.int .i64 0), 1, 8) := by kernel_rfl
theorem cloneInt_any (v : Value) (n : Nat) (xs : List Value) (w : World) (h : RdK 1 w v n xs) (h1 : ∀ u ∈ xs, u.oneCell' = true) (h2 : n ≤ 1000000) :
    Calls Try.prog 80 #[v] w (ClonePost 1 3 n xs w) := by
  obtain ⟨c0, hc, hcz0, hcz1, hcz2⟩ := info_parts Try.infoClInt
  obtain ⟨A, c, rfl, hc1, hc2, hl, hcell⟩ := h
  have hn := fun (W : World) (A : Option Addr) (n c n' c' : Nat) => Lib.run_eql_slice_nil (P := Try.prog) W 22 3 A n c n' c' Try.underlying22
  have HL := Lib.hid hl
  have H1 := Lib.hid h1
  cases A with
  | none =>
    have hx : xs = [] := by
      rcases xs with _ | ⟨x, xs⟩
      · rfl
      · obtain ⟨a, e, _⟩ := hcell (by simp)
        cases e
    subst hx
    have hn0 : n = 0 := by simp at hl; omega
    subst hn0
    clear hcell hl
    go_enter Try.func80, Try.ntmps80
    go_wp2
    go_ret
    exact ⟨none, 0, rfl, World.ownsRow_nil _ _ _ 1, Ext.refl _⟩
  | some a =>
    have HO := Lib.hid (own_emptyT w w.heap.size 3 1 (Nat.le_refl _))
    have HCS := Lib.hid (show ∀ (j : Nat) (u : Value), xs[j]? = some u → (w.alloc (.cells #[] 3)).cell? (a.add j) = some u from fun j u hu => by
      obtain ⟨a', e, hb, hcs⟩ := hcell (by have := (List.getElem?_eq_some_iff.1 hu).1; omega)
      obtain rfl : a = a' := Option.some.inj e
      exact (Below.cell (ext_alloc w _) (p := a.add j) (by rw [add_block]; exact hb)).trans (hcs j u hu))
    clear hcell hl h1
    go_enter Try.func80, Try.ntmps80
    go_wp2_with (at_builtin; go_loud (refine wpList_append_own_at _ rfl (.tmp 5) (.tmp 6) 22 rfl w.heap.size 3 c0 _ 1 8 Try.underlying22 hc hcz0 hcz1 hcz2 rfl (by decide) _ 0 [] rfl HO.out a n c xs rfl HL.out HCS.out H1.out ?c3 ?c4 ?c5 ?_))
    case c3 => simp [maxLen]; omega
    case c4 => omega
    case c5 => simp
    intro v' w3 ho3 hg3 _ hat3
    have HE := Lib.hid ((ext_alloc w (.cells #[] 3)).trans' (grown_below hg3 (by simp) (fun k hk => by simp [Value.ownBlock] at hk; omega)))
    have HO3 := Lib.hid ho3
    obtain ⟨A3, c3, rfl, _, _⟩ := own_shape ho3
    clear ho3 hg3 hat3
    go_wp2
    go_ret
    exact ⟨_, _, rfl, HO3.out, HE.out⟩

theorem Try.infoClApp : (Try.prog.info? 57).map (fun i => (i.zero, i.size, i.bytes)) = some (some (.agg #[.int .i64 0, .int .i64 0, .string ⟨#[]⟩, .int .i64 0, .int .i64 0, .int .i64 0, .int .i64 0, .slice none 0 0, .int .i64 0, .int .i64 0, .slice none 0 0, .slice none 0 0, .slice none 0 0, .slice none 0 0]), 14, 200) := by kernel_rfl
theorem cloneApp_any (v : Value) (n : Nat) (xs : List Value) (w : World) (h : RdK 14 w v n xs) (h1 : ∀ u ∈ xs, u.oneCell' = true) (h2 : n ≤ 1000000) :
    Calls Try.prog 102 #[v] w (ClonePost 14 57 n xs w) := by
  obtain ⟨c0, hc, hcz0, hcz1, hcz2⟩ := info_parts Try.infoClApp
  obtain ⟨A, c, rfl, hc1, hc2, hl, hcell⟩ := h
  have hn := fun (W : World) (A : Option Addr) (n c n' c' : Nat) => Lib.run_eql_slice_nil (P := Try.prog) W 29 57 A n c n' c' Try.underlying29
  have HL := Lib.hid hl
  have H1 := Lib.hid h1
  cases A with
  | none =>
    have hx : xs = [] := by
      rcases xs with _ | ⟨x, xs⟩
      · rfl
      · obtain ⟨a, e, _⟩ := hcell (by simp)
        cases e
    subst hx
    have hn0 : n = 0 := by simp at hl; omega
    subst hn0
    clear hcell hl
    go_enter Try.func102, Try.ntmps102
    go_wp2
    go_ret
    exact ⟨none, 0, rfl, World.ownsRow_nil _ _ _ 14, Ext.refl _⟩
  | some a =>
    have HO := Lib.hid (own_emptyT w w.heap.size 57 14 (Nat.le_refl _))
    have HCS := Lib.hid (show ∀ (j : Nat) (u : Value), xs[j]? = some u → (w.alloc (.cells #[] 57)).cell? (a.add j) = some u from fun j u hu => by
      obtain ⟨a', e, hb, hcs⟩ := hcell (by have := (List.getElem?_eq_some_iff.1 hu).1; omega)
      obtain rfl : a = a' := Option.some.inj e
      exact (Below.cell (ext_alloc w _) (p := a.add j) (by rw [add_block]; exact hb)).trans (hcs j u hu))
    clear hcell hl h1
    go_enter Try.func102, Try.ntmps102
    go_wp2_with (at_builtin; go_loud (refine wpList_append_own_at _ rfl (.tmp 5) (.tmp 6) 29 rfl w.heap.size 57 c0 _ 14 200 Try.underlying29 hc hcz0 hcz1 hcz2 rfl (by decide) _ 0 [] rfl HO.out a n c xs rfl HL.out HCS.out H1.out ?c3 ?c4 ?c5 ?_))
    case c3 => simp [maxLen]; omega
    case c4 => omega
    case c5 => simp
    intro v' w3 ho3 hg3 _ hat3
    have HE := Lib.hid ((ext_alloc w (.cells #[] 57)).trans' (grown_below hg3 (by simp) (fun k hk => by simp [Value.ownBlock] at hk; omega)))
    have HO3 := Lib.hid ho3
    obtain ⟨A3, c3, rfl, _, _⟩ := own_shape ho3
    clear ho3 hg3 hat3
    go_wp2
    go_ret
    exact ⟨_, _, rfl, HO3.out, HE.out⟩

end Go.Proofs.Ytjeeclabnimbbaa
/-
  DERIVED: THE SHELF's CONTRACTS AT THIS DUMP, IN PLAIN WORDS (tools/lay-plain.mjs out of 'TryShelf.lean', which tools/lay-shelf.mjs wrote): THE SAME DECLARATIONS UNDER THE SAME NAMES: 'import', 'namespace', 'open', 'def', 'theorem' AND NOTHING ELSE: no command of the shelf's: FOR A HAND-IN. Each laying: the table of numbers ('.._ren') and one theorem, a field a fact of the dump's own or the kernel's comparison; each contract: ONE APPLICATION.
-/
namespace Go.Proofs
open Go.Shelf
def Try.laysM316_ren : Go.Shelf.Ren := ⟨fun | 316 => 94 | n => n, fun | 9 => 9 | 3 => 3 | 4 => 4 | 37 => 149 | 0 => 0 | 127 => 150 | 5 => 5 | n => n, fun | n => n⟩
theorem Try.laysM316 : Go.Proofs.LaysM.n316 Try.prog Try.laysM316_ren := {
  mixed := by kernel_rfl
  f316 := Try.func94.trans (congrArg some (by kernel_rfl))
  t0 := Try.underlying0
  a0 := Try.isAgg0
  z0 := Try.sizeOf0
  v0 := Try.zeroValue0
  t3 := Try.underlying3
  a3 := Try.isAgg3
  z3 := Try.sizeOf3
  v3 := Try.zeroValue3
  t4 := Try.underlying4
  a4 := Try.isAgg4
  z4 := Try.sizeOf4
  v4 := Try.zeroValue4
  t9 := Try.underlying9
  a9 := Try.isAgg9
  z9 := Try.sizeOf9
  v9 := Try.zeroValue9
  t37 := Try.underlying149
  a37 := Try.isAgg149
  z37 := Try.sizeOf149
  v37 := Try.zeroValue149
  t127 := Try.underlying150
  a127 := Try.isAgg150
  z127 := Try.sizeOf150
  v127 := Try.zeroValue150
  t5 := Try.underlying5
  a5 := Try.isAgg5
  z5 := Try.sizeOf5
  v5 := Try.zeroValue5
  i0 := by kernel_rfl
  i3 := by kernel_rfl
  i4 := by kernel_rfl
  i5 := by kernel_rfl
  i9 := by kernel_rfl
  i37 := by kernel_rfl
  i127 := by kernel_rfl }
open Go.RowKit in
/-- internal/stringslite.Clone (what strings.Clone calls): "Clone returns a fresh copy of s.": THE SAME BYTES. Of what was there nothing has turned (a new row is laid, and frozen, where s is not empty). (LAID: no walk: one application.) -/
theorem Try.stringslite_Clone (s : ByteArray) (w : World) (hlim : s.size ≤ 281474976710656) :
    Calls Try.prog 94 #[.string s] w fun e w' => e = .returned (.string s) ∧ Below w.heap.size w w' := Any.stringslite_Clone Try.laysM316 s w hlim
def Try.lays222_ren : Go.Shelf.Ren := ⟨fun | 222 => 111 | n => n, fun | 9 => 9 | 5 => 5 | 3 => 3 | 4 => 4 | n => n, fun | n => n⟩
theorem Try.lays222 : Go.Proofs.Lays.n222 Try.prog Try.lays222_ren := {
  mixed := by kernel_rfl
  f222 := Try.func111.trans (congrArg some (by kernel_rfl))
  t3 := Try.underlying3
  a3 := Try.isAgg3
  z3 := Try.sizeOf3
  v3 := Try.zeroValue3
  t4 := Try.underlying4
  a4 := Try.isAgg4
  z4 := Try.sizeOf4
  v4 := Try.zeroValue4
  t5 := Try.underlying5
  a5 := Try.isAgg5
  z5 := Try.sizeOf5
  v5 := Try.zeroValue5
  t9 := Try.underlying9
  a9 := Try.isAgg9
  z9 := Try.sizeOf9
  v9 := Try.zeroValue9 }
open Go.RowKit Go.Lib in
/-- internal/bytealg.LastIndexByteString: 'for i := len(s) - 1; i >= 0; i-- { if s[i] == c { return i } }; return -1'. (LAID: no walk: one application.) -/
theorem Try.bytealg_LastIndexByteString_nm (s : ByteArray) (c : Int) (hs : s.size < 4611686018427387904) (w : World) :
    Calls Try.prog 111 #[.string s, .int .u8 c] w fun e w' => e = .returned (.int .i64 (Lib.lastIndexByte s c)) ∧ w' = w := Any.bytealg_LastIndexByteString_nm Try.lays222 s c hs w
def Try.lays148_ren : Go.Shelf.Ren := ⟨fun | 148 => 106 | 222 => 111 | 223 => 112 | 269 => 113 | n => n, fun | 9 => 9 | 3 => 3 | 4 => 4 | 5 => 5 | 146 => 156 | 51 => 155 | 46 => 98 | n => n, fun | n => n⟩
theorem Try.lays148 : Go.Proofs.Lays.n148 Try.prog Try.lays148_ren := {
  mixed := by kernel_rfl
  f148 := Try.func106.trans (congrArg some (by kernel_rfl))
  f222 := Try.func111.trans (congrArg some (by kernel_rfl))
  f223 := Try.func112.trans (congrArg some (by kernel_rfl))
  f269 := Try.func113.trans (congrArg some (by kernel_rfl))
  t3 := Try.underlying3
  a3 := Try.isAgg3
  z3 := Try.sizeOf3
  v3 := Try.zeroValue3
  t4 := Try.underlying4
  a4 := Try.isAgg4
  z4 := Try.sizeOf4
  v4 := Try.zeroValue4
  t5 := Try.underlying5
  a5 := Try.isAgg5
  z5 := Try.sizeOf5
  v5 := Try.zeroValue5
  t9 := Try.underlying9
  a9 := Try.isAgg9
  z9 := Try.sizeOf9
  v9 := Try.zeroValue9
  t46 := Try.underlying98
  a46 := Try.isAgg98
  z46 := Try.sizeOf98
  v46 := Try.zeroValue98
  t51 := Try.underlying155
  a51 := Try.isAgg155
  z51 := Try.sizeOf155
  v51 := Try.zeroValue155
  t146 := Try.underlying156
  a146 := Try.isAgg156
  z146 := Try.sizeOf156
  v146 := Try.zeroValue156 }
open Go.RowKit Go.Lib in
/-- strings.LastIndex AT A substr OF ONE BYTE (as in 'strings.LastIndex(path, "/")'): the last place of that byte, or -1. (LAID: no walk: one application.) -/
theorem Try.strings_LastIndex_one (s sub : ByteArray) (h1 : sub.size = 1) (hs : s.size < 4611686018427387904) (w : World) :
    Calls Try.prog 106 #[.string s, .string sub] w fun e w' => e = .returned (.int .i64 (Lib.lastIndexByte s ((sub[0]'(by omega)).toNat : Int))) ∧ w' = w := Any.strings_LastIndex_one Try.lays148 s sub h1 hs w
open Go.RowKit Go.Lib in
/-- .. AT THE EMPTY substr: len(s). (LAID: no walk: one application.) -/
theorem Try.strings_LastIndex_empty (s sub : ByteArray) (h0 : sub.size = 0) (w : World) :
    Calls Try.prog 106 #[.string s, .string sub] w fun e w' => e = .returned (.int .i64 s.size) ∧ w' = w := Any.strings_LastIndex_empty Try.lays148 s sub h0 w
open Go.RowKit Go.Lib in
/-- .. AT A substr LONGER THAN s (and of two bytes or more): -1. (LAID: no walk: one application.) -/
theorem Try.strings_LastIndex_longer (s sub : ByteArray) (h2 : 2 ≤ sub.size) (hl : s.size < sub.size) (w : World) :
    Calls Try.prog 106 #[.string s, .string sub] w fun e w' => e = .returned (.int .i64 (-1)) ∧ w' = w := Any.strings_LastIndex_longer Try.lays148 s sub h2 hl w
open Go.RowKit Go.Lib in
/-- .. AT A substr AS LONG AS s (and of two bytes or more): 0 where the two are one, else -1. (LAID: no walk: one application.) -/
theorem Try.strings_LastIndex_whole (s sub : ByteArray) (h2 : 2 ≤ sub.size) (hl : sub.size = s.size) (w : World) :
    Calls Try.prog 106 #[.string s, .string sub] w fun e w' => e = .returned (.int .i64 (if sub = s then 0 else -1)) ∧ w' = w := Any.strings_LastIndex_whole Try.lays148 s sub h2 hl w
def Try.laysNm215_ren : Go.Shelf.Ren := ⟨fun | 15 => 80 | n => n, fun | 22 => 22 | 3 => 3 | 4 => 4 | n => n, fun | n => n⟩
theorem Try.laysNm215 : Go.Proofs.Lays2.n15 Try.prog Try.laysNm215_ren := {
  mixed := by kernel_rfl
  f15 := Try.func80.trans (congrArg some (by kernel_rfl))
  t3 := Try.underlying3
  a3 := Try.isAgg3
  z3 := Try.sizeOf3
  v3 := Try.zeroValue3
  t4 := Try.underlying4
  a4 := Try.isAgg4
  z4 := Try.sizeOf4
  v4 := Try.zeroValue4
  t22 := Try.underlying22
  a22 := Try.isAgg22
  z22 := Try.sizeOf22
  v22 := Try.zeroValue22
  i3 := by kernel_rfl }
open Go.RowKit Go.Lib in
/-- slices.Clone at []int: "Clone returns a copy of the slice. The elements are copied using assignment, so this is a shallow clone. The result may have additional unused capacity. The result preserves the nilness of s.": OF A SLICE THAT IS NOT nil IT RETURNS A SLICE THAT IS NOT nil, OF THE SAME ELEMENTS, IN MEMORY OF THE CALL's OWN: in the how-to's words (6f): 'w'.ownsRow B e 1 v' n cells': v' begins at the head of a row among the blocks from B on (B: the heap's size at the call), not frozen, whose first cells are the elements · 'Below B w w'': below B all is as it was. The capacity is whatever the run-time gives. 'zs': what the cells behind the slice's address hold; 'zs.take n': its elements. (LAID: no walk: one application.) -/
theorem Try.slices_Clone_int (b off n c : Nat) (zs : List Int) (w : World) (hz : n ≤ zs.length) (hbig : n * 8 ≤ 140737488355328) (hc : ∀ j, j < zs.length → w.cell? ⟨b, off + j, none⟩ = some (.int .i64 (zs.getD j 0))) :
    Calls Try.prog 80 #[.slice (some ⟨b, off, none⟩) n c] w fun e w' => ∃ v', e = .returned v' ∧ w'.ownsRow w.heap.size 3 1 v' n ((zs.take n).map (Value.int .i64)) ∧ v' ≠ .slice none 0 0 ∧ Below w.heap.size w w' := Any.slices_Clone_int Try.laysNm215 b off n c zs w hz hbig hc
open Go.RowKit Go.Lib in
/-- The same at nil: nil comes back; the world is as it was. (LAID: no walk: one application.) -/
theorem Try.slices_Clone_int_nil (n c : Nat) (w : World) :
    Calls Try.prog 80 #[.slice none n c] w fun e w' => e = .returned (.slice none 0 0) ∧ w' = w := Any.slices_Clone_int_nil Try.laysNm215 n c w
def Try.laysNm216_ren : Go.Shelf.Ren := ⟨fun | 16 => 108 | n => n, fun | 24 => 24 | 9 => 9 | 4 => 4 | n => n, fun | n => n⟩
theorem Try.laysNm216 : Go.Proofs.Lays2.n16 Try.prog Try.laysNm216_ren := {
  mixed := by kernel_rfl
  f16 := Try.func108.trans (congrArg some (by kernel_rfl))
  t4 := Try.underlying4
  a4 := Try.isAgg4
  z4 := Try.sizeOf4
  v4 := Try.zeroValue4
  t9 := Try.underlying9
  a9 := Try.isAgg9
  z9 := Try.sizeOf9
  v9 := Try.zeroValue9
  t24 := Try.underlying24
  a24 := Try.isAgg24
  z24 := Try.sizeOf24
  v24 := Try.zeroValue24
  i9 := by kernel_rfl }
open Go.RowKit Go.Lib in
/-- slices.Clone at []string: "Clone returns a copy of the slice. The elements are copied using assignment, so this is a shallow clone. The result may have additional unused capacity. The result preserves the nilness of s.": OF A SLICE THAT IS NOT nil IT RETURNS A SLICE THAT IS NOT nil, OF THE SAME ELEMENTS, IN MEMORY OF THE CALL's OWN: in the how-to's words (6f): 'w'.ownsRow B e 1 v' n cells': v' begins at the head of a row among the blocks from B on (B: the heap's size at the call), not frozen, whose first cells are the elements · 'Below B w w'': below B all is as it was. The capacity is whatever the run-time gives. 'zs': what the cells behind the slice's address hold; 'zs.take n': its elements. (LAID: no walk: one application.) -/
theorem Try.slices_Clone_string (b off n c : Nat) (zs : List ByteArray) (w : World) (hz : n ≤ zs.length) (hbig : n * 16 ≤ 140737488355328) (hc : ∀ j, j < zs.length → w.cell? ⟨b, off + j, none⟩ = some (.string (zs.getD j ByteArray.empty))) :
    Calls Try.prog 108 #[.slice (some ⟨b, off, none⟩) n c] w fun e w' => ∃ v', e = .returned v' ∧ w'.ownsRow w.heap.size 9 1 v' n ((zs.take n).map (Value.string)) ∧ v' ≠ .slice none 0 0 ∧ Below w.heap.size w w' := Any.slices_Clone_string Try.laysNm216 b off n c zs w hz hbig hc
open Go.RowKit Go.Lib in
/-- The same at nil: nil comes back; the world is as it was. (LAID: no walk: one application.) -/
theorem Try.slices_Clone_string_nil (n c : Nat) (w : World) :
    Calls Try.prog 108 #[.slice none n c] w fun e w' => e = .returned (.slice none 0 0) ∧ w' = w := Any.slices_Clone_string_nil Try.laysNm216 n c w
open Go.RowKit Go.Lib in
/-- The same at a slice of length 0 that is not nil, WHATEVER ITS ADDRESS (no cell is asked for): a slice that is not nil and owns nothing comes back. (LAID: no walk: one application.) -/
theorem Try.slices_Clone_int_zero (a : Addr) (c : Nat) (w : World) :
    Calls Try.prog 80 #[.slice (some a) 0 c] w fun e w' => ∃ v', e = .returned v' ∧ w'.ownsRow w.heap.size 3 1 v' 0 [] ∧ v' ≠ .slice none 0 0 ∧ Below w.heap.size w w' := Any.slices_Clone_int_zero Try.laysNm215 a c w
open Go.RowKit Go.Lib in
/-- The same at a slice of length 0 that is not nil, WHATEVER ITS ADDRESS (no cell is asked for): a slice that is not nil and owns nothing comes back. (LAID: no walk: one application.) -/
theorem Try.slices_Clone_string_zero (a : Addr) (c : Nat) (w : World) :
    Calls Try.prog 108 #[.slice (some a) 0 c] w fun e w' => ∃ v', e = .returned v' ∧ w'.ownsRow w.heap.size 9 1 v' 0 [] ∧ v' ≠ .slice none 0 0 ∧ Below w.heap.size w w' := Any.slices_Clone_string_zero Try.laysNm216 a c w
def Try.laysSlE041_f80_ren : Go.Shelf.Ren := ⟨fun | 41 => 80 | n => n, fun | 22 => 22 | 23 => 3 | 4 => 4 | n => n, fun | n => n⟩
theorem Try.laysSlE041_f80 : Go.Proofs.SlLaysE0.n41 Try.prog Try.laysSlE041_f80_ren := {
  mixed := by kernel_rfl
  f41 := ⟨Try.f80.name, by decide, Try.func80.trans (congrArg some (by kernel_rfl))⟩
  t4 := Try.underlying4
  a4 := Try.isAgg4
  z4 := Try.sizeOf4
  v4 := Try.zeroValue4
  t22 := Try.underlying22
  a22 := Try.isAgg22
  z22 := Try.sizeOf22
  v22 := Try.zeroValue22 }
open Go.RowKit Go.Lib in
/-- slices.Clone: "Clone returns a copy of the slice. The elements are copied using assignment, so this is a shallow clone. The result may have additional unused capacity. The result preserves the nilness of s.": OF A SLICE THAT IS NOT nil IT RETURNS A SLICE THAT IS NOT nil, OF THE SAME CELLS, IN MEMORY OF THE CALL's OWN ('ownsRow': the how-to's 6f); below the heap's size at the call all is as it was. (LAID AT THE INSTANCE 'slices.Clone[[]int,int]': no walk: one application.) -/
theorem Try.slices_Clone_f80 (i0 : TypeInfo) (z : Value) (size bytes : Nat) (hi : Try.prog.info? 3 = some i0) (hz0 : i0.zero = some z) (hz1 : i0.size = size) (hz2 : i0.bytes = bytes) (hzs : z.cells.size = size) (hsz : 0 < size) (z23 : ∀ w, (Go.sizeOf 3).run Try.prog w = .ok size w) (b off n c : Nat) (news : List Value) (w : World) (hl : news.length = n * size) (hn : n ≤ maxLen) (hbig : n * bytes ≤ 140737488355328) (hc : ∀ j u, news[j]? = some u → w.cell? ⟨b, off + j, none⟩ = some u) (h1 : ∀ u ∈ news, u.oneCell' = true) :
    Calls Try.prog 80 #[.slice (some ⟨b, off, none⟩) n c] w fun e w' => ∃ v', e = .returned v' ∧ w'.ownsRow w.heap.size 3 size v' n news ∧ v' ≠ .slice none 0 0 ∧ Below w.heap.size w w' := AnyE.slices_Clone Try.laysSlE041_f80 i0 z size bytes hi hz0 hz1 hz2 hzs hsz z23 b off n c news w hl hn hbig hc h1
def Try.laysSlE041_f108_ren : Go.Shelf.Ren := ⟨fun | 41 => 108 | n => n, fun | 22 => 24 | 23 => 9 | 4 => 4 | n => n, fun | n => n⟩
theorem Try.laysSlE041_f108 : Go.Proofs.SlLaysE0.n41 Try.prog Try.laysSlE041_f108_ren := {
  mixed := by kernel_rfl
  f41 := ⟨Try.f108.name, by decide, Try.func108.trans (congrArg some (by kernel_rfl))⟩
  t4 := Try.underlying4
  a4 := Try.isAgg4
  z4 := Try.sizeOf4
  v4 := Try.zeroValue4
  t22 := Try.underlying24
  a22 := Try.isAgg24
  z22 := Try.sizeOf24
  v22 := Try.zeroValue24 }
open Go.RowKit Go.Lib in
/-- slices.Clone: "Clone returns a copy of the slice. The elements are copied using assignment, so this is a shallow clone. The result may have additional unused capacity. The result preserves the nilness of s.": OF A SLICE THAT IS NOT nil IT RETURNS A SLICE THAT IS NOT nil, OF THE SAME CELLS, IN MEMORY OF THE CALL's OWN ('ownsRow': the how-to's 6f); below the heap's size at the call all is as it was. (LAID AT THE INSTANCE 'slices.Clone[[]string,string]': no walk: one application.) -/
theorem Try.slices_Clone_f108 (i0 : TypeInfo) (z : Value) (size bytes : Nat) (hi : Try.prog.info? 9 = some i0) (hz0 : i0.zero = some z) (hz1 : i0.size = size) (hz2 : i0.bytes = bytes) (hzs : z.cells.size = size) (hsz : 0 < size) (z23 : ∀ w, (Go.sizeOf 9).run Try.prog w = .ok size w) (b off n c : Nat) (news : List Value) (w : World) (hl : news.length = n * size) (hn : n ≤ maxLen) (hbig : n * bytes ≤ 140737488355328) (hc : ∀ j u, news[j]? = some u → w.cell? ⟨b, off + j, none⟩ = some u) (h1 : ∀ u ∈ news, u.oneCell' = true) :
    Calls Try.prog 108 #[.slice (some ⟨b, off, none⟩) n c] w fun e w' => ∃ v', e = .returned v' ∧ w'.ownsRow w.heap.size 9 size v' n news ∧ v' ≠ .slice none 0 0 ∧ Below w.heap.size w w' := AnyE.slices_Clone Try.laysSlE041_f108 i0 z size bytes hi hz0 hz1 hz2 hzs hsz z23 b off n c news w hl hn hbig hc h1
open Go.RowKit Go.Lib in
/-- The same at nil: nil comes back; the world is as it was; nothing is asked of the element's type. (LAID AT THE INSTANCE 'slices.Clone[[]int,int]': no walk: one application.) -/
theorem Try.slices_Clone_nil_f80 (n c : Nat) (w : World) :
    Calls Try.prog 80 #[.slice none n c] w fun e w' => e = .returned (.slice none 0 0) ∧ w' = w := AnyE.slices_Clone_nil Try.laysSlE041_f80 n c w
open Go.RowKit Go.Lib in
/-- The same at nil: nil comes back; the world is as it was; nothing is asked of the element's type. (LAID AT THE INSTANCE 'slices.Clone[[]string,string]': no walk: one application.) -/
theorem Try.slices_Clone_nil_f108 (n c : Nat) (w : World) :
    Calls Try.prog 108 #[.slice none n c] w fun e w' => e = .returned (.slice none 0 0) ∧ w' = w := AnyE.slices_Clone_nil Try.laysSlE041_f108 n c w
end Go.Proofs

/- strings.Clone. -/
namespace Go.Proofs.Ytjeeclabnimbbaa
open Go.RowKit
theorem strClone_any (S : ByteArray) (w : World) (hs : S.size ≤ 1000000000000) : Calls Try.prog 64 #[.string S] w fun e w' => e = .returned (.string S) ∧ Ext w w' := by
  have hcon := fun W => Try.stringslite_Clone S W (by omega)
  go_enter Try.func64, Try.ntmps64
  go_wp2_with (go_at_call 94; refine (hcon _).mono ?_; rintro e w' ⟨rfl, hx⟩)
  go_ret
  exact ⟨rfl, hx⟩
end Go.Proofs.Ytjeeclabnimbbaa

/- slices.Clone, strings.Clone: their contracts for the typed executor. -/
namespace Go.Proofs.Ytjeeclabnimbbaa
open Go.RowKit
/-- What slices.Clone answers. -/
def cloneL {α : Type} (xs : List α) : Option (List α) := if xs.length ≤ 1000000 then some xs else none
def cloneF (ty : Ty) (e k : Nat) (x : dens [.lf (.sl ty)]) : Option (densR [.io [.no], .own e k ty]) := (cloneL (show List ty.den from x.1)).bind fun z => some (((), ()), z)
theorem clone_ctr {P : Program} {f : FuncId} (ty : Ty) {e k : Nat} (hk : tyN ty = k) (hk0 : 0 < k) (hcall : callable P f = true)
    (hC : ∀ (v : Value) (n : Nat) (us : List Value) (w : World), RdK k w v n us → (∀ u ∈ us, u.oneCell' = true) → n ≤ 1000000 → Calls P f #[v] w (ClonePost k e n us w)) :
    CtrOk P f [.lf (.sl ty)] [.io [.no], .own e k ty] (cloneF ty e k) := by
  refine ctr_row (F := cloneL) hk hk0 hcall fun xs zs w G v hF hG hd => ?_
  unfold cloneL at hF
  split at hF
  · rename_i hle
    injection hF with hF
    subst hF
    cases hd with
    | sl A n c k0 _ us hn hc hm hkk hA hA0 hcell hrep =>
      have hlen : ∀ y ∈ xs.map (encE ty), y.length = k := fun y hy => by
        obtain ⟨z, _, rfl⟩ := List.mem_map.1 hy
        rw [encE_len, hk]
      have hfl := flat_length k (xs.map (encE ty)) hlen
      rw [List.length_map] at hn hfl
      have hul : ((List.range (xs.map (encE ty)).flatten.length).map us).length = xs.length * k := by rw [List.length_map, List.length_range, hfl]
      have hget : ∀ (j : Nat) u, ((List.range (xs.map (encE ty)).flatten.length).map us)[j]? = some u → j < (xs.map (encE ty)).flatten.length ∧ u = us j := fun j u hu => by
        rw [List.getElem?_map, Option.map_eq_some_iff] at hu
        obtain ⟨i, hi, rfl⟩ := hu
        obtain ⟨rfl, hlt⟩ := range_at hi
        exact ⟨hlt, rfl⟩
      refine (hC _ n ((List.range (xs.map (encE ty)).flatten.length).map us) w ⟨A, c, rfl, hc, hm, by rw [hul, hn], fun h0 => ?_⟩ (fun u hu => ?_) (by omega)).mono ?_
      · obtain ⟨a, ha, hFa⟩ := hA (by rw [hn]; rcases Nat.eq_zero_or_pos xs.length with e | e
                                      · rw [hul, e, Nat.zero_mul] at h0; omega
                                      · exact e)
        refine ⟨a, ha, hG _ hFa, fun j u hu => ?_⟩
        obtain ⟨hlt, rfl⟩ := hget j u hu
        exact hcell a j _ ha (List.getElem?_eq_getElem hlt)
      · obtain ⟨j, hj⟩ := List.getElem?_of_mem hu
        obtain ⟨hlt, rfl⟩ := hget j u hj
        exact (hrep j _ (List.getElem?_eq_getElem hlt)).one
      · rintro en w' ⟨A', c', rfl, ho, hx⟩
        refine ⟨_, _, rfl, by rw [← hn]; exact ho, hx, hul, fun j u d hu hd => ?_⟩
        obtain ⟨hlt, rfl⟩ := hget j u hu
        exact hrep j d hd
  · cases hF
noncomputable def CL_Node_e : Ent := ⟨[.lf (.sl (.st 7))], [.io [.no], .own 40 8 (.st 7)], cloneF (.st 7) 40 8⟩
theorem CL_Node_k : CtrOk Try.prog 68 [.lf (.sl (.st 7))] [.io [.no], .own 40 8 (.st 7)] (cloneF (.st 7) 40 8) := clone_ctr (.st 7) (by kernel_rfl) (by decide) (by kernel_rfl) (fun v n us w h1 h2 h3 => cloneNode_any v n us w h1 h2 h3)
noncomputable def CL_Cont_e : Ent := ⟨[.lf (.sl (.st 6))], [.io [.no], .own 64 9 (.st 6)], cloneF (.st 6) 64 9⟩
theorem CL_Cont_k : CtrOk Try.prog 70 [.lf (.sl (.st 6))] [.io [.no], .own 64 9 (.st 6)] (cloneF (.st 6) 64 9) := clone_ctr (.st 6) (by kernel_rfl) (by decide) (by kernel_rfl) (fun v n us w h1 h2 h3 => cloneCont_any v n us w h1 h2 h3)
noncomputable def CL_Slot_e : Ent := ⟨[.lf (.sl (.st 11))], [.io [.no], .own 76 3 (.st 11)], cloneF (.st 11) 76 3⟩
theorem CL_Slot_k : CtrOk Try.prog 71 [.lf (.sl (.st 11))] [.io [.no], .own 76 3 (.st 11)] (cloneF (.st 11) 76 3) := clone_ctr (.st 11) (by kernel_rfl) (by decide) (by kernel_rfl) (fun v n us w h1 h2 h3 => cloneSlot_any v n us w h1 h2 h3)
noncomputable def CL_Plan_e : Ent := ⟨[.lf (.sl (.st 8))], [.io [.no], .own 105 6 (.st 8)], cloneF (.st 8) 105 6⟩
theorem CL_Plan_k : CtrOk Try.prog 72 [.lf (.sl (.st 8))] [.io [.no], .own 105 6 (.st 8)] (cloneF (.st 8) 105 6) := clone_ctr (.st 8) (by kernel_rfl) (by decide) (by kernel_rfl) (fun v n us w h1 h2 h3 => clonePlan_any v n us w h1 h2 h3)
noncomputable def CL_Str_e : Ent := ⟨[.lf (.sl (.str))], [.io [.no], .own 9 1 (.str)], cloneF (.str) 9 1⟩
theorem CL_Str_k : CtrOk Try.prog 108 [.lf (.sl (.str))] [.io [.no], .own 9 1 (.str)] (cloneF (.str) 9 1) := clone_ctr (.str) (by kernel_rfl) (by decide) (by kernel_rfl) (fun v n us w h1 h2 h3 => cloneStr_any v n us w h1 h2 h3)
noncomputable def CL_Queue_e : Ent := ⟨[.lf (.sl (.st 4))], [.io [.no], .own 46 3 (.st 4)], cloneF (.st 4) 46 3⟩
theorem CL_Queue_k : CtrOk Try.prog 109 [.lf (.sl (.st 4))] [.io [.no], .own 46 3 (.st 4)] (cloneF (.st 4) 46 3) := clone_ctr (.st 4) (by kernel_rfl) (by decide) (by kernel_rfl) (fun v n us w h1 h2 h3 => cloneQueue_any v n us w h1 h2 h3)
noncomputable def CL_Cap_e : Ent := ⟨[.lf (.sl (.st 3))], [.io [.no], .own 43 2 (.st 3)], cloneF (.st 3) 43 2⟩
theorem CL_Cap_k : CtrOk Try.prog 65 [.lf (.sl (.st 3))] [.io [.no], .own 43 2 (.st 3)] (cloneF (.st 3) 43 2) := clone_ctr (.st 3) (by kernel_rfl) (by decide) (by kernel_rfl) (fun v n us w h1 h2 h3 => cloneCap_any v n us w h1 h2 h3)
noncomputable def CL_Ask_e : Ent := ⟨[.lf (.sl (.st 1))], [.io [.no], .own 107 8 (.st 1)], cloneF (.st 1) 107 8⟩
theorem CL_Ask_k : CtrOk Try.prog 79 [.lf (.sl (.st 1))] [.io [.no], .own 107 8 (.st 1)] (cloneF (.st 1) 107 8) := clone_ctr (.st 1) (by kernel_rfl) (by decide) (by kernel_rfl) (fun v n us w h1 h2 h3 => cloneAsk_any v n us w h1 h2 h3)
noncomputable def CL_Int_e : Ent := ⟨[.lf (.sl (.int .i64))], [.io [.no], .own 3 1 (.int .i64)], cloneF (.int .i64) 3 1⟩
theorem CL_Int_k : CtrOk Try.prog 80 [.lf (.sl (.int .i64))] [.io [.no], .own 3 1 (.int .i64)] (cloneF (.int .i64) 3 1) := clone_ctr (.int .i64) (by kernel_rfl) (by decide) (by kernel_rfl) (fun v n us w h1 h2 h3 => cloneInt_any v n us w h1 h2 h3)
noncomputable def CL_App_e : Ent := ⟨[.lf (.sl (.st 2))], [.io [.no], .own 57 14 (.st 2)], cloneF (.st 2) 57 14⟩
theorem CL_App_k : CtrOk Try.prog 102 [.lf (.sl (.st 2))] [.io [.no], .own 57 14 (.st 2)] (cloneF (.st 2) 57 14) := clone_ctr (.st 2) (by kernel_rfl) (by decide) (by kernel_rfl) (fun v n us w h1 h2 h3 => cloneApp_any v n us w h1 h2 h3)
noncomputable def CL_strC_e : Ent := ⟨[.lf .str], [.lf .str], fun x => if (show ByteArray from x.1).size ≤ 1000000000 then some x.1 else none⟩
theorem CL_strC_k : CtrOk Try.prog 64 [.lf .str] [.lf .str] (fun x => if (show ByteArray from x.1).size ≤ 1000000000 then some x.1 else none) := ctr_str (by kernel_rfl) fun x z w hF => by
  dsimp only at hF
  split at hF
  · rename_i hle
    injection hF with hF
    subst hF
    exact strClone_any x w (Nat.le_trans hle (by decide))
  · cases hF
/-- A function of two texts that answers a number. -/
theorem ctr_str2 {P : Program} {f : FuncId} {F : dens [.lf .str, .lf .str] → Option (densR [.lf (.int .i64)])} (hcall : callable P f = true)
    (H : ∀ (x y : ByteArray) (z : Int) (w : World), F (x, (y, ())) = some z → Calls P f #[.string x, .string y] w fun en w' => en = .returned (.int .i64 z) ∧ w' = w) : CtrOk P f [.lf .str, .lf .str] [.lf (.int .i64)] F := by
  rintro ⟨x, y, ⟨⟩⟩ z hF
  refine ⟨fun _ => ⟨hcall, fun w G vs hG hr => ?_⟩, fun h => (by cases h)⟩
  have hvl : vs.toList.length = 2 := hr.len
  obtain ⟨v, u, hv⟩ : ∃ v u, vs = #[v, u] := by
    match hv : vs.toList, hvl with
    | [v, u], _ => exact ⟨v, u, by apply Array.ext'; simpa using hv⟩
  subst hv
  obtain ⟨rfl, _⟩ := PRep.vv (hr.rep 0 v _ rfl rfl)
  obtain ⟨rfl, _⟩ := PRep.vv (hr.rep 1 u _ rfl rfl)
  refine (H x y z w hF).mono ?_
  rintro en w' ⟨rfl, rfl⟩
  exact ⟨_, G, rfl, Ext.refl _, fun _ h => h, hG, fun _ h => .inl h, .d _ _ (.v _ rfl)⟩
def lastF (s sub : ByteArray) : Option Int := if h : sub.size = 1 ∧ s.size ≤ 1000000000 then some (Lib.lastIndexByte s (((sub[0]'(by omega)).toNat : Nat) : Int)) else none
noncomputable def CL_lastI_e : Ent := ⟨[.lf .str, .lf .str], [.lf (.int .i64)], fun x => lastF x.1 x.2.1⟩
theorem CL_lastI_k : CtrOk Try.prog 106 [.lf .str, .lf .str] [.lf (.int .i64)] (fun x => lastF x.1 x.2.1) := ctr_str2 (by kernel_rfl) fun x y z w hF => by
  dsimp only at hF
  unfold lastF at hF
  split at hF
  · rename_i h
    injection hF with hF
    subst hF
    exact Try.strings_LastIndex_one x y h.1 (Nat.lt_of_le_of_lt h.2 (by decide)) w
  · cases hF
end Go.Proofs.Ytjeeclabnimbbaa

/- Contracts as the code stands (written by irhint.py). -/
namespace Go.Proofs.Ytjeeclabnimbbaa
open Go.RowKit
set_option maxRecDepth 100000
noncomputable def P_fresh_App_f (x : dens [.ag 2]) : Option (densR [.ag 2]) := runF ⟨Try.prog, [(64, CL_strC_e), (79, CL_Ask_e), (80, CL_Int_e)], 28, [.ag 2], [.cell 2 57], [], [2], []⟩ ((Try.f44).body.getD .skip) (.n) [.ag 2] x
noncomputable def P_fresh_App_e : Ent := ⟨[.ag 2], [.ag 2], P_fresh_App_f⟩
theorem P_fresh_App_k : CtrOk Try.prog 44 [.ag 2] [.ag 2] P_fresh_App_f := ctr_of (n := 28) (.cons (CL_strC_k) (.cons (CL_Ask_k) (.cons (CL_Int_k) (.nil)))) Try.mixed Try.func44 rfl (by kernel_rfl) rfl rfl rfl (fun _ => rfl)
--x theorem P_fresh_App_x (x : dens [.ag 2]) : runF ⟨Try.prog, [(64, CL_strC_e), (79, CL_Ask_e), (80, CL_Int_e)], 28, [.ag 2], [.cell 2 57], [], [2], []⟩ ((Try.f44).body.getD .skip) (.n) [.ag 2] x = P_fresh_App_f x := by kernel_rfl
noncomputable def P_fresh_queue_f (x : dens [.ag 4]) : Option (densR [.ag 4]) := runF ⟨Try.prog, [(64, CL_strC_e), (65, CL_Cap_e)], 12, [.ag 4], [.cell 2 46], [], [2], []⟩ ((Try.f101).body.getD .skip) (.n) [.ag 4] x
noncomputable def P_fresh_queue_e : Ent := ⟨[.ag 4], [.ag 4], P_fresh_queue_f⟩
theorem P_fresh_queue_k : CtrOk Try.prog 101 [.ag 4] [.ag 4] P_fresh_queue_f := ctr_of (n := 12) (.cons (CL_strC_k) (.cons (CL_Cap_k) (.nil))) Try.mixed Try.func101 rfl (by kernel_rfl) rfl rfl rfl (fun _ => rfl)
--x theorem P_fresh_queue_x (x : dens [.ag 4]) : runF ⟨Try.prog, [(64, CL_strC_e), (65, CL_Cap_e)], 12, [.ag 4], [.cell 2 46], [], [2], []⟩ ((Try.f101).body.getD .skip) (.n) [.ag 4] x = P_fresh_queue_f x := by kernel_rfl
noncomputable def P_fresh_eachS_f (x : dens [.lf (.sl .str), .fn 64 [] []]) : Option (densR [.lf (.sl .str)]) := runF ⟨Try.prog, [(108, CL_Str_e), (64, CL_strC_e)], 24, [.lf (.sl .str)], [.tmp 4], [], [], []⟩ ((Try.f99).body.getD .skip) (.s (.n) (.s (.n) (.s (.s (.n) (.s (.lp [.row 0 500512 9 1 (.str), .row 9 500512 9 1 (.str), .leaf 11 (.int .i64)] 0 false (.n)) .n)) (.n)))) [.lf (.sl .str), .fn 64 [] []] x
noncomputable def P_fresh_eachS_e : Ent := ⟨[.lf (.sl .str), .fn 64 [] []], [.lf (.sl .str)], P_fresh_eachS_f⟩
theorem P_fresh_eachS_k : CtrOk Try.prog 99 [.lf (.sl .str), .fn 64 [] []] [.lf (.sl .str)] P_fresh_eachS_f := ctr_of (n := 24) (.cons (CL_Str_k) (.cons (CL_strC_k) (.nil))) Try.mixed Try.func99 rfl (by kernel_rfl) rfl rfl rfl (fun _ => rfl)
--x theorem P_fresh_eachS_x (x : dens [.lf (.sl .str), .fn 64 [] []]) : runF ⟨Try.prog, [(108, CL_Str_e), (64, CL_strC_e)], 24, [.lf (.sl .str)], [.tmp 4], [], [], []⟩ ((Try.f99).body.getD .skip) (.s (.n) (.s (.n) (.s (.s (.n) (.s (.lp [.row 0 500512 9 1 (.str), .row 9 500512 9 1 (.str), .leaf 11 (.int .i64)] 0 false (.n)) .n)) (.n)))) [.lf (.sl .str), .fn 64 [] []] x = P_fresh_eachS_f x := by kernel_rfl
noncomputable def P_fresh_eachQ_f (x : dens [.lf (.sl (.st 4)), .fn 101 [] []]) : Option (densR [.lf (.sl (.st 4))]) := runF ⟨Try.prog, [(109, CL_Queue_e), (101, P_fresh_queue_e)], 24, [.lf (.sl (.st 4))], [.tmp 4], [], [], []⟩ ((Try.f100).body.getD .skip) (.s (.n) (.s (.n) (.s (.s (.n) (.s (.lp [.row 0 500512 46 3 (.st 4), .row 9 500512 46 3 (.st 4), .leaf 11 (.int .i64)] 0 false (.n)) .n)) (.n)))) [.lf (.sl (.st 4)), .fn 101 [] []] x
noncomputable def P_fresh_eachQ_e : Ent := ⟨[.lf (.sl (.st 4)), .fn 101 [] []], [.lf (.sl (.st 4))], P_fresh_eachQ_f⟩
theorem P_fresh_eachQ_k : CtrOk Try.prog 100 [.lf (.sl (.st 4)), .fn 101 [] []] [.lf (.sl (.st 4))] P_fresh_eachQ_f := ctr_of (n := 24) (.cons (CL_Queue_k) (.cons (P_fresh_queue_k) (.nil))) Try.mixed Try.func100 rfl (by kernel_rfl) rfl rfl rfl (fun _ => rfl)
--x theorem P_fresh_eachQ_x (x : dens [.lf (.sl (.st 4)), .fn 101 [] []]) : runF ⟨Try.prog, [(109, CL_Queue_e), (101, P_fresh_queue_e)], 24, [.lf (.sl (.st 4))], [.tmp 4], [], [], []⟩ ((Try.f100).body.getD .skip) (.s (.n) (.s (.n) (.s (.s (.n) (.s (.lp [.row 0 500512 46 3 (.st 4), .row 9 500512 46 3 (.st 4), .leaf 11 (.int .i64)] 0 false (.n)) .n)) (.n)))) [.lf (.sl (.st 4)), .fn 101 [] []] x = P_fresh_eachQ_f x := by kernel_rfl
noncomputable def P_fresh_eachA_f (x : dens [.lf (.sl (.st 2)), .fn 44 [] []]) : Option (densR [.lf (.sl (.st 2))]) := runF ⟨Try.prog, [(102, CL_App_e), (44, P_fresh_App_e)], 24, [.lf (.sl (.st 2))], [.tmp 4], [], [], []⟩ ((Try.f69).body.getD .skip) (.s (.n) (.s (.n) (.s (.s (.n) (.s (.lp [.row 0 500512 57 14 (.st 2), .row 9 500512 57 14 (.st 2), .leaf 11 (.int .i64)] 0 false (.n)) .n)) (.n)))) [.lf (.sl (.st 2)), .fn 44 [] []] x
noncomputable def P_fresh_eachA_e : Ent := ⟨[.lf (.sl (.st 2)), .fn 44 [] []], [.lf (.sl (.st 2))], P_fresh_eachA_f⟩
theorem P_fresh_eachA_k : CtrOk Try.prog 69 [.lf (.sl (.st 2)), .fn 44 [] []] [.lf (.sl (.st 2))] P_fresh_eachA_f := ctr_of (n := 24) (.cons (CL_App_k) (.cons (P_fresh_App_k) (.nil))) Try.mixed Try.func69 rfl (by kernel_rfl) rfl rfl rfl (fun _ => rfl)
--x theorem P_fresh_eachA_x (x : dens [.lf (.sl (.st 2)), .fn 44 [] []]) : runF ⟨Try.prog, [(102, CL_App_e), (44, P_fresh_App_e)], 24, [.lf (.sl (.st 2))], [.tmp 4], [], [], []⟩ ((Try.f69).body.getD .skip) (.s (.n) (.s (.n) (.s (.s (.n) (.s (.lp [.row 0 500512 57 14 (.st 2), .row 9 500512 57 14 (.st 2), .leaf 11 (.int .i64)] 0 false (.n)) .n)) (.n)))) [.lf (.sl (.st 2)), .fn 44 [] []] x = P_fresh_eachA_f x := by kernel_rfl
noncomputable def P_fresh_conf_f (x : dens [.ag 5]) : Option (densR [.ag 5]) := runF ⟨Try.prog, [(99, P_fresh_eachS_e), (100, P_fresh_eachQ_e), (64, CL_strC_e)], 10, [.ag 5], [.cell 2 27], [], [2], []⟩ ((Try.f67).body.getD .skip) (.n) [.ag 5] x
noncomputable def P_fresh_conf_e : Ent := ⟨[.ag 5], [.ag 5], P_fresh_conf_f⟩
theorem P_fresh_conf_k : CtrOk Try.prog 67 [.ag 5] [.ag 5] P_fresh_conf_f := ctr_of (n := 10) (.cons (P_fresh_eachS_k) (.cons (P_fresh_eachQ_k) (.cons (CL_strC_k) (.nil)))) Try.mixed Try.func67 rfl (by kernel_rfl) rfl rfl rfl (fun _ => rfl)
--x theorem P_fresh_conf_x (x : dens [.ag 5]) : runF ⟨Try.prog, [(99, P_fresh_eachS_e), (100, P_fresh_eachQ_e), (64, CL_strC_e)], 10, [.ag 5], [.cell 2 27], [], [2], []⟩ ((Try.f67).body.getD .skip) (.n) [.ag 5] x = P_fresh_conf_f x := by kernel_rfl
noncomputable def P_fresh_State_f (x : dens [.ag 12]) : Option (densR [.ag 12]) := runF ⟨Try.prog, [(67, P_fresh_conf_e), (68, CL_Node_e), (69, P_fresh_eachA_e), (70, CL_Cont_e), (71, CL_Slot_e), (72, CL_Plan_e)], 28, [.ag 12], [.cell 2 34], [], [2], []⟩ ((Try.f39).body.getD .skip) (.n) [.ag 12] x
noncomputable def P_fresh_State_e : Ent := ⟨[.ag 12], [.ag 12], P_fresh_State_f⟩
theorem P_fresh_State_k : CtrOk Try.prog 39 [.ag 12] [.ag 12] P_fresh_State_f := ctr_of (n := 28) (.cons (P_fresh_conf_k) (.cons (CL_Node_k) (.cons (P_fresh_eachA_k) (.cons (CL_Cont_k) (.cons (CL_Slot_k) (.cons (CL_Plan_k) (.nil))))))) Try.mixed Try.func39 rfl (by kernel_rfl) rfl rfl rfl (fun _ => rfl)
--x theorem P_fresh_State_x (x : dens [.ag 12]) : runF ⟨Try.prog, [(67, P_fresh_conf_e), (68, CL_Node_e), (69, P_fresh_eachA_e), (70, CL_Cont_e), (71, CL_Slot_e), (72, CL_Plan_e)], 28, [.ag 12], [.cell 2 34], [], [2], []⟩ ((Try.f39).body.getD .skip) (.n) [.ag 12] x = P_fresh_State_f x := by kernel_rfl
noncomputable def P_rule_above_f (x : dens [.lf (.str)]) : Option (densR [.lf (.str)]) := runF ⟨Try.prog, [(106, CL_lastI_e)], 8, [.lf (.str)], [.tmp 2], [], [], []⟩ ((Try.f91).body.getD .skip) (.n) [.lf (.str)] x
noncomputable def P_rule_above_e : Ent := ⟨[.lf (.str)], [.lf (.str)], P_rule_above_f⟩
theorem P_rule_above_k : CtrOk Try.prog 91 [.lf (.str)] [.lf (.str)] P_rule_above_f := ctr_of (n := 8) (.cons (CL_lastI_k) (.nil)) Try.mixed Try.func91 rfl (by kernel_rfl) rfl rfl rfl (fun _ => rfl)
--x theorem P_rule_above_x (x : dens [.lf (.str)]) : runF ⟨Try.prog, [(106, CL_lastI_e)], 8, [.lf (.str)], [.tmp 2], [], [], []⟩ ((Try.f91).body.getD .skip) (.n) [.lf (.str)] x = P_rule_above_f x := by kernel_rfl
noncomputable def P_rule_isKid_f (x : dens [.ag 4, .lf (.str)]) : Option (densR [.lf (.bool)]) := runF ⟨Try.prog, [(91, P_rule_above_e)], 14, [.lf (.bool)], [.tmp 4], [], [], []⟩ ((Try.f110).body.getD .skip) (.n) [.ag 4, .lf (.str)] x
noncomputable def P_rule_isKid_e : Ent := ⟨[.ag 4, .lf (.str)], [.lf (.bool)], P_rule_isKid_f⟩
theorem P_rule_isKid_k : CtrOk Try.prog 110 [.ag 4, .lf (.str)] [.lf (.bool)] P_rule_isKid_f := ctr_of (n := 14) (.cons (P_rule_above_k) (.nil)) Try.mixed Try.func110 rfl (by kernel_rfl) rfl rfl rfl (fun _ => rfl)
--x theorem P_rule_isKid_x (x : dens [.ag 4, .lf (.str)]) : runF ⟨Try.prog, [(91, P_rule_above_e)], 14, [.lf (.bool)], [.tmp 4], [], [], []⟩ ((Try.f110).body.getD .skip) (.n) [.ag 4, .lf (.str)] x = P_rule_isKid_f x := by kernel_rfl
noncomputable def P_rule_Kids_f (x : dens [.ag 5, .lf (.str)]) : Option (densR [.lf (.sl (.str))]) := runF ⟨Try.prog, [(110, P_rule_isKid_e), (64, CL_strC_e)], 25, [.lf (.sl (.str))], [.tmp 4], [], [], []⟩ ((Try.f104).body.getD .skip) (.s (.n) (.s (.s (.n) (.s (.lp [.row 4 4 9 1 (.str), .leaf 10 (.int .i64)] 0 false (.n)) .n)) (.n))) [.ag 5, .lf (.str)] x
noncomputable def P_rule_Kids_e : Ent := ⟨[.ag 5, .lf (.str)], [.lf (.sl (.str))], P_rule_Kids_f⟩
theorem P_rule_Kids_k : CtrOk Try.prog 104 [.ag 5, .lf (.str)] [.lf (.sl (.str))] P_rule_Kids_f := ctr_of (n := 25) (.cons (P_rule_isKid_k) (.cons (CL_strC_k) (.nil))) Try.mixed Try.func104 rfl (by kernel_rfl) rfl rfl rfl (fun _ => rfl)
--x theorem P_rule_Kids_x (x : dens [.ag 5, .lf (.str)]) : runF ⟨Try.prog, [(110, P_rule_isKid_e), (64, CL_strC_e)], 25, [.lf (.sl (.str))], [.tmp 4], [], [], []⟩ ((Try.f104).body.getD .skip) (.s (.n) (.s (.s (.n) (.s (.lp [.row 4 4 9 1 (.str), .leaf 10 (.int .i64)] 0 false (.n)) .n)) (.n))) [.ag 5, .lf (.str)] x = P_rule_Kids_f x := by kernel_rfl
noncomputable def P_rule_index1_f (x : dens [.ag 4, .pl .str]) : Option (densR [.lf (.bool)]) := runF ⟨Try.prog, [], 8, [.lf (.bool)], [.tmp 3], [], [], []⟩ ((Try.f93).body.getD .skip) (.n) [.ag 4, .pl .str] x
noncomputable def P_rule_index1_e : Ent := ⟨[.ag 4, .pl .str], [.lf (.bool)], P_rule_index1_f⟩
theorem P_rule_index1_k : CtrOk Try.prog 93 [.ag 4, .pl .str] [.lf (.bool)] P_rule_index1_f := ctr_of (n := 8) (.nil) Try.mixed Try.func93 rfl (by kernel_rfl) rfl rfl rfl (fun _ => rfl)
--x theorem P_rule_index1_x (x : dens [.ag 4, .pl .str]) : runF ⟨Try.prog, [], 8, [.lf (.bool)], [.tmp 3], [], [], []⟩ ((Try.f93).body.getD .skip) (.n) [.ag 4, .pl .str] x = P_rule_index1_f x := by kernel_rfl
noncomputable def P_idxQ_f (x : dens [.lf (.sl (.st 4)), .fn 93 [] [.pl .str]]) : Option (densR [.lf (.int .i64)]) := runF ⟨Try.prog, [(93, P_rule_index1_e)], 19, [.lf (.int .i64)], [.tmp 4], [], [], []⟩ ((Try.f92).body.getD .skip) (.s (.n) (.s (.s (.n) (.s (.lp [.leaf 4 (.int .i64), .leaf 8 (.int .i64)] 0 true (.n)) .n)) (.n))) [.lf (.sl (.st 4)), .fn 93 [] [.pl .str]] x
noncomputable def P_idxQ_e : Ent := ⟨[.lf (.sl (.st 4)), .fn 93 [] [.pl .str]], [.lf (.int .i64)], P_idxQ_f⟩
theorem P_idxQ_k : CtrOk Try.prog 92 [.lf (.sl (.st 4)), .fn 93 [] [.pl .str]] [.lf (.int .i64)] P_idxQ_f := ctr_of (n := 19) (.cons (P_rule_index1_k) (.nil)) Try.mixed Try.func92 rfl (by kernel_rfl) rfl rfl rfl (fun _ => rfl)
--x theorem P_idxQ_x (x : dens [.lf (.sl (.st 4)), .fn 93 [] [.pl .str]]) : runF ⟨Try.prog, [(93, P_rule_index1_e)], 19, [.lf (.int .i64)], [.tmp 4], [], [], []⟩ ((Try.f92).body.getD .skip) (.s (.n) (.s (.s (.n) (.s (.lp [.leaf 4 (.int .i64), .leaf 8 (.int .i64)] 0 true (.n)) .n)) (.n))) [.lf (.sl (.st 4)), .fn 93 [] [.pl .str]] x = P_idxQ_f x := by kernel_rfl
noncomputable def P_rule_index_f (x : dens [.ag 5, .lf (.str)]) : Option (densR [.lf (.int .i64)]) := runF ⟨Try.prog, [(92, P_idxQ_e)], 9, [.lf (.int .i64)], [.tmp 4], [], [], [(0, [3])]⟩ ((Try.f63).body.getD .skip) (.n) [.ag 5, .lf (.str)] x
noncomputable def P_rule_index_e : Ent := ⟨[.ag 5, .lf (.str)], [.lf (.int .i64)], P_rule_index_f⟩
theorem P_rule_index_k : CtrOk Try.prog 63 [.ag 5, .lf (.str)] [.lf (.int .i64)] P_rule_index_f := ctr_of (n := 9) (.cons (P_idxQ_k) (.nil)) Try.mixed Try.func63 rfl (by kernel_rfl) rfl rfl rfl (fun _ => rfl)
--x theorem P_rule_index_x (x : dens [.ag 5, .lf (.str)]) : runF ⟨Try.prog, [(92, P_idxQ_e)], 9, [.lf (.int .i64)], [.tmp 4], [], [], [(0, [3])]⟩ ((Try.f63).body.getD .skip) (.n) [.ag 5, .lf (.str)] x = P_rule_index_f x := by kernel_rfl
noncomputable def P_rule_Leaf_f (x : dens [.ag 5, .lf (.str)]) : Option (densR [.lf (.bool)]) := runF ⟨Try.prog, [(63, P_rule_index_e), (104, P_rule_Kids_e)], 16, [.lf (.bool)], [.tmp 4], [], [], []⟩ ((Try.f75).body.getD .skip) (.n) [.ag 5, .lf (.str)] x
noncomputable def P_rule_Leaf_e : Ent := ⟨[.ag 5, .lf (.str)], [.lf (.bool)], P_rule_Leaf_f⟩
theorem P_rule_Leaf_k : CtrOk Try.prog 75 [.ag 5, .lf (.str)] [.lf (.bool)] P_rule_Leaf_f := ctr_of (n := 16) (.cons (P_rule_index_k) (.cons (P_rule_Kids_k) (.nil))) Try.mixed Try.func75 rfl (by kernel_rfl) rfl rfl rfl (fun _ => rfl)
--x theorem P_rule_Leaf_x (x : dens [.ag 5, .lf (.str)]) : runF ⟨Try.prog, [(63, P_rule_index_e), (104, P_rule_Kids_e)], 16, [.lf (.bool)], [.tmp 4], [], [], []⟩ ((Try.f75).body.getD .skip) (.n) [.ag 5, .lf (.str)] x = P_rule_Leaf_f x := by kernel_rfl
noncomputable def P_apps_Live_f (x : dens [.ag 2]) : Option (densR [.lf (.bool)]) := runF ⟨Try.prog, [], 11, [.lf (.bool)], [.tmp 2], [], [], []⟩ ((Try.f19).body.getD .skip) (.n) [.ag 2] x
noncomputable def P_apps_Live_e : Ent := ⟨[.ag 2], [.lf (.bool)], P_apps_Live_f⟩
theorem P_apps_Live_k : CtrOk Try.prog 19 [.ag 2] [.lf (.bool)] P_apps_Live_f := ctr_of (n := 11) (.nil) Try.mixed Try.func19 rfl (by kernel_rfl) rfl rfl rfl (fun _ => rfl)
--x theorem P_apps_Live_x (x : dens [.ag 2]) : runF ⟨Try.prog, [], 11, [.lf (.bool)], [.tmp 2], [], [], []⟩ ((Try.f19).body.getD .skip) (.n) [.ag 2] x = P_apps_Live_f x := by kernel_rfl
noncomputable def P_apps_within_f (x : dens [.lf (.int .i64), .lf (.int .i64), .lf (.int .i64)]) : Option (densR [.lf (.bool)]) := runF ⟨Try.prog, [], 15, [.lf (.bool)], [.tmp 6], [], [], []⟩ ((Try.f103).body.getD .skip) (.n) [.lf (.int .i64), .lf (.int .i64), .lf (.int .i64)] x
noncomputable def P_apps_within_e : Ent := ⟨[.lf (.int .i64), .lf (.int .i64), .lf (.int .i64)], [.lf (.bool)], P_apps_within_f⟩
theorem P_apps_within_k : CtrOk Try.prog 103 [.lf (.int .i64), .lf (.int .i64), .lf (.int .i64)] [.lf (.bool)] P_apps_within_f := ctr_of (n := 15) (.nil) Try.mixed Try.func103 rfl (by kernel_rfl) rfl rfl rfl (fun _ => rfl)
--x theorem P_apps_within_x (x : dens [.lf (.int .i64), .lf (.int .i64), .lf (.int .i64)]) : runF ⟨Try.prog, [], 15, [.lf (.bool)], [.tmp 6], [], [], []⟩ ((Try.f103).body.getD .skip) (.n) [.lf (.int .i64), .lf (.int .i64), .lf (.int .i64)] x = P_apps_within_f x := by kernel_rfl
noncomputable def P_apps_bounded_f (x : dens [.ag 2]) : Option (densR [.lf (.bool)]) := runF ⟨Try.prog, [(103, P_apps_within_e)], 28, [.lf (.bool)], [.tmp 2], [], [], []⟩ ((Try.f73).body.getD .skip) (.n) [.ag 2] x
noncomputable def P_apps_bounded_e : Ent := ⟨[.ag 2], [.lf (.bool)], P_apps_bounded_f⟩
theorem P_apps_bounded_k : CtrOk Try.prog 73 [.ag 2] [.lf (.bool)] P_apps_bounded_f := ctr_of (n := 28) (.cons (P_apps_within_k) (.nil)) Try.mixed Try.func73 rfl (by kernel_rfl) rfl rfl rfl (fun _ => rfl)
--x theorem P_apps_bounded_x (x : dens [.ag 2]) : runF ⟨Try.prog, [(103, P_apps_within_e)], 28, [.lf (.bool)], [.tmp 2], [], [], []⟩ ((Try.f73).body.getD .skip) (.n) [.ag 2] x = P_apps_bounded_f x := by kernel_rfl
noncomputable def P_apps_countLive_f (x : dens [.lf (.sl (.st 2))]) : Option (densR [.lf (.int .i64)]) := runF ⟨Try.prog, [(19, P_apps_Live_e)], 17, [.lf (.int .i64)], [.tmp 2], [], [], []⟩ ((Try.f74).body.getD .skip) (.s (.n) (.s (.s (.n) (.s (.lp [.leaf 2 (.int .i64), .leaf 7 (.int .i64)] 0 false (.n)) .n)) (.n))) [.lf (.sl (.st 2))] x
noncomputable def P_apps_countLive_e : Ent := ⟨[.lf (.sl (.st 2))], [.lf (.int .i64)], P_apps_countLive_f⟩
theorem P_apps_countLive_k : CtrOk Try.prog 74 [.lf (.sl (.st 2))] [.lf (.int .i64)] P_apps_countLive_f := ctr_of (n := 17) (.cons (P_apps_Live_k) (.nil)) Try.mixed Try.func74 rfl (by kernel_rfl) rfl rfl rfl (fun _ => rfl)
--x theorem P_apps_countLive_x (x : dens [.lf (.sl (.st 2))]) : runF ⟨Try.prog, [(19, P_apps_Live_e)], 17, [.lf (.int .i64)], [.tmp 2], [], [], []⟩ ((Try.f74).body.getD .skip) (.s (.n) (.s (.s (.n) (.s (.lp [.leaf 2 (.int .i64), .leaf 7 (.int .i64)] 0 false (.n)) .n)) (.n))) [.lf (.sl (.st 2))] x = P_apps_countLive_f x := by kernel_rfl
noncomputable def P_apps_index1_f (x : dens [.ag 2, .pl (.int .i64)]) : Option (densR [.lf (.bool)]) := runF ⟨Try.prog, [], 8, [.lf (.bool)], [.tmp 3], [], [], []⟩ ((Try.f81).body.getD .skip) (.n) [.ag 2, .pl (.int .i64)] x
noncomputable def P_apps_index1_e : Ent := ⟨[.ag 2, .pl (.int .i64)], [.lf (.bool)], P_apps_index1_f⟩
theorem P_apps_index1_k : CtrOk Try.prog 81 [.ag 2, .pl (.int .i64)] [.lf (.bool)] P_apps_index1_f := ctr_of (n := 8) (.nil) Try.mixed Try.func81 rfl (by kernel_rfl) rfl rfl rfl (fun _ => rfl)
--x theorem P_apps_index1_x (x : dens [.ag 2, .pl (.int .i64)]) : runF ⟨Try.prog, [], 8, [.lf (.bool)], [.tmp 3], [], [], []⟩ ((Try.f81).body.getD .skip) (.n) [.ag 2, .pl (.int .i64)] x = P_apps_index1_f x := by kernel_rfl
noncomputable def P_idxA_f (x : dens [.lf (.sl (.st 2)), .fn 81 [] [.pl (.int .i64)]]) : Option (densR [.lf (.int .i64)]) := runF ⟨Try.prog, [(81, P_apps_index1_e)], 19, [.lf (.int .i64)], [.tmp 4], [], [], []⟩ ((Try.f76).body.getD .skip) (.s (.n) (.s (.s (.n) (.s (.lp [.leaf 4 (.int .i64), .leaf 8 (.int .i64)] 0 true (.n)) .n)) (.n))) [.lf (.sl (.st 2)), .fn 81 [] [.pl (.int .i64)]] x
noncomputable def P_idxA_e : Ent := ⟨[.lf (.sl (.st 2)), .fn 81 [] [.pl (.int .i64)]], [.lf (.int .i64)], P_idxA_f⟩
theorem P_idxA_k : CtrOk Try.prog 76 [.lf (.sl (.st 2)), .fn 81 [] [.pl (.int .i64)]] [.lf (.int .i64)] P_idxA_f := ctr_of (n := 19) (.cons (P_apps_index1_k) (.nil)) Try.mixed Try.func76 rfl (by kernel_rfl) rfl rfl rfl (fun _ => rfl)
--x theorem P_idxA_x (x : dens [.lf (.sl (.st 2)), .fn 81 [] [.pl (.int .i64)]]) : runF ⟨Try.prog, [(81, P_apps_index1_e)], 19, [.lf (.int .i64)], [.tmp 4], [], [], []⟩ ((Try.f76).body.getD .skip) (.s (.n) (.s (.s (.n) (.s (.lp [.leaf 4 (.int .i64), .leaf 8 (.int .i64)] 0 true (.n)) .n)) (.n))) [.lf (.sl (.st 2)), .fn 81 [] [.pl (.int .i64)]] x = P_idxA_f x := by kernel_rfl
noncomputable def P_apps_index_f (x : dens [.lf (.sl (.st 2)), .lf (.int .i64)]) : Option (densR [.lf (.int .i64)]) := runF ⟨Try.prog, [(76, P_idxA_e)], 8, [.lf (.int .i64)], [.tmp 4], [], [], [(0, [3])]⟩ ((Try.f45).body.getD .skip) (.n) [.lf (.sl (.st 2)), .lf (.int .i64)] x
noncomputable def P_apps_index_e : Ent := ⟨[.lf (.sl (.st 2)), .lf (.int .i64)], [.lf (.int .i64)], P_apps_index_f⟩
theorem P_apps_index_k : CtrOk Try.prog 45 [.lf (.sl (.st 2)), .lf (.int .i64)] [.lf (.int .i64)] P_apps_index_f := ctr_of (n := 8) (.cons (P_idxA_k) (.nil)) Try.mixed Try.func45 rfl (by kernel_rfl) rfl rfl rfl (fun _ => rfl)
--x theorem P_apps_index_x (x : dens [.lf (.sl (.st 2)), .lf (.int .i64)]) : runF ⟨Try.prog, [(76, P_idxA_e)], 8, [.lf (.int .i64)], [.tmp 4], [], [], [(0, [3])]⟩ ((Try.f45).body.getD .skip) (.n) [.lf (.sl (.st 2)), .lf (.int .i64)] x = P_apps_index_f x := by kernel_rfl
noncomputable def P_apps_check_f (x : dens [.ag 12, .ag 2]) : Option (densR [.lf (.int .i64)]) := runF ⟨Try.prog, [(73, P_apps_bounded_e), (45, P_apps_index_e), (74, P_apps_countLive_e), (75, P_rule_Leaf_e)], 28, [.lf (.int .i64)], [.tmp 4], [], [], []⟩ ((Try.f40).body.getD .skip) (.n) [.ag 12, .ag 2] x
noncomputable def P_apps_check_e : Ent := ⟨[.ag 12, .ag 2], [.lf (.int .i64)], P_apps_check_f⟩
theorem P_apps_check_k : CtrOk Try.prog 40 [.ag 12, .ag 2] [.lf (.int .i64)] P_apps_check_f := ctr_of (n := 28) (.cons (P_apps_bounded_k) (.cons (P_apps_index_k) (.cons (P_apps_countLive_k) (.cons (P_rule_Leaf_k) (.nil))))) Try.mixed Try.func40 rfl (by kernel_rfl) rfl rfl rfl (fun _ => rfl)
--x theorem P_apps_check_x (x : dens [.ag 12, .ag 2]) : runF ⟨Try.prog, [(73, P_apps_bounded_e), (45, P_apps_index_e), (74, P_apps_countLive_e), (75, P_rule_Leaf_e)], 28, [.lf (.int .i64)], [.tmp 4], [], [], []⟩ ((Try.f40).body.getD .skip) (.n) [.ag 12, .ag 2] x = P_apps_check_f x := by kernel_rfl
noncomputable def P_apps_withRoom_f (x : dens [.lf (.sl (.st 2))]) : Option (densR [.lf (.sl (.st 2))]) := runF ⟨Try.prog, [], 15, [.lf (.sl (.st 2))], [.tmp 2], [], [], []⟩ ((Try.f42).body.getD .skip) (.n) [.lf (.sl (.st 2))] x
noncomputable def P_apps_withRoom_e : Ent := ⟨[.lf (.sl (.st 2))], [.lf (.sl (.st 2))], P_apps_withRoom_f⟩
theorem P_apps_withRoom_k : CtrOk Try.prog 42 [.lf (.sl (.st 2))] [.lf (.sl (.st 2))] P_apps_withRoom_f := ctr_of (n := 15) (.nil) Try.mixed Try.func42 rfl (by kernel_rfl) rfl rfl rfl (fun _ => rfl)
--x theorem P_apps_withRoom_x (x : dens [.lf (.sl (.st 2))]) : runF ⟨Try.prog, [], 15, [.lf (.sl (.st 2))], [.tmp 2], [], [], []⟩ ((Try.f42).body.getD .skip) (.n) [.lf (.sl (.st 2))] x = P_apps_withRoom_f x := by kernel_rfl
noncomputable def P_apps_waiting_f (x : dens [.ag 2, .lf (.int .i64)]) : Option (densR [.ag 2]) := runF ⟨Try.prog, [], 23, [.ag 2], [.cell 4 57], [], [4], []⟩ ((Try.f43).body.getD .skip) (.n) [.ag 2, .lf (.int .i64)] x
noncomputable def P_apps_waiting_e : Ent := ⟨[.ag 2, .lf (.int .i64)], [.ag 2], P_apps_waiting_f⟩
theorem P_apps_waiting_k : CtrOk Try.prog 43 [.ag 2, .lf (.int .i64)] [.ag 2] P_apps_waiting_f := ctr_of (n := 23) (.nil) Try.mixed Try.func43 rfl (by kernel_rfl) rfl rfl rfl (fun _ => rfl)
--x theorem P_apps_waiting_x (x : dens [.ag 2, .lf (.int .i64)]) : runF ⟨Try.prog, [], 23, [.ag 2], [.cell 4 57], [], [4], []⟩ ((Try.f43).body.getD .skip) (.n) [.ag 2, .lf (.int .i64)] x = P_apps_waiting_f x := by kernel_rfl
noncomputable def P_apps_insert_f (x : dens [.lf (.sl (.st 2)), .ag 2]) : Option (densR [.lf (.sl (.st 2))]) := runF ⟨Try.prog, [], 45, [.lf (.sl (.st 2))], [.tmp 4], [], [], []⟩ ((Try.f41).body.getD .skip) (.s (.n) (.s (.n) (.s (.s (.lp [.leaf 5 (.int .i64)] 0 false (.n)) .n) (.n)))) [.lf (.sl (.st 2)), .ag 2] x
noncomputable def P_apps_insert_e : Ent := ⟨[.lf (.sl (.st 2)), .ag 2], [.lf (.sl (.st 2))], P_apps_insert_f⟩
theorem P_apps_insert_k : CtrOk Try.prog 41 [.lf (.sl (.st 2)), .ag 2] [.lf (.sl (.st 2))] P_apps_insert_f := ctr_of (n := 45) (.nil) Try.mixed Try.func41 rfl (by kernel_rfl) rfl rfl rfl (fun _ => rfl)
--x theorem P_apps_insert_x (x : dens [.lf (.sl (.st 2)), .ag 2]) : runF ⟨Try.prog, [], 45, [.lf (.sl (.st 2))], [.tmp 4], [], [], []⟩ ((Try.f41).body.getD .skip) (.s (.n) (.s (.n) (.s (.s (.lp [.leaf 5 (.int .i64)] 0 false (.n)) .n) (.n)))) [.lf (.sl (.st 2)), .ag 2] x = P_apps_insert_f x := by kernel_rfl
noncomputable def P_apps_Submit_f (x : dens [.ag 12, .ag 2]) : Option (densR [.ag 12, .lf (.int .i64)]) := runF ⟨Try.prog, [(39, P_fresh_State_e), (40, P_apps_check_e), (42, P_apps_withRoom_e), (44, P_fresh_App_e), (43, P_apps_waiting_e), (41, P_apps_insert_e)], 27, [.ag 12, .lf (.int .i64)], [.cell 4 34, .tmp 5], [], [4], []⟩ ((Try.f17).body.getD .skip) (.n) [.ag 12, .ag 2] x
noncomputable def P_apps_Submit_e : Ent := ⟨[.ag 12, .ag 2], [.ag 12, .lf (.int .i64)], P_apps_Submit_f⟩
theorem P_apps_Submit_k : CtrOk Try.prog 17 [.ag 12, .ag 2] [.ag 12, .lf (.int .i64)] P_apps_Submit_f := ctr_of (n := 27) (.cons (P_fresh_State_k) (.cons (P_apps_check_k) (.cons (P_apps_withRoom_k) (.cons (P_fresh_App_k) (.cons (P_apps_waiting_k) (.cons (P_apps_insert_k) (.nil))))))) Try.mixed Try.func17 rfl (by kernel_rfl) rfl rfl rfl (fun _ => rfl)
--x theorem P_apps_Submit_x (x : dens [.ag 12, .ag 2]) : runF ⟨Try.prog, [(39, P_fresh_State_e), (40, P_apps_check_e), (42, P_apps_withRoom_e), (44, P_fresh_App_e), (43, P_apps_waiting_e), (41, P_apps_insert_e)], 27, [.ag 12, .lf (.int .i64)], [.cell 4 34, .tmp 5], [], [4], []⟩ ((Try.f17).body.getD .skip) (.n) [.ag 12, .ag 2] x = P_apps_Submit_f x := by kernel_rfl
noncomputable def P_apps_Find_f (x : dens [.ag 12, .lf (.int .i64)]) : Option (densR [.ag 2, .lf (.bool)]) := runF ⟨Try.prog, [(45, P_apps_index_e), (44, P_fresh_App_e)], 20, [.ag 2, .lf (.bool)], [.cell 4 57, .tmp 5], [], [4], []⟩ ((Try.f18).body.getD .skip) (.n) [.ag 12, .lf (.int .i64)] x
noncomputable def P_apps_Find_e : Ent := ⟨[.ag 12, .lf (.int .i64)], [.ag 2, .lf (.bool)], P_apps_Find_f⟩
theorem P_apps_Find_k : CtrOk Try.prog 18 [.ag 12, .lf (.int .i64)] [.ag 2, .lf (.bool)] P_apps_Find_f := ctr_of (n := 20) (.cons (P_apps_index_k) (.cons (P_fresh_App_k) (.nil))) Try.mixed Try.func18 rfl (by kernel_rfl) rfl rfl rfl (fun _ => rfl)
--x theorem P_apps_Find_x (x : dens [.ag 12, .lf (.int .i64)]) : runF ⟨Try.prog, [(45, P_apps_index_e), (44, P_fresh_App_e)], 20, [.ag 2, .lf (.bool)], [.cell 4 57, .tmp 5], [], [4], []⟩ ((Try.f18).body.getD .skip) (.n) [.ag 12, .lf (.int .i64)] x = P_apps_Find_f x := by kernel_rfl
noncomputable def P_apps_passed_f (x : dens [.lf (.int .i64), .lf (.int .i64)]) : Option (densR [.lf (.int .u64)]) := runF ⟨Try.prog, [], 13, [.lf (.int .u64)], [.tmp 4], [], [], []⟩ ((Try.f50).body.getD .skip) (.n) [.lf (.int .i64), .lf (.int .i64)] x
noncomputable def P_apps_passed_e : Ent := ⟨[.lf (.int .i64), .lf (.int .i64)], [.lf (.int .u64)], P_apps_passed_f⟩
theorem P_apps_passed_k : CtrOk Try.prog 50 [.lf (.int .i64), .lf (.int .i64)] [.lf (.int .u64)] P_apps_passed_f := ctr_of (n := 13) (.nil) Try.mixed Try.func50 rfl (by kernel_rfl) rfl rfl rfl (fun _ => rfl)
--x theorem P_apps_passed_x (x : dens [.lf (.int .i64), .lf (.int .i64)]) : runF ⟨Try.prog, [], 13, [.lf (.int .u64)], [.tmp 4], [], [], []⟩ ((Try.f50).body.getD .skip) (.n) [.lf (.int .i64), .lf (.int .i64)] x = P_apps_passed_f x := by kernel_rfl
noncomputable def P_apps_Silent_f (x : dens [.ag 12]) : Option (densR [.lf (.sl (.int .i64))]) := runF ⟨Try.prog, [(50, P_apps_passed_e)], 30, [.lf (.sl (.int .i64))], [.tmp 2], [], [], []⟩ ((Try.f21).body.getD .skip) (.s (.n) (.s (.s (.n) (.s (.lp [.row 2 2 3 1 (.int .i64), .leaf 8 (.int .i64)] 0 false (.n)) .n)) (.n))) [.ag 12] x
noncomputable def P_apps_Silent_e : Ent := ⟨[.ag 12], [.lf (.sl (.int .i64))], P_apps_Silent_f⟩
theorem P_apps_Silent_k : CtrOk Try.prog 21 [.ag 12] [.lf (.sl (.int .i64))] P_apps_Silent_f := ctr_of (n := 30) (.cons (P_apps_passed_k) (.nil)) Try.mixed Try.func21 rfl (by kernel_rfl) rfl rfl rfl (fun _ => rfl)
--x theorem P_apps_Silent_x (x : dens [.ag 12]) : runF ⟨Try.prog, [(50, P_apps_passed_e)], 30, [.lf (.sl (.int .i64))], [.tmp 2], [], [], []⟩ ((Try.f21).body.getD .skip) (.s (.n) (.s (.s (.n) (.s (.lp [.row 2 2 3 1 (.int .i64), .leaf 8 (.int .i64)] 0 false (.n)) .n)) (.n))) [.ag 12] x = P_apps_Silent_f x := by kernel_rfl
end Go.Proofs.Ytjeeclabnimbbaa

/- Contracts as the code stands (written by irhint.py). -/
namespace Go.Proofs.Ytjeeclabnimbbaa
open Go.RowKit
set_option maxRecDepth 100000
noncomputable def R_New_f (x : dens []) : Option (densR [.ag 12]) := runF ⟨Try.prog, [], 8, [.ag 12], [.cell 0 34], [], [0], []⟩ ((Try.f7).body.getD .skip) (.n) [] x
noncomputable def R_New_e : Ent := ⟨[], [.ag 12], R_New_f⟩
theorem R_New_k : CtrOk Try.prog 7 [] [.ag 12] R_New_f := ctr_of (n := 8) (.nil) Try.mixed Try.func7 rfl (by kernel_rfl) rfl rfl rfl (fun _ => rfl)
--x theorem R_New_x (x : dens []) : runF ⟨Try.prog, [], 8, [.ag 12], [.cell 0 34], [], [0], []⟩ ((Try.f7).body.getD .skip) (.n) [] x = R_New_f x := by kernel_rfl
noncomputable def L10_within_f (x : dens [.lf (.int .i64), .lf (.int .i64)]) : Option (densR [.lf (.int .i64)]) := runF ⟨Try.prog, [], 15, [.lf (.int .i64)], [.tmp 4], [], [], []⟩ ((Try.f16).body.getD .skip) (.n) [.lf (.int .i64), .lf (.int .i64)] x
noncomputable def L10_within_e : Ent := ⟨[.lf (.int .i64), .lf (.int .i64)], [.lf (.int .i64)], L10_within_f⟩
theorem L10_within_k : CtrOk Try.prog 16 [.lf (.int .i64), .lf (.int .i64)] [.lf (.int .i64)] L10_within_f := ctr_of (n := 15) (.nil) Try.mixed Try.func16 rfl (by kernel_rfl) rfl rfl rfl (fun _ => rfl)
--x theorem L10_within_x (x : dens [.lf (.int .i64), .lf (.int .i64)]) : runF ⟨Try.prog, [], 15, [.lf (.int .i64)], [.tmp 4], [], [], []⟩ ((Try.f16).body.getD .skip) (.n) [.lf (.int .i64), .lf (.int .i64)] x = L10_within_f x := by kernel_rfl
noncomputable def L10_known_f (x : dens []) : Option (densR [.lf (.bool)]) := runF ⟨Try.prog, [(7, R_New_e), (17, P_apps_Submit_e), (18, P_apps_Find_e), (19, P_apps_Live_e)], 37, [.lf (.bool)], [.tmp 0], [], [], []⟩ ((Try.f15).body.getD .skip) (.n) [] x
noncomputable def L10_known_e : Ent := ⟨[], [.lf (.bool)], L10_known_f⟩
theorem L10_known_k : CtrOk Try.prog 15 [] [.lf (.bool)] L10_known_f := ctr_of (n := 37) (.cons (R_New_k) (.cons (P_apps_Submit_k) (.cons (P_apps_Find_k) (.cons (P_apps_Live_k) (.nil))))) Try.mixed Try.func15 rfl (by kernel_rfl) rfl rfl rfl (fun _ => rfl)
--x theorem L10_known_x (x : dens []) : runF ⟨Try.prog, [(7, R_New_e), (17, P_apps_Submit_e), (18, P_apps_Find_e), (19, P_apps_Live_e)], 37, [.lf (.bool)], [.tmp 0], [], [], []⟩ ((Try.f15).body.getD .skip) (.n) [] x = L10_known_f x := by kernel_rfl
noncomputable def L10_AppsLife_f (x : dens [.lf (.int .i64), .lf (.int .i64), .lf (.int .i64)]) : Option (densR [.lf (.bool)]) := runF ⟨Try.prog, [(15, L10_known_e), (16, L10_within_e), (7, R_New_e), (21, P_apps_Silent_e)], 61, [.lf (.bool)], [.tmp 6], [], [], []⟩ ((Try.f5).body.getD .skip) (.n) [.lf (.int .i64), .lf (.int .i64), .lf (.int .i64)] x
noncomputable def L10_AppsLife_e : Ent := ⟨[.lf (.int .i64), .lf (.int .i64), .lf (.int .i64)], [.lf (.bool)], L10_AppsLife_f⟩
theorem L10_AppsLife_k : CtrOk Try.prog 5 [.lf (.int .i64), .lf (.int .i64), .lf (.int .i64)] [.lf (.bool)] L10_AppsLife_f := ctr_of (n := 61) (.cons (L10_known_k) (.cons (L10_within_k) (.cons (R_New_k) (.cons (P_apps_Silent_k) (.nil))))) Try.mixed Try.func5 rfl (by kernel_rfl) rfl rfl rfl (fun _ => rfl)
--x theorem L10_AppsLife_x (x : dens [.lf (.int .i64), .lf (.int .i64), .lf (.int .i64)]) : runF ⟨Try.prog, [(15, L10_known_e), (16, L10_within_e), (7, R_New_e), (21, P_apps_Silent_e)], 61, [.lf (.bool)], [.tmp 6], [], [], []⟩ ((Try.f5).body.getD .skip) (.n) [.lf (.int .i64), .lf (.int .i64), .lf (.int .i64)] x = L10_AppsLife_f x := by kernel_rfl
end Go.Proofs.Ytjeeclabnimbbaa

/- A slice of structs all of whose cells are ints (structs in structs too), opened. -/
namespace Go.Proofs.Ytjeeclabnimbbaa
open Go.ChangeShapes Go.WideShapes Go.ChangeAt Go.RowKit Go.Deep

/-- All k cells of a value of this type are ints. -/
def IntsOnly (P : Program) (t : TypeId) (k : Nat) : Prop :=
  ∀ (H : Type) (enc : TypeId × Value → H) (w : World) (base : Nat) (spare : Nat → Bool) (held : Bool) (fuel : Nat) (cs : List Value) (x : DataW H × List MemPlace), DataW.trod enc P w base spare held fuel t cs = some x →
    cs.length = k ∧ ∀ j, j < k → ∃ z, cs[j]? = some (.int .i64 z) ∧ (Lit.int .i64 z).wf = true
theorem intsOnly_int {P : Program} {t : TypeId} (ht : P.underlying t = some (.int .i64)) : IntsOnly P t 1 := by
  intro H enc w base spare held fuel cs x h
  obtain ⟨z, rfl, _, hz⟩ := DataW.trod_int ht h
  refine ⟨rfl, fun j hj => ⟨z, ?_, hz⟩⟩
  obtain rfl : j = 0 := by omega
  rfl
theorem intsOnly_struct {P : Program} {t : TypeId} {fs : Array Field} {k : Nat} (ht : P.underlying t = some (.struct fs)) (hk : P.cellsOf t = k)
    (hcov : ∀ j, j < k → ∃ (i : Nat) (f : Field) (kf : Nat), fs[i]? = some f ∧ f.offset ≤ j ∧ j < f.offset + kf ∧ P.cellsOf f.type = kf ∧ IntsOnly P f.type kf) : IntsOnly P t k := by
  intro H enc w base spare held fuel cs x h
  obtain ⟨xs, n, _, rfl, hl, hlen, hf⟩ := DataW.trod_struct ht h
  refine ⟨by rw [hl, hk], fun j hj => ?_⟩
  obtain ⟨i, f, kf, hi, h1, h2, h3, h4⟩ := hcov j hj
  have hfi := hf i f hi
  have hlt : i < xs.length := by rw [hlen]; exact (Array.getElem?_eq_some_iff.1 hi).1
  rw [List.getElem?_eq_getElem hlt, h3] at hfi
  obtain ⟨_, hz⟩ := h4 H enc w base spare held n _ _ hfi
  obtain ⟨z, hz1, hz2⟩ := hz (j - f.offset) (by omega)
  refine ⟨z, ?_, hz2⟩
  rw [List.getElem?_take_of_lt (by omega), List.getElem?_drop] at hz1
  rw [← hz1]
  congr 1
  omega

/-- Rows of structs of k ints. -/
def RdS (k : Nat) (w : World) (v : Value) (n : Nat) (f : Nat → Nat → Int) : Prop :=
  ∃ A c, v = .slice A n c ∧ n ≤ c ∧ c ≤ maxLen ∧ (0 < n → ∃ a, A = some a ∧ a.block < w.heap.size ∧ ∀ i, i < n → ∀ j, j < k → w.cell? (a.add (i * k + j)) = some (.int .i64 (f i j)))

theorem bools_open {w : World} {v : Value} {l : List Bool} (h : Rd w v (l.map Value.bool)) : ∃ A N c, v = .slice A N c ∧ N = l.length ∧ N ≤ c ∧ c ≤ 9223372036854775807 ∧
    (0 < N → ∃ a, A = some a ∧ a.block < w.heap.size ∧ ∀ k (hk : k < l.length), w.cell? (a.add k) = some (.bool l[k])) := by
  obtain ⟨A, c, rfl, h1, h2, h3⟩ := h
  rw [List.length_map] at *
  unfold maxLen at h2
  refine ⟨A, _, c, rfl, rfl, h1, by omega, fun hn => ?_⟩
  obtain ⟨a, rfl, hb, hc⟩ := h3 hn
  exact ⟨a, rfl, hb, fun k hk => hc k (Value.bool l[k]) (by simp [hk])⟩

section
variable {H : Type} {enc : TypeId × Value → H} {P : Program} {w : World} {base : Nat} {spare : Nat → Bool} {held : Bool} {r : Reach} {b0 : Nat}

theorem open_structs {t e : TypeId} {k : Nat} {v : Value} {d : DataW H} {ps : List MemPlace} (ht : P.underlying t = some (.slice e)) (hc : P.cellsOf e = k) (hk : 0 < k) (he : IntsOnly P e k)
    (hv : Value.okWide P w r b0 t v) (h : DataW.Trod enc P w base spare held t v d ps) : ∃ n f, RdS k w v n f := by
  obtain ⟨a0, len0, cap0, rfl⟩ := okWide_slice ht hv
  obtain ⟨fuel, hf⟩ := h
  simp only [Value.cells] at hf
  rcases open_slice ht hf with ⟨h0, _⟩ | ⟨a, len, cap, m, n, D, Pl, h0, hb, hl, hm, hmm, _, hx⟩
  · have h0 : a0 = none ∧ len0 = 0 ∧ cap0 = 0 := by simpa using h0
    obtain ⟨rfl, rfl, rfl⟩ := h0
    exact ⟨0, fun _ _ => 0, none, 0, rfl, Nat.le_refl _, by simp [maxLen], fun h => absurd h (by omega)⟩
  · have h0 : a0 = some a ∧ len0 = len ∧ cap0 = cap := by simpa using h0
    obtain ⟨rfl, rfl, rfl⟩ := h0
    have hlm : len0 ≤ m := by rw [hmm]; split <;> omega
    have each : ∀ i, i < m → ∃ q : Nat → Int, ∀ j, j < k → w.cell? (a.add (i * k + j)) = some (.int .i64 (q j)) := by
      intro i hi
      obtain ⟨cs', h1, h2⟩ := hx i hi
      rw [hc] at h1
      obtain ⟨_, hlen, hcell⟩ := World.cells?_some h1
      obtain ⟨_, hz⟩ := he _ _ _ _ _ _ _ _ _ h2
      refine ⟨fun j => match cs'[j]? with | some (.int _ z) => z | _ => 0, fun j hj => ?_⟩
      obtain ⟨z, hz1, _⟩ := hz j hj
      have c0 := hcell j hj
      rw [Go.Deep.add_add] at c0
      rw [c0, hz1]
      simp only [hz1]
    obtain ⟨q, hq⟩ := choose_lt each
    refine ⟨len0, q, some a, cap0, rfl, hl, hm, fun hn => ⟨a, rfl, ?_, fun i hi j hj => hq i (by omega) j hj⟩⟩
    have := World.block_lt_of_cell? w _ (hq 0 (by omega) 0 hk)
    rwa [show (a.add (0 * k + 0)).block = a.block by unfold Addr.add; split <;> rfl] at this

/-- A slice of truth values. -/
theorem open_bools {t e : TypeId} {v : Value} {d : DataW H} {ps : List MemPlace} (ht : P.underlying t = some (.slice e)) (he : P.underlying e = some .bool) (ce : P.cellsOf e = 1)
    (hv : Value.okWide P w r b0 t v) (h : DataW.Trod enc P w base spare held t v d ps) : ∃ bs : List Bool, Rd w v (bs.map Value.bool) := by
  obtain ⟨a0, len0, cap0, rfl⟩ := okWide_slice ht hv
  obtain ⟨fuel, hf⟩ := h
  simp only [Value.cells] at hf
  rcases open_slice1 ht ce hf with ⟨h0, _⟩ | ⟨a, len, cap, m, n, V, D, Pl, h0, _, hl, hm, hmm, _, hx⟩
  · have h0 : a0 = none ∧ len0 = 0 ∧ cap0 = 0 := by simpa using h0
    obtain ⟨rfl, rfl, rfl⟩ := h0
    exact ⟨[], Rd.nil w⟩
  · have h0 : a0 = some a ∧ len0 = len ∧ cap0 = cap := by simpa using h0
    obtain ⟨rfl, rfl, rfl⟩ := h0
    have hlm : len0 ≤ m := by rw [hmm]; split <;> omega
    have hV : ∀ i, i < m → w.cell? (a.add i) = some (Value.bool (match V i with | .bool b => b | _ => false)) := fun i hi => by
      obtain ⟨h1, h2⟩ := hx i hi
      obtain ⟨b, hb, _⟩ := DataW.trod_bool he h2
      simp only [List.cons.injEq, and_true] at hb
      rw [h1, hb]
    refine ⟨(List.range len0).map fun i => (match V i with | .bool b => b | _ => false), ?_⟩
    have := rd_of_fn hl hm hlm hV
    rw [List.map_map]
    exact this
end
end Go.Proofs.Ytjeeclabnimbbaa

/- The pure machine: what comes in, opened. One opener for all plain data. -/
namespace Go.Proofs.Ytjeeclabnimbbaa
open Go.ChangeShapes Go.WideShapes Go.ChangeAt Go.RowKit Go.Deep

instance : Inhabited D := ⟨.v (.int .i64 0)⟩
/-- The form of a cell. -/
inductive Fm where
  | int | str | bool | u8
  | sl (es : List Fm)

/-- The datum has the form. -/
inductive Shp : Fm → D → Prop
  | int (z : Int) (h : (Lit.int .i64 z).wf = true) : Shp .int (.v (.int .i64 z))
  | str (s : ByteArray) (h : s.size ≤ maxLen) : Shp .str (.v (.string s))
  | bool (b : Bool) : Shp .bool (.v (.bool b))
  | u8 (z : Int) (h : (Lit.int .u8 z).wf = true) : Shp .u8 (.v (.int .u8 z))
  | sl (ts : List Fm) (es : List (List D)) (hl : ∀ e ∈ es, e.length = ts.length) (h : ∀ (e : List D), e ∈ es → ∀ (j : Nat) (T : Fm) (d : D), ts[j]? = some T → e[j]? = some d → Shp T d) (hm : es.length ≤ maxLen) : Shp (.sl ts) (.sl es)

/-- A value of this type reads as cells of these forms. -/
def Opens (P : Program) (t : TypeId) (ts : List Fm) : Prop :=
  ∀ (H : Type) (enc : TypeId × Value → H) (w : World) (base : Nat) (spare : Nat → Bool) (held : Bool) (fuel : Nat) (cs : List Value) (x : DataW H × List MemPlace), DataW.trod enc P w base spare held fuel t cs = some x →
    cs.length = ts.length ∧ ∀ (j : Nat) (T : Fm), ts[j]? = some T → ∃ c d, cs[j]? = some c ∧ DRep w (· < w.heap.size) c d ∧ Shp T d

theorem opens_int {P : Program} {t : TypeId} (ht : P.underlying t = some (.int .i64)) : Opens P t [.int] := by
  intro H enc w base spare held fuel cs x h
  obtain ⟨z, rfl, _, hz⟩ := DataW.trod_int ht h
  refine ⟨rfl, fun j T hj => ?_⟩
  match j, hj with
  | 0, hj =>
    cases hj
    exact ⟨_, _, rfl, .v _ rfl, .int z hz⟩
theorem opens_u8 {P : Program} {t : TypeId} (ht : P.underlying t = some (.int .u8)) : Opens P t [.u8] := by
  intro H enc w base spare held fuel cs x h
  obtain ⟨z, rfl, _, hz⟩ := DataW.trod_int ht h
  refine ⟨rfl, fun j T hj => ?_⟩
  match j, hj with
  | 0, hj =>
    cases hj
    exact ⟨_, _, rfl, .v _ rfl, .u8 z hz⟩
theorem opens_str {P : Program} {t : TypeId} (ht : P.underlying t = some .string) : Opens P t [.str] := by
  intro H enc w base spare held fuel cs x h
  obtain ⟨z, rfl, _, hz⟩ := DataW.trod_string ht h
  refine ⟨rfl, fun j T hj => ?_⟩
  match j, hj with
  | 0, hj =>
    cases hj
    exact ⟨_, _, rfl, .v _ rfl, .str z hz⟩
theorem opens_bool {P : Program} {t : TypeId} (ht : P.underlying t = some .bool) : Opens P t [.bool] := by
  intro H enc w base spare held fuel cs x h
  obtain ⟨z, rfl, _⟩ := DataW.trod_bool ht h
  refine ⟨rfl, fun j T hj => ?_⟩
  match j, hj with
  | 0, hj =>
    cases hj
    exact ⟨_, _, rfl, .v _ rfl, .bool z⟩
theorem opens_struct {P : Program} {t : TypeId} {fs : Array Field} {ts : List Fm} (ht : P.underlying t = some (.struct fs)) (hk : P.cellsOf t = ts.length)
    (hcov : ∀ j T, ts[j]? = some T → ∃ (i : Nat) (f : Field) (kf : Nat) (us : List Fm), fs[i]? = some f ∧ f.offset ≤ j ∧ j < f.offset + kf ∧ P.cellsOf f.type = kf ∧ Opens P f.type us ∧ us[j - f.offset]? = some T) : Opens P t ts := by
  intro H enc w base spare held fuel cs x h
  obtain ⟨xs, n, _, rfl, hl, hlen, hf⟩ := DataW.trod_struct ht h
  refine ⟨by rw [hl, hk], fun j T hj => ?_⟩
  obtain ⟨i, f, kf, us, hi, h1, h2, h3, h4, h5⟩ := hcov j T hj
  have hfi := hf i f hi
  have hlt : i < xs.length := by rw [hlen]; exact (Array.getElem?_eq_some_iff.1 hi).1
  rw [List.getElem?_eq_getElem hlt, h3] at hfi
  obtain ⟨_, hz⟩ := h4 H enc w base spare held n _ _ hfi
  obtain ⟨c, d, hc, hd, hs⟩ := hz (j - f.offset) T h5
  rw [List.getElem?_take_of_lt (by omega), List.getElem?_drop, show f.offset + (j - f.offset) = j by omega] at hc
  exact ⟨c, d, hc, hd, hs⟩

theorem flat_le {α : Type} (k : Nat) (es : List (List α)) (h : ∀ e ∈ es, e.length = k) : es.flatten.length = es.length * k := by
  induction es with
  | nil => simp
  | cons e es ih =>
    rw [List.flatten_cons, List.length_append, ih (fun x hx => h x (List.mem_cons_of_mem _ hx)), h e List.mem_cons_self, List.length_cons, Nat.add_mul]
    omega

theorem opens_slice {P : Program} {t e : TypeId} {ts : List Fm} (ht : P.underlying t = some (.slice e)) (hc : P.cellsOf e = ts.length) (hk : 0 < ts.length) (he : Opens P e ts) : Opens P t [.sl ts] := by
  intro H enc w base spare held fuel cs x hf
  rcases open_slice ht hf with ⟨rfl, _⟩ | ⟨a, len, cap, m, n, Dz, Pl, rfl, hb, hl, hm, hmm, _, hx⟩
  · refine ⟨rfl, fun j T hj => ?_⟩
    match j, hj with
    | 0, hj =>
      cases hj
      exact ⟨_, .sl [], rfl, .sl none 0 0 0 [] (fun _ => .int .i64 0) rfl (Nat.le_refl _) (by simp [maxLen]) (by simp) (fun h => absurd h (by omega)) (fun _ => rfl) (by simp) (by simp), .sl ts [] (by simp) (by simp) (by simp)⟩
  · have hlm : len ≤ m := by rw [hmm]; split <;> omega
    have each : ∀ i, i < m → ∃ q : Nat → D, ∀ j T, ts[j]? = some T → ∃ c, w.cell? (a.add (i * ts.length + j)) = some c ∧ DRep w (· < w.heap.size) c (q j) ∧ Shp T (q j) := by
      intro i hi
      obtain ⟨cs', h1, h2⟩ := hx i hi
      rw [hc] at h1
      obtain ⟨_, hlen, hcell⟩ := World.cells?_some h1
      obtain ⟨_, hz⟩ := he _ _ _ _ _ _ _ _ _ h2
      have : ∀ j, j < ts.length → ∃ d, ∀ T, ts[j]? = some T → ∃ c, w.cell? (a.add (i * ts.length + j)) = some c ∧ DRep w (· < w.heap.size) c d ∧ Shp T d := by
        intro j hj
        obtain ⟨c, d, c1, c2, c3⟩ := hz j ts[j] (List.getElem?_eq_getElem hj)
        refine ⟨d, fun T hT => ⟨c, ?_, c2, ?_⟩⟩
        · have c0 := hcell j hj
          rw [Go.Deep.add_add] at c0
          rw [c0, c1]
        · rw [List.getElem?_eq_getElem hj] at hT
          cases hT
          exact c3
      obtain ⟨q, hq⟩ := choose_lt this
      exact ⟨q, fun j T hT => hq j (by rcases Nat.lt_or_ge j ts.length with h | h; exact h; rw [List.getElem?_eq_none h] at hT; cases hT) T hT⟩
    obtain ⟨q, hq⟩ := choose_lt each
    let row (i : Nat) : List D := (List.range ts.length).map (q i)
    let es := (List.range len).map row
    have hrow : ∀ x ∈ es, x.length = ts.length := by
      intro x hx
      obtain ⟨i, _, rfl⟩ := List.mem_map.1 hx
      simp [row]
    have hcell : ∀ j d, es.flatten[j]? = some d → ∃ c, w.cell? (a.add j) = some c ∧ DRep w (· < w.heap.size) c d := by
      intro j d hj
      have hlt : j < len * ts.length := by
        have := (List.getElem?_eq_some_iff.1 hj).1
        rw [flat_le ts.length es hrow] at this
        simpa [es] using this
      have hi : j / ts.length < len := (Nat.div_lt_iff_lt_mul hk).2 hlt
      have hmod := Nat.mod_lt j hk
      have hdm : j / ts.length * ts.length + j % ts.length = j := by rw [Nat.mul_comm]; exact Nat.div_add_mod j _
      have hfl := flat_at ts.length es hrow (j / ts.length) (row (j / ts.length)) (by simp [es, hi]) (j % ts.length) hmod
      rw [hdm, hj] at hfl
      have hd : d = q (j / ts.length) (j % ts.length) := by simpa [row, hmod] using hfl
      obtain ⟨c, c1, c2, _⟩ := hq (j / ts.length) (by omega) (j % ts.length) _ (List.getElem?_eq_getElem hmod)
      rw [hdm] at c1
      exact ⟨c, c1, hd ▸ c2⟩
    refine ⟨rfl, fun j T hj => ?_⟩
    match j, hj with
    | 0, hj =>
      cases hj
      refine ⟨_, .sl es, rfl, .sl (some a) len cap ts.length es (fun j => (w.cell? (a.add j)).getD (.int .i64 0)) (by simp [es]) hl hm hrow (fun hn => ⟨a, rfl, ?_⟩) (fun h => by cases h) (fun a' j d ha hj => ?_) (fun j d hj => ?_), .sl ts es hrow (fun x hx j T d hT hd => ?_) (by simp [es]; omega)⟩
      · obtain ⟨c, c1, _⟩ := hq 0 (by omega) 0 _ (List.getElem?_eq_getElem hk)
        have := World.block_lt_of_cell? w _ c1
        rwa [show (a.add (0 * ts.length + 0)).block = a.block by unfold Addr.add; split <;> rfl] at this
      · cases ha
        obtain ⟨c, c1, _⟩ := hcell j d hj
        rw [c1]
        rfl
      · obtain ⟨c, c1, c2⟩ := hcell j d hj
        rw [c1]
        exact c2
      · obtain ⟨i, hi, rfl⟩ := List.mem_map.1 hx
        have hi : i < len := List.mem_range.1 hi
        have hjt : j < ts.length := (List.getElem?_eq_some_iff.1 hT).1
        have hd : d = q i j := by simpa [row, hjt] using hd.symm
        obtain ⟨c, _, _, c3⟩ := hq i (by omega) j T hT
        exact hd ▸ c3

section
variable {H : Type} {enc : TypeId × Value → H} {P : Program} {w : World} {base : Nat} {spare : Nat → Bool} {held : Bool} {r : Reach} {b0 : Nat}
/-- A struct that comes in. -/
theorem open_ag {t : TypeId} {fs : Array Field} {ts : List Fm} {v : Value} {d : DataW H} {ps : List MemPlace} (ht : P.underlying t = some (.struct fs)) (ho : Opens P t ts) (hv : Value.okWide P w r b0 t v) (h : DataW.Trod enc P w base spare held t v d ps) :
    ∃ ds : List D, ds.length = ts.length ∧ (∀ (j : Nat) (T : Fm), ts[j]? = some T → ∃ e, ds[j]? = some e ∧ Shp T e) ∧ PRep ρNone bNone w (· < w.heap.size) v (.ag (ds.map .d)) := by
  obtain ⟨cs, rfl, _⟩ := okWide_struct ht hv
  obtain ⟨fuel, hf⟩ := h
  simp only [Value.cells] at hf
  obtain ⟨hl, hz⟩ := ho _ _ _ _ _ _ _ _ _ hf
  have : ∀ j, j < ts.length → ∃ d, ∀ T, ts[j]? = some T → ∃ c, cs.toList[j]? = some c ∧ DRep w (· < w.heap.size) c d ∧ Shp T d := by
    intro j hj
    obtain ⟨c, d, c1, c2, c3⟩ := hz j ts[j] (List.getElem?_eq_getElem hj)
    refine ⟨d, fun T hT => ⟨c, c1, c2, ?_⟩⟩
    rw [List.getElem?_eq_getElem hj] at hT
    cases hT
    exact c3
  obtain ⟨q, hq⟩ := choose_lt this
  refine ⟨(List.range ts.length).map q, by simp, fun j T hT => ?_, .ag cs _ (by simp; simpa using hl) (fun x hx => ?_) (fun j x c hx hc => ?_)⟩
  · have hj : j < ts.length := (List.getElem?_eq_some_iff.1 hT).1
    obtain ⟨c, _, _, c3⟩ := hq j hj T hT
    exact ⟨q j, by simp [hj], c3⟩
  · obtain ⟨j, hj, rfl⟩ := List.getElem_of_mem (Array.mem_toList_iff.2 hx)
    have hj' : j < ts.length := by rw [← hl]; exact hj
    obtain ⟨c, c1, c2, _⟩ := hq j hj' _ (List.getElem?_eq_getElem hj')
    rw [List.getElem?_eq_getElem hj] at c1
    cases c1
    exact c2.one
  · have hj : j < ts.length := by
      have := (Array.getElem?_eq_some_iff.1 hx).1
      rw [← hl]
      simpa using this
    obtain ⟨c', c1, c2, _⟩ := hq j hj _ (List.getElem?_eq_getElem hj)
    rw [Array.getElem?_toList, hx] at c1
    cases c1
    have : c = .d (q j) := by simpa [hj] using hc.symm
    subst this
    exact .d _ _ c2
/-- A slice that comes in. -/
theorem open_sl {t e : TypeId} {T : Fm} {v : Value} {d : DataW H} {ps : List MemPlace} (ht : P.underlying t = some (.slice e)) (ho : Opens P t [T]) (hv : Value.okWide P w r b0 t v) (h : DataW.Trod enc P w base spare held t v d ps) :
    ∃ d : D, Shp T d ∧ PRep ρNone bNone w (· < w.heap.size) v (.d d) := by
  obtain ⟨a0, len0, cap0, rfl⟩ := okWide_slice ht hv
  obtain ⟨fuel, hf⟩ := h
  simp only [Value.cells] at hf
  obtain ⟨hl, hz⟩ := ho _ _ _ _ _ _ _ _ _ hf
  obtain ⟨c, d, c1, c2, c3⟩ := hz 0 T rfl
  cases c1
  exact ⟨d, c3, .d _ _ c2⟩
end

/-- A list of rows, each of which is something's cells. -/
theorem rows_of {α : Type} {f : α → List D} {Q : α → Prop} : ∀ (es : List (List D)), (∀ e ∈ es, ∃ x, e = f x ∧ Q x) → ∃ l : List α, es = l.map f ∧ ∀ x ∈ l, Q x
  | [], _ => ⟨[], rfl, by simp⟩
  | e :: es, h => by
    obtain ⟨x, rfl, hq⟩ := h e List.mem_cons_self
    obtain ⟨l, rfl, hl⟩ := rows_of es (fun y hy => h y (List.mem_cons_of_mem _ hy))
    refine ⟨x :: l, rfl, ?_⟩
    intro y hy
    rcases List.mem_cons.1 hy with rfl | hy
    · exact hq
    · exact hl y hy

/-- From the contract to the walk. -/
theorem pc_walk {P : Program} {f : FuncId} {args : List PV} {b : Bool} (h : PC P f args (.d (.v (.bool b)))) (w : World) (vs : Array Value) (hr : Reps ρNone bNone w (· < w.heap.size) vs.toList args) :
    Calls P f vs w fun e w' => e = .returned (.bool b) ∧ Below w.heap.size w w' := by
  refine (h.2 w _ vs (fun _ h => h) hr).mono ?_
  rintro e w' ⟨v, F', rfl, hx, _, _, _, hp⟩
  refine ⟨?_, hx⟩
  cases hp with
  | d _ _ h => cases h with
    | v => rfl
end Go.Proofs.Ytjeeclabnimbbaa

/- What comes in, opened: the structs of these statements (written by lift.py). -/
namespace Go.Proofs.Ytjeeclabnimbbaa
open Go.ChangeShapes Go.WideShapes Go.ChangeAt Go.RowKit Go.Deep

theorem shp_int {d : D} (h : Shp .int d) : ∃ z, d = .v (.int .i64 z) ∧ (Lit.int .i64 z).wf = true := by
  cases h with
  | int z h => exact ⟨z, rfl, h⟩
theorem shp_u8 {d : D} (h : Shp .u8 d) : ∃ z, d = .v (.int .u8 z) ∧ (Lit.int .u8 z).wf = true := by
  cases h with
  | u8 z h => exact ⟨z, rfl, h⟩
theorem shp_str {d : D} (h : Shp .str d) : ∃ s, d = .v (.string s) ∧ s.size ≤ maxLen := by
  cases h with
  | str z h => exact ⟨z, rfl, h⟩
theorem shp_bool {d : D} (h : Shp .bool d) : ∃ b, d = .v (.bool b) := by
  cases h with
  | bool z => exact ⟨z, rfl⟩
def wfI (z : Int) : Prop := (Lit.int .i64 z).wf = true
def wfU (z : Int) : Prop := (Lit.int .u8 z).wf = true
theorem wfI.lo {z : Int} (h : wfI z) : -9223372036854775808 ≤ z := (bounds_i64 h).1
theorem wfI.hi {z : Int} (h : wfI z) : z ≤ 9223372036854775807 := (bounds_i64 h).2
theorem row_of {α : Type} {f : α → List D} {Q : α → Prop} {ts : List Fm} {d : D} (hf : ∀ e : List D, e.length = ts.length → (∀ (j : Nat) (T : Fm), ts[j]? = some T → ∃ d, e[j]? = some d ∧ Shp T d) → ∃ x, e = f x ∧ Q x) (h : Shp (.sl ts) d) : ∃ l : List α, d = .sl (l.map f) ∧ (∀ z ∈ l, Q z) ∧ l.length ≤ maxLen := by
  cases h with
  | sl _ es hl h hm =>
    obtain ⟨l, rfl, hq⟩ := rows_of (f := f) (Q := Q) es (fun e he => hf e (hl e he) fun j T hT => by
      have hj : j < e.length := by rw [hl e he]; exact (List.getElem?_eq_some_iff.1 hT).1
      exact ⟨e[j], List.getElem?_eq_getElem hj, h e he j T _ hT (List.getElem?_eq_getElem hj)⟩)
    exact ⟨l, rfl, hq, by simpa using hm⟩
theorem of_int {e : List D} (hl : e.length = 1) (h : ∀ (j : Nat) (T : Fm), [Fm.int][j]? = some T → ∃ d, e[j]? = some d ∧ Shp T d) : ∃ x : Int, e = [.v (.int .i64 x)] ∧ wfI x := by
  match e, hl with
  | [d], _ =>
    obtain ⟨d', hd, s⟩ := h 0 _ rfl
    cases hd
    cases s with
    | int z hz => exact ⟨z, rfl, hz⟩
theorem of_u8 {e : List D} (hl : e.length = 1) (h : ∀ (j : Nat) (T : Fm), [Fm.u8][j]? = some T → ∃ d, e[j]? = some d ∧ Shp T d) : ∃ x : Int, e = [.v (.int .u8 x)] ∧ wfU x := by
  match e, hl with
  | [d], _ =>
    obtain ⟨d', hd, s⟩ := h 0 _ rfl
    cases hd
    cases s with
    | u8 z hz => exact ⟨z, rfl, hz⟩
theorem of_str {e : List D} (hl : e.length = 1) (h : ∀ (j : Nat) (T : Fm), [Fm.str][j]? = some T → ∃ d, e[j]? = some d ∧ Shp T d) : ∃ x : ByteArray, e = [.v (.string x)] ∧ x.size ≤ maxLen := by
  match e, hl with
  | [d], _ =>
    obtain ⟨d', hd, s⟩ := h 0 _ rfl
    cases hd
    cases s with
    | str z hz => exact ⟨z, rfl, hz⟩
theorem of_bool {e : List D} (hl : e.length = 1) (h : ∀ (j : Nat) (T : Fm), [Fm.bool][j]? = some T → ∃ d, e[j]? = some d ∧ Shp T d) : ∃ x : Bool, e = [.v (.bool x)] ∧ True := by
  match e, hl with
  | [d], _ =>
    obtain ⟨d', hd, s⟩ := h 0 _ rfl
    cases hd
    cases s with
    | bool z => exact ⟨z, rfl, trivial⟩
end Go.Proofs.Ytjeeclabnimbbaa
