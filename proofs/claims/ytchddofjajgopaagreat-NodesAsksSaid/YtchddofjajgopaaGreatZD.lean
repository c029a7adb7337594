/- My texts, in one. -/
import Derived.Test.YtchddofjajgopaaGreatZC
set_option linter.all false
set_option maxRecDepth 100000
set_option maxHeartbeats 4000000
namespace Go.Proofs.YtchddofjajgopaaGreat
open Go.RowKit
open IntKind (i64)
open Go.Proofs.Tryz (prog)
section
variable {sc wr : List Nat}
theorem jD (m : Mod) (l : List Mod) (t : Nat) : aA (bB (m :: l)) t = (aA (bB [m]) t || aA (bB l) t) := by
 cases m with
 | leaf i t' => simp [bB, aA]
 | agg i n => simp [bB, aA]
 | row i R e k t' => simp [bB, aX, aA]
 | box b ty n rows => simp [bB, aX, df, aA, Bool.or_assoc]
def wy : Mod → Option Nat
 | .leaf i _ => some i
 | .agg i _ => some i
 | .row i _ _ _ _ => some i
 | .box .. => none
theorem PR {m : Mod} {x : m.den} {l : List (Nat × SV)} {bx : List (Nat × Option aW)} {pr oc : List Nat} {ro : Bool} {s2 : SS} (h : qJ m x ⟨l, bx, pr, ro, oc⟩ = some s2) :
  ∃ X bx2, s2 = ⟨X ++ l, bx2, pr, ro, oc⟩ ∧ (∀ l', qJ m x ⟨l', bx, pr, ro, oc⟩ = some ⟨X ++ l', bx2, pr, ro, oc⟩) ∧ ∀ i, aA (X.map (·.1)) i = true → wy m = some i := by
 cases m with
 | leaf i t => simp only [qJ] at h ⊢; injection h with h; subst h; exact ⟨[(i, .d (pO t x))], bx, rfl, fun _ => rfl, fun j hj => by simp [aX, aA] at hj; simp [wy, hj]⟩
 | agg i n => simp only [qJ] at h ⊢; injection h with h; subst h; exact ⟨[(i, .ag (zV (stC n x)))], bx, rfl, fun _ => rfl, fun j hj => by simp [aX, aA] at hj; simp [wy, hj]⟩
 | row i R e k t => simp only [qJ] at h ⊢; injection h with h; subst h; exact ⟨[(i, .row R)], _, rfl, fun _ => rfl, fun j hj => by simp [aX, aA] at hj; simp [wy, hj]⟩
 | box b ty n rows =>
  simp only [qJ] at h ⊢
  split at h
  ·rename_i vs bx' hp
   injection h with h
   subst h
   exact ⟨[], _, rfl, fun _ => rfl, fun j hj => by cases hj⟩
  ·cases h
theorem Ky : ∀ {ms : List Mod} {st : jC ms} {l : List (Nat × SV)} {bx : List (Nat × Option aW)} {pr oc : List Nat} {ro : Bool} {s2 : SS}, jx ms st ⟨l, bx, pr, ro, oc⟩ = some s2 →
  ∃ X bx2, s2 = ⟨X ++ l, bx2, pr, ro, oc⟩ ∧ (∀ l', jx ms st ⟨l', bx, pr, ro, oc⟩ = some ⟨X ++ l', bx2, pr, ro, oc⟩) ∧ ∀ i, aA (X.map (·.1)) i = true → ∃ m ∈ ms, wy m = some i
 | [], st, l, bx, pr, oc, ro, s2, h => by injection h with h; subst h; exact ⟨[], bx, rfl, fun _ => rfl, fun j hj => by cases hj⟩
 | [m], st, l, bx, pr, oc, ro, s2, h => by
  obtain ⟨X, bx2, h1, h2, h3⟩ := PR (show qJ m st _ = some s2 from h)
  exact ⟨X, bx2, h1, h2, fun i hi => ⟨m, List.mem_cons_self, h3 i hi⟩⟩
 | m :: m' :: ms, st, l, bx, pr, oc, ro, s2, h => by
  have h : (match jx (m' :: ms) st.2 ⟨l, bx, pr, ro, oc⟩ with | some s => qJ m st.1 s | none => none) = some s2 := h
  split at h
  ·rename_i s1 h1
   obtain ⟨X, bx2, rfl, k2, k3⟩ := Ky h1
   obtain ⟨Y, bx3, rfl, m2, m3⟩ := PR h
   refine ⟨Y ++ X, bx3, by simp, fun l' => ?_, fun i hi => ?_⟩
   ·show (match jx (m' :: ms) st.2 ⟨l', bx, pr, ro, oc⟩ with | some s => qJ m st.1 s | none => none) = _
    rw [k2 l']
    simp only
    rw [m2]
    simp
   ·rw [List.map_append, df, Bool.or_eq_true] at hi
    rcases hi with hi | hi
    ·exact ⟨m, List.mem_cons_self, m3 i hi⟩
    ·obtain ⟨m0, h4, h5⟩ := k3 i hi
     exact ⟨m0, List.mem_cons_of_mem _ h4, h5⟩
  ·cases h
theorem IJ : ∀ (X l : List (Nat × SV)) (i : Nat), lkV (X ++ l) i = if aA (X.map (·.1)) i = true then lkV X i else lkV l i
 | [], l, i => by simp [aA]
 | (j, v) :: X, l, i => by
  simp only [List.cons_append, cV, IJ X l i, List.map_cons, aX]
  by_cases e : i = j
  ·simp [e]
  ·simp [e]
theorem Qe {s' : SS} {m : Mod} {x : m.den} (hg : z7 s' m = some x) {t : Nat} (ht : aA (bB [m]) t = true) {ty : TypeId} {cs : List SV} (hb : lkB s'.bx t = some (.st ty cs)) : ∃ ty n rows, m = .box t ty n rows := by
 cases m with
 | leaf i t' => cases ht
 | agg i n => cases ht
 | row i R e k t' =>
  simp only [bB, aX, aA, Bool.or_false, decide_eq_true_eq] at ht
  subst ht
  have hg : (match lkV s'.sl i, lkB s'.bx t with | .row R', some (.rw e' k' t2 xs _) => (match Ty.same t2 t' with | some ⟨h⟩ => chk (Nat.beq R' t) (chk (e' == e) (chk (k' == k) (some (xY h xs)))) | none => none) | _, _ => none) = some (show List t'.den from x) := hg
  rw [hb] at hg
  split at hg
  ·rename_i h2; cases h2
  ·cases hg
 | box b ty' n rows =>
  simp only [bB, aX, df, aA, Bool.or_false, Bool.or_eq_true, decide_eq_true_eq] at ht
  rcases ht with ht | ht
  ·subst ht; exact ⟨_, _, _, rfl⟩
  ·exfalso
   simp only [z7] at hg
   split at hg
   ·have h1 := (an (an hg).2).1
    have key : ∀ rows : List (Nat × Nat × Nat × Nat × Ty), aA (rows.map (·.2.1)) t = true → (rows.all fun r => XA (lkB s'.bx r.2.1)) = true → XA (lkB s'.bx t) = true := by
     intro rows
     induction rows with
     | nil => intro h; cases h
     | cons r rows ih =>
      intro h h2
      rw [List.all_cons, Bool.and_eq_true] at h2
      rw [List.map_cons, aX, Bool.or_eq_true] at h
      rcases h with h | h
      ·have := zd h
       rw [this]; exact h2.1
      ·exact ih h h2.2
    have h2 := key rows ht h1
    rw [hb] at h2
    cases h2
   ·exact dE hg
theorem KC {s' : SS} {p : PS} (hs' : gD s' p) : ∀ {ms : List Mod} {st : jC ms} {c c' : SS}, sF s' ms = some st → gD c p → lS c.bx → jx ms st c = some c' →
  gD c' p ∧ lS c'.bx ∧ BLe c.bx c'.bx ∧ (∀ t, aA (bB ms) t = false → lkB c'.bx t = lkB c.bx t) ∧ ∀ t, aA (bB ms) t = true → ∀ ty cs, lkB s'.bx t = some (.st ty cs) → ∃ ty' cs', lkB c'.bx t = some (.st ty' cs')
 | [], st, c, c', _, hc, hn, h => by injection h with h; subst h; exact ⟨hc, hn, .refl _, fun _ _ => rfl, fun t ht => by cases ht⟩
 | [m], st, c, c', hp, hc, hn, h => by
  have hg : z7 s' m = some st := hp
  have h : qJ m st c = some c' := h
  obtain ⟨h1, h2, h3, h4⟩ := PU hs' hg hc hn h
  refine ⟨h1, h2, h3, h4, fun t ht ty cs hb => ?_⟩
  obtain ⟨ty', n, rows, rfl⟩ := Qe hg ht hb
  simp only [qJ] at h
  split at h
  ·injection h with h
   subst h
   exact ⟨_, _, by show lkB ((t, _) :: _) t = _; rw [au, if_pos rfl]⟩
  ·cases h
 | m :: m' :: ms, st, c, c', hp, hc, hn, h => by
  have hp : Option.bind (z7 s' m) (fun x => Option.bind (sF s' (m' :: ms)) fun xs => some (x, xs)) = some st := hp
  obtain ⟨x, hg, hp2⟩ := ar hp
  obtain ⟨xs, hp3, he⟩ := ar hp2
  injection he with he
  subst he
  have h : (match jx (m' :: ms) xs c with | some s => qJ m x s | none => none) = some c' := h
  split at h
  ·rename_i c1 h1
   obtain ⟨k1, k2, k3, k4, k5⟩ := KC hs' hp3 hc hn h1
   obtain ⟨n1, n2, n3, n4⟩ := PU hs' hg k1 k2 h
   refine ⟨n1, n2, k3.trans n3, fun t ht => ?_, fun t ht ty cs hb => ?_⟩
   ·rw [jD, Bool.or_eq_false_iff] at ht
    rw [n4 t ht.1, k4 t ht.2]
   ·rw [jD, Bool.or_eq_true] at ht
    rcases ht with ht | ht
    ·obtain ⟨ty', n, rows, rfl⟩ := Qe hg ht hb
     simp only [qJ] at h
     split at h
     ·injection h with h
      subst h
      exact ⟨_, _, by show lkB ((t, _) :: _) t = _; rw [au, if_pos rfl]⟩
     ·cases h
    ·obtain ⟨ty', cs', h5⟩ := k5 t ht ty cs hb
     exact n3.st t ty' cs' h5
  ·cases h
theorem tt {s : SS} : ∀ {ms : List Mod}, oV wr s ms = true → (∀ m ∈ ms, ∀ i, wy m = some i → aA wr i = true ∨ ∃ R, aA (bB ms) R = true ∧ lkV s.sl i = .row R) ∧ ∀ t, aA (bB ms) t = true → aA s.pr t = false
 | [], _ => ⟨fun m hm => (by cases hm), fun t ht => (by cases ht)⟩
 | m :: ms, h => by
  have key : oV wr s ms = true ∧ (∀ i, wy m = some i → aA wr i = true ∨ ∃ R, aA (bB [m]) R = true ∧ lkV s.sl i = .row R) ∧ ∀ t, aA (bB [m]) t = true → aA s.pr t = false := by
   cases m with
   | leaf i t =>
    simp only [oV] at h
    split at h
    ·rename_i hw; exact ⟨h, fun j hj => by injection hj with hj; subst hj; exact .inl hw, fun t ht => by cases ht⟩
    ·cases h
   | agg i n =>
    simp only [oV] at h
    split at h
    ·rename_i hw; exact ⟨h, fun j hj => by injection hj with hj; subst hj; exact .inl hw, fun t ht => by cases ht⟩
    ·cases h
   | row i R e k t =>
    simp only [oV] at h
    split at h
    ·rename_i hp hw
     refine ⟨h, fun j hj => ?_, fun t ht => ?_⟩
     ·injection hj with hj
      subst hj
      rw [Bool.or_eq_true] at hw
      rcases hw with hw | hw
      ·exact .inl hw
      ·unfold WT at hw
       split at hw
       ·rename_i R' hv
        rw [cW] at hw
        have := zd hw
        subst this
        exact .inr ⟨R', by simp [bB, aX], hv⟩
       ·cases hw
     ·simp only [bB, aX, aA, Bool.or_false, decide_eq_true_eq] at ht
      subst ht; exact hp
    ·cases h
   | box b ty n rows =>
    simp only [oV] at h
    split at h
    ·rename_i hp hr
     refine ⟨h, fun j hj => (by cases hj), fun t ht => ?_⟩
     simp only [bB, aX, df, aA, Bool.or_false, Bool.or_eq_true, decide_eq_true_eq] at ht
     rcases ht with ht | ht
     ·subst ht; exact hp
     ·clear h
      induction rows with
      | nil => cases ht
      | cons r rows ih =>
       rw [List.all_cons, Bool.and_eq_true] at hr
       rw [List.map_cons, aX, Bool.or_eq_true] at ht
       rcases ht with ht | ht
       ·have := zd ht
        rw [this]; simpa using hr.1
       ·exact ih hr.2 ht
    ·cases h
  obtain ⟨h1, h2, h3⟩ := key
  obtain ⟨h4, h5⟩ := tt h1
  refine ⟨fun m0 hm i hi => ?_, fun t ht => ?_⟩
  ·rcases List.mem_cons.1 hm with rfl | hm
   ·rcases h2 i hi with h | ⟨R, h6, h7⟩
    ·exact .inl h
    ·exact .inr ⟨R, by rw [jD, h6]; rfl, h7⟩
   ·rcases h4 m0 hm i hi with h | ⟨R, h6, h7⟩
    ·exact .inl h
    ·exact .inr ⟨R, by rw [jD, h6]; simp, h7⟩
  ·rw [jD, Bool.or_eq_true] at ht
   exact ht.elim (h3 t) (h5 t)
theorem mp : ∀ {cs : List SV} (_ : cC cs = true) {j : Nat} {c : SV}, cs[j]? = some c → oU c = true
 | [], _, j, c, h => by simp at h
 | d :: cs, h, j, c, hj => by
  simp only [cC] at h
  split at h
  ·rename_i h1
   cases j with
   | zero => simp at hj; subst hj; exact h1
   | succ j => simp at hj; exact mp h hj
  ·cases h
theorem MO {B B' : List (Nat × Option aW)} {v : SV} {q : PV} (h : a8 B v q) : oU v = true → a8 B' v q := by
 induction h with
 | junk q => exact fun _ => .junk q
 | d c y h => exact fun _ => .d c y h
 | ag cs qs hl hr ih => exact fun hs => .ag cs qs hl fun j c q h1 h2 => ih j c q h1 h2 (mp hs h1)
 | tup cs qs hl hr ih => exact fun hs => .tup cs qs hl fun j c q h1 h2 => ih j c q h1 h2 (mp hs h1)
 | ptr t o ty cs hb => exact fun hs => by cases hs
 | row t n e k ty xs pins hb hn => exact fun hs => by cases hs
 | re t p o n i e k ty xs pins pin hb hn hp hi => exact fun hs => by cases hs
 | vw t lo hi n e k ty xs pins hb hn => exact fun hs => by cases hs
 | fe cs ds h hn => exact fun _ => .fe cs ds h hn
 | fn f ps qs ps' qs' hl hr hl2 hr2 ih ih2 =>
  intro hs
  have hs : (match cC ps with | true => cC qs | false => false) = true := hs
  split at hs
  ·rename_i h1
   exact .fn f ps qs ps' qs' hl (fun j c q h2 h3 => ih j c q h2 h3 (mp h1 h2)) hl2 (fun j c q h2 h3 => ih2 j c q h2 h3 (mp hs h2))
  ·cases hs
def sH (sc wr : List Nat) (ms : List Mod) (s1 : SS) : SS := ⟨s1.sl, s1.bx, (ch sc wr ms s1).pr, s1.ro, s1.oc⟩
theorem pQ (ms : List Mod) (s1 : SS) (t : Nat) : aA (ch sc wr ms s1).pr t = true ↔ aA (bB ms) t = false ∧ aA sc t = false ∧ ∃ b, lkB s1.bx t = some b ∧ xA b = true := by
 show aA (n8 (bB ms ++ sc) s1.bx []) t = true ↔ _
 rw [kN, df, Bool.or_eq_false_iff]
 simp [aA, and_assoc]
theorem z6 (ms : List Mod) (s1 : SS) : lO (sH sc wr ms s1) := fun t ht => ((pQ (wr := wr) ms s1 t).1 ht).2.2
theorem yb {ms : List Mod} {s1 : SS} {t : Nat} (h : aA (ch sc wr ms s1).pr t = true) : lkB (ch sc wr ms s1).bx t = H9 (lkB s1.bx t) := by
 obtain ⟨_, h2, _⟩ := (pQ ms s1 t).1 h
 show lkB (Km s1.bx sc (rP (ch sc wr ms s1).pr s1.bx [])) t = _
 rw [(uF s1.bx sc _ t).2 (.inl h2), nr, h]
 simp [aA]
theorem CH {ms : List Mod} {s1 : SS} {t : Nat} (h : aA sc t = true) {ty : TypeId} {cs : List SV} (hb : lkB s1.bx t = some (.st ty cs)) : lkB (ch sc wr ms s1).bx t = some (.st ty (vJ cs)) :=
 (uF s1.bx sc _ t).1 h ty cs hb
theorem EE {ms : List Mod} {s1 : SS} {t : Nat} {b : aW} (h : lkB (ch sc wr ms s1).bx t = some b) : aA (ch sc wr ms s1).pr t = true ∨ aA sc t = true ∧ ∃ ty cs, lkB s1.bx t = some (.st ty cs) := by
 by_cases h1 : aA sc t = true ∧ ∃ ty cs, lkB s1.bx t = some (.st ty cs)
 ·exact .inr h1
 ·left
  have h2 : aA sc t = false ∨ ∀ ty cs, lkB s1.bx t ≠ some (.st ty cs) := by
   by_cases h3 : aA sc t = true
   ·exact .inr fun ty cs h4 => h1 ⟨h3, ty, cs, h4⟩
   ·exact .inl (by simpa using h3)
  have h : lkB (Km s1.bx sc (rP (ch sc wr ms s1).pr s1.bx [])) t = some b := h
  rw [(uF s1.bx sc _ t).2 h2, nr] at h
  cases h4 : aA (ch sc wr ms s1).pr t with
  | true => rfl
  | false => rw [h4] at h; simp [aA] at h
theorem IG {ms : List Mod} {s1 s' : SS} {p1 p' : PS} {st : jC ms} {s2 : SS} (hs1 : gD s1 p1) (hchk : rN sc wr ms s1.pr s1 = true) (hk : dD sc wr (sH sc wr ms s1) s') (hs' : gD s' p') (hpk : sF s' ms = some st) (hput : jx ms st (ch sc wr ms s1) = some s2) :
  gD s2 p' ∧ dD sc wr (sH sc wr ms s1) s2 ∧ s2.pr = (ch sc wr ms s1).pr := by
 unfold rN at hchk
 simp only [Bool.and_eq_true] at hchk
 obtain ⟨c1, c2, c3, c4⟩ := hchk
 obtain ⟨o1, o2⟩ := tt c1
 have hscm := sa c3
 obtain ⟨X, bx2, rfl, hX, hkeys⟩ := Ky (show jx ms st ⟨(ch sc wr ms s1).sl, (ch sc wr ms s1).bx, (ch sc wr ms s1).pr, (ch sc wr ms s1).ro, (ch sc wr ms s1).oc⟩ = some s2 from hput)
 have hX0 := hX []
 rw [List.append_nil] at hX0
 have hsame : ∀ t, aA (ch sc wr ms s1).pr t = true → kv (lkB s1.bx t) (lkB s'.bx t) := hk.bx
 have hbx : Gf (ch sc wr ms s1).bx p' := by
  intro t b hb
  rcases EE hb with h | ⟨h, ty, cs, h1⟩
  ·obtain ⟨_, _, b1, h2, h3⟩ := (pQ ms s1 t).1 h
   have h4 := hsame t h
   rw [yb h, h2] at hb
   rw [h2] at h4
   cases b1 with
   | st ty cs =>
    injection hb with hb
    subst hb
    obtain ⟨qs, h5, h6⟩ := hs'.bx t _ h4
    exact ⟨qs, h5, h6.len, fun j c q m1 m2 => MO (h6.rep j c q m1 m2) (mp h3 m1)⟩
   | rw e k ty xs pins =>
    injection hb with hb
    subst hb
    obtain ⟨pins', h4⟩ := h4
    exact ⟨(hs'.bx t _ h4).1, fun p pin hp => by cases hp⟩
  ·rw [CH h h1] at hb
   injection hb with hb
   subst hb
   obtain ⟨cs', h2, h3⟩ := hk.st t h ty cs h1
   obtain ⟨qs, h4, h5⟩ := hs'.bx t _ h2
   refine ⟨qs, h4, by rw [zY, ← h3]; exact h5.len, fun j c q m1 m2 => ?_⟩
   rw [GM cs j c m1]
   exact .junk q
 have hnp : lS (ch sc wr ms s1).bx := by
  intro t e k ty xs pins hb
  rcases EE hb with h | ⟨h, ty2, cs, h1⟩
  ·rw [yb h] at hb
   cases hl : lkB s1.bx t with
   | none => rw [hl] at hb; cases hb
   | some b =>
    rw [hl] at hb
    cases b with
    | st => cases hb
    | rw e2 k2 ty2 xs2 pins2 =>
     injection hb with hb
     injection hb with q1 q2 q3 q4 q5
     exact q5.symm
  ·rw [CH h h1] at hb; cases hb
 have hc0 : gD ⟨[], (ch sc wr ms s1).bx, (ch sc wr ms s1).pr, (ch sc wr ms s1).ro, (ch sc wr ms s1).oc⟩ p' := ⟨fun i => .junk _, hbx⟩
 obtain ⟨k1, k2, k3, k4, k5⟩ := KC hs' hpk hc0 hnp hX0
 have k4 : ∀ t, aA (bB ms) t = false → lkB bx2 t = lkB (ch sc wr ms s1).bx t := k4
 have hprm : ∀ t, aA (ch sc wr ms s1).pr t = true → aA (bB ms) t = false := fun t ht => ((pQ ms s1 t).1 ht).1
 have hkb : ∀ t, aA (bB ms ++ (rJ s1.bx sc ++ (ch sc wr ms s1).pr)) t = true → ∀ ty cs, lkB s'.bx t = some (.st ty cs) → ∃ ty' cs', lkB bx2 t = some (.st ty' cs') := by
  intro t ht ty cs hb
  rw [df, df, Bool.or_eq_true, Bool.or_eq_true] at ht
  rcases ht with ht | ht | ht
  ·exact k5 t ht ty cs hb
  ·obtain ⟨h1, ty2, cs2, h2⟩ := (pP s1.bx sc t).1 ht
   rw [k4 t (hscm t h1), CH h1 h2]
   exact ⟨_, _, rfl⟩
  ·rw [k4 t (hprm t ht), yb ht]
   have h1 := hsame t ht
   obtain ⟨_, _, b1, h2, h3⟩ := (pQ ms s1 t).1 ht
   rw [h2] at h1 ⊢
   cases b1 with
   | st ty2 cs2 => exact ⟨_, _, rfl⟩
   | rw e k ty2 xs pins =>
    obtain ⟨pins', h1⟩ := h1
    rw [h1] at hb
    cases hb
 have hbase : ∀ i, lkV (ch sc wr ms s1).sl i = if aA wr i = true then .junk else if FC (ch sc wr ms s1).pr (bB ms ++ (rJ s1.bx sc ++ (ch sc wr ms s1).pr)) (lkV s1.sl i) = true then lkV s1.sl i else .junk := fun i => by
  show lkV (rO wr (ch sc wr ms s1).pr (bB ms ++ (rJ s1.bx sc ++ (ch sc wr ms s1).pr)) s1.sl []) i = _
  rw [nq]
  simp [aA]
 refine ⟨⟨fun i => ?_, k1.bx⟩, ⟨rfl, rfl, fun t ht => ?_, fun i hi hsf => ?_, fun t ht ty cs hb => ?_⟩, rfl⟩
 ·show a8 bx2 (lkV (X ++ (ch sc wr ms s1).sl) i) (p'.t i)
  rw [IJ]
  split
  ·exact k1.sl i
  ·rw [hbase]
   split
   ·exact .junk _
   ·rename_i hw
    split
    ·rename_i hsf
     have e := hk.sl i (by simpa using hw) (Tr (fun t h => h) _ hsf)
     have h1 := hs'.sl i
     rw [e] at h1
     refine QP (fun t ht e k ty xs pins hb => ?_) hkb h1 hsf
     rw [k4 t (hprm t ht), yb ht]
     have h2 := hsame t ht
     obtain ⟨_, _, b1, h3, h4⟩ := (pQ ms s1 t).1 ht
     rw [h3] at h2 ⊢
     cases b1 with
     | st ty2 cs2 => have h2 : lkB s'.bx t = some (.st ty2 cs2) := h2; rw [h2] at hb; cases hb
     | rw e2 k2 ty2 xs2 pins2 =>
      obtain ⟨pins', h2⟩ := h2
      rw [h2] at hb
      injection hb with hb
      injection hb with q1 q2 q3 q4 q5
      subst q3
      have q4 := eq_of_heq q4
      subst q4
      exact ⟨_, _, _, _, _, rfl, rfl⟩
    ·exact .junk _
 ·show kv (lkB s1.bx t) (lkB bx2 t)
  have ht : aA (ch sc wr ms s1).pr t = true := ht
  rw [k4 t (hprm t ht), yb ht]
  match lkB s1.bx t with
  | none => rfl
  | some (.st _ _) => rfl
  | some (.rw _ _ _ _ _) => exact ⟨[], rfl⟩
 ·show lkV (X ++ (ch sc wr ms s1).sl) i = lkV s1.sl i
  have hsf : kL (ch sc wr ms s1).pr (lkV s1.sl i) = true := hsf
  rw [IJ, if_neg, hbase, if_neg (by simp [hi]), if_pos]
  ·refine M4 (fun t h => h) (fun t ty cs hb => ?_) (hs1.sl i) hsf
   rw [df, df, Bool.or_eq_true, Bool.or_eq_true]
   rcases od _ _ _ _ c4 t ty cs rfl hb with h | h | h
   ·exact .inl h
   ·exact .inr (.inl ((pP s1.bx sc t).2 ⟨h, ty, cs, hb⟩))
   ·by_cases hm : aA (bB ms) t = true
    ·exact .inl hm
    ·by_cases hsc : aA sc t = true
     ·exact .inr (.inl ((pP s1.bx sc t).2 ⟨hsc, ty, cs, hb⟩))
     ·exact .inr (.inr ((pQ ms s1 t).2 ⟨by simpa using hm, by simpa using hsc, _, hb, h⟩))
  ·intro hX1
   obtain ⟨m, hm, hkey⟩ := hkeys i hX1
   rcases o1 m hm i hkey with h | ⟨R, h1, h2⟩
   ·rw [h] at hi; cases hi
   ·rw [h2] at hsf
    have hsf : aA (ch sc wr ms s1).pr R = true := hsf
    rw [hprm R hsf] at h1
    cases h1
 ·show ∃ cs', lkB bx2 t = _ ∧ _
  rw [k4 t (hscm t ht), CH ht (show lkB s1.bx t = _ from hb)]
  exact ⟨_, rfl, zY cs⟩
end
section
theorem Cy {P : Program} {s : SS} {p : PS} (hs : Sim s p) : ∀ {l : List ResultVar} {vs : List SV}, Kp P s l = some vs → ∃ qs, l.mapM (BQ P p) = some qs ∧ cd s.bx vs qs
 | [], vs, h => by injection h with h; subst h; exact ⟨[], rfl, .nil⟩
 | .tmp t :: l, vs, h => by
  simp only [Kp] at h
  split at h
  ·rename_i vs' h1
   injection h with h
   subst h
   obtain ⟨qs, h2, h3⟩ := Cy hs h1
   exact ⟨p.t t :: qs, by simp [List.mapM_cons, BQ, h2], .cons (hs.sl t) h3⟩
  ·cases h
 | .cell t ty :: l, vs, h => by
  simp only [Kp] at h
  split at h
  ·rename_i v vs' h0 h1
   injection h with h
   subst h
   obtain ⟨qs, h2, h3⟩ := Cy hs h1
   obtain ⟨r, h4, h5⟩ := KK hs (hs.sl t) h0
   exact ⟨r :: qs, by simp [List.mapM_cons, BQ, h4, h2], .cons h5 h3⟩
  ·cases h
theorem Lo {s : SS} {p : PS} (hs : Sim s p) : ∀ {rs : List PT} {vs : List SV} {qs : List PV} {x : bf rs}, cd s.bx vs qs → Hg s rs vs = some x → bL p.b qs = xr rs x
 | [], [], qs, x, hv, h => by
  rcases hv.cases with ⟨_, rfl⟩ | ⟨_, _, _, _, h1, _⟩
  ·rfl
  ·cases h1
 | [], _ :: _, _, x, _, h => dE (x := x) h
 | [t], [], _, x, _, h => dE (x := x) h
 | [t], [v], qs, x, hv, h => by
  rcases hv.cases with ⟨h1, _⟩ | ⟨v', q, vs', qs', h1, rfl, h2, h3⟩
  ·cases h1
  ·injection h1 with e1 e2
   subst e1 e2
   rcases h3.cases with ⟨_, rfl⟩ | ⟨_, _, _, _, h4, _⟩
   ·have := (CF hs h2 (show Lx s t v = some x from h)).1
    simp only [bL, xr, this]
   ·cases h4
 | [t], _ :: _ :: _, _, x, _, h => dE (x := x) h
 | t :: t' :: rs, [], _, x, _, h => dE (x := x) h
 | t :: t' :: rs, v :: vs, qs, x, hv, h => by
  rcases hv.cases with ⟨h1, _⟩ | ⟨v', q, vs', qs', h1, rfl, h2, h3⟩
  ·cases h1
  ·injection h1 with e1 e2
   subst e1 e2
   have h : Option.bind (Lx s t v) (fun x => Option.bind (Hg s (t' :: rs) vs) fun xs => some (x, xs)) = some x := h
   obtain ⟨y, h4, h5⟩ := ar h
   obtain ⟨ys, h6, h7⟩ := ar h5
   injection h7 with h7
   subst h7
   simp only [bL, xr, (CF hs h2 h4).1, Lo hs h3 h6]
theorem Hf {s : SS} : ∀ {rs : List PT} {vs : List SV} {x : bf rs}, Hg s rs vs = some x → vs.length = rs.length
 | [], [], x, _ => rfl
 | [], _ :: _, x, h => dE (x := x) h
 | [t], [], x, h => dE (x := x) h
 | [t], [v], x, _ => rfl
 | [t], _ :: _ :: _, x, h => dE (x := x) h
 | t :: t' :: rs, [], x, h => dE (x := x) h
 | t :: t' :: rs, v :: vs, x, h => by
  have h : Option.bind (Lx s t v) (fun x => Option.bind (Hg s (t' :: rs) vs) fun xs => some (x, xs)) = some x := h
  obtain ⟨y, h4, h5⟩ := ar h
  obtain ⟨ys, h6, h7⟩ := ar h5
  simp only [List.length_cons, Hf h6]
theorem KQ {C : Cx} {fn : Func} (hv : fn.results.toList = C.vars) {s : SS} {p : PS} (hs : Sim (clr s) p) {r : bf C.rs} (hM : ol C.rs = false) (h : Be C s = some r) : ∃ q, qf C.P fn p = some q ∧ asData p.b q = toR C.rs r := by
 unfold Be at h
 rw [hM] at h
 simp only at h
 split at h
 ·rename_i vs hvs
  obtain ⟨qs, h1, h2⟩ := Cy hs hvs
  have h3 := Lo hs h2 h
  have h4 := Hf h
  have h5 := h2.len
  unfold qf
  rw [hv, h1]
  match qs, h3, h5 with
  | [], h3, h5 =>
   refine ⟨.tup [], rfl, ?_⟩
   rcases qA C.rs r with ⟨q, k1, _⟩ | k1
   ·rw [k1] at h3; simp [bL] at h3
   ·rw [k1, ← h3]; rfl
  | [q], h3, h5 =>
   refine ⟨q, rfl, ?_⟩
   have : C.rs.length = 1 := by rw [← h4, h5]; rfl
   rcases qA C.rs r with ⟨q', k1, k2⟩ | k1
   ·rw [k1] at h3
    rw [k2]
    simpa [bL] using h3
   ·exfalso
    match C.rs, r, this, k1 with
    | [t], r, _, k1 => cases t <;> simp [toR, oO] at k1
  | q :: q' :: qs, h3, h5 =>
   refine ⟨.tup (q :: q' :: qs), rfl, ?_⟩
   rcases qA C.rs r with ⟨q2, k1, _⟩ | k1
   ·rw [k1] at h3; simp [bL] at h3
   ·rw [k1, ← h3]; rfl
 ·cases h
theorem Nh : ∀ (rs : List PT) (o : xC (cz rs)) (r : bf (eS rs)), jB rs (T5 rs o r) = o ∧ it rs (T5 rs o r) = r
 | [], _, _ => ⟨rfl, rfl⟩
 | [.io _], _, _ => ⟨rfl, rfl⟩
 | .io _ :: _ :: _, _, _ => ⟨rfl, rfl⟩
 | .own .. :: _, _, _ => ⟨rfl, rfl⟩
 | .mv .. :: _, _, _ => ⟨rfl, rfl⟩
 | .bx .. :: _, _, _ => ⟨rfl, rfl⟩
 | .agr .. :: _, _, _ => ⟨rfl, rfl⟩
 | .lf _ :: _, _, _ => ⟨rfl, rfl⟩
 | .ag _ :: _, _, _ => ⟨rfl, rfl⟩
 | .pl _ :: _, _, _ => ⟨rfl, rfl⟩
 | .ps _ :: _, _, _ => ⟨rfl, rfl⟩
 | .fn .. :: _, _, _ => ⟨rfl, rfl⟩
def boI (i : Nat) : (b : IB) → List Nat → b.den → BU
 | .no, _, _ => []
 | .own e k t, _, xs => [(sX i, rwU e k t xs)]
 | .bx ty n rows, js, x => (sX i, .st ty (dY (lV rows js) 0 (stD n x))) :: cj (lV rows js) 0 (stD n x)
def qX : Nat → (ls : List IB) → List (List Nat) → xC ls → BU
 | i, b :: ls, js :: kss, o => boI i b js o.1 ++ qX (i + 1) ls kss o.2
 | _, _, _, _ => []
def QK (C : Cx) (fn : Func) (p : PS) (r : bf C.rs) : Prop :=
 (ol C.rs = false → ∃ q, qf C.P fn p = some q ∧ asData p.b q = toR C.rs r) ∧
 (ol C.rs = true → ∃ kss jss, jG (cz C.rs) kss ∧ ir (eS C.rs) jss ∧ (dp 0 (cz C.rs) ++ (bl kss ++ bl jss)).Nodup ∧ (∃ q, qf C.P fn p = some q ∧ pN q = xE (cU (eS C.rs) jss (it C.rs r)).1) ∧
  ∀ t Bx, (t, Bx) ∈ qX 0 (cz C.rs) kss (jB C.rs r) ++ (cU (eS C.rs) jss (it C.rs r)).2 → ∃ B', p.b t = some B' ∧ qK B' = Bx)
theorem Iy {rows : List (Nat × Nat × Nat × Nat × Ty)} {t : Nat} {Bx : Box} : ∀ {ds : List D} {j : Nat}, (t, Bx) ∈ cj rows j ds → qK Bx = Bx
 | [], j, h => by cases h
 | d :: ds, j, h => by
  simp only [cj] at h
  split at h
  ·split at h
   ·rcases List.mem_cons.1 h with e | h
    ·injection e with _ e; subst e; rfl
    ·exact Iy h
   ·exact Iy h
  ·exact Iy h
theorem Ws {s : SS} {p : PS} (hs : Sim s p) {i : Nat} {b : IB} {o : b.den} {js : List Nat} (h : Wt s i b = some (o, js)) : js.length = b.nJ ∧ ∀ t Bx, (t, Bx) ∈ boI i b js o → ∃ B', p.b t = some B' ∧ qK B' = Bx := by
 cases b with
 | no =>
  injection h with h
  injection h with _ h
  subst h
  exact ⟨rfl, fun _ _ h => by cases h⟩
 | own e k t =>
  simp only [Wt] at h
  split at h
  ·rename_i xs is hd
   injection h with h
   injection h with e1 e2
   subst e1 e2
   refine ⟨rfl, fun t' Bx hm => ?_⟩
   have hbx := hs.bx (sX i)
   unfold sd at hd
   simp only at hd
   split at hd
   ·rename_i e' k' t2 xs' pins hb
    split at hd
    ·rename_i hty _
     obtain ⟨m2, hd⟩ := an hd
     obtain ⟨m3, hd⟩ := an hd
     injection hd with hd
     injection hd with e1 e2
     subst e1 hty
     have m2 := zd m2
     have m3 := zd m3
     subst m2 m3
     rw [hb] at hbx
     simp only [boI, List.mem_cons, List.not_mem_nil, or_false, Prod.mk.injEq] at hm
     obtain ⟨rfl, rfl⟩ := hm
     exact ⟨_, hbx.1, rfl⟩
    ·cases hd
   ·cases hd
  ·cases h
 | bx ty n rows =>
  simp only [Wt] at h
  split at h
  ·rename_i ty' cs hb
   obtain ⟨m1, h⟩ := an h
   have m1 := zd m1
   subst m1
   have hbx := hs.bx (sX i)
   rw [hb] at hbx
   obtain ⟨qs, k1, k2⟩ := hbx
   obtain ⟨k3, k4, k5⟩ := Eo hs k2 h
   refine ⟨k3, fun t Bx hm => ?_⟩
   rcases List.mem_cons.1 hm with e | hm
   ·injection e with e1 e2
    subst e1 e2
    exact ⟨_, k1, by rw [qK, k4]⟩
   ·exact ⟨_, k5 t Bx hm, Iy hm⟩
  ·cases h
theorem Ls {s : SS} {p : PS} (hs : Sim s p) : ∀ {ls : List IB} {i : Nat} {o : xC ls} {kss : List (List Nat)}, Qw s i ls = some (o, kss) → jG ls kss ∧ ∀ t Bx, (t, Bx) ∈ qX i ls kss o → ∃ B', p.b t = some B' ∧ qK B' = Bx
 | [], i, o, kss, h => by
  injection h with h
  injection h with _ h
  subst h
  exact ⟨trivial, fun _ _ h => by cases h⟩
 | b :: ls, i, o, kss, h => by
  simp only [Qw] at h
  split at h
  ·rename_i o1 js os kss' h1 h2
   injection h with h
   injection h with e1 e2
   subst e1 e2
   obtain ⟨k1, k2⟩ := Ws hs h1
   obtain ⟨k3, k4⟩ := Ls hs h2
   refine ⟨⟨k1, k3⟩, fun t Bx hm => ?_⟩
   rcases List.mem_append.1 hm with hm | hm
   ·exact k2 t Bx hm
   ·exact k4 t Bx hm
  ·cases h
theorem Hh {s : SS} {p : PS} (hs : Sim s p) : ∀ {rs : List PT} {vs : List SV} {qs : List PV} {x : bf rs} {jss : List (List Nat)}, cd s.bx vs qs → I1 s rs vs = some (x, jss) →
  ir rs jss ∧ dM qs = (cU rs jss x).1 ∧ ∀ t Bx, (t, Bx) ∈ (cU rs jss x).2 → ∃ B', p.b t = some B' ∧ qK B' = Bx
 | [], [], qs, x, jss, hv, h => by
  rcases hv.cases with ⟨_, rfl⟩ | ⟨_, _, _, _, h1, _⟩
  ·injection h with h
   injection h with _ h
   subst h
   exact ⟨trivial, rfl, fun _ _ h => by cases h⟩
  ·cases h1
 | [], _ :: _, _, x, jss, _, h => dE (x := (x, jss)) h
 | [pt], [], _, x, jss, _, h => dE (x := (x, jss)) h
 | [pt], [v], qs, x, jss, hv, h => by
  rcases hv.cases with ⟨h1, _⟩ | ⟨v', q, vs', qs', h1, rfl, h2, h3⟩
  ·cases h1
  ·injection h1 with e1 e2
   subst e1 e2
   rcases h3.cases with ⟨_, rfl⟩ | ⟨_, _, _, _, h4, _⟩
   ·have h : (match NH s pt v with | some (x, is) => some (x, [is]) | none => none) = some (x, jss) := h
    split at h
    ·rename_i y is hd
     injection h with h
     injection h with e1 e2
     subst e1 e2
     obtain ⟨k1, k2, k3⟩ := I2 hs h2 hd
     exact ⟨⟨k1, trivial⟩, by simp only [dM, cU, k2], k3⟩
    ·cases h
   ·cases h4
 | [pt], _ :: _ :: _, _, x, jss, _, h => dE (x := (x, jss)) h
 | pt :: q :: l, [], _, x, jss, _, h => dE (x := (x, jss)) h
 | pt :: q :: l, v :: vs, qs, x, jss, hv, h => by
  rcases hv.cases with ⟨h1, _⟩ | ⟨v', qv, vs', qs', h1, rfl, h2, h3⟩
  ·cases h1
  ·injection h1 with e1 e2
   subst e1 e2
   have h : (match NH s pt v, I1 s (q :: l) vs with | some (x, is), some (xs, iss) => some ((x, xs), is :: iss) | _, _ => none) = some (x, jss) := h
   split at h
   ·rename_i y is ys iss hd hr
    injection h with h
    injection h with e1 e2
    subst e1 e2
    obtain ⟨k1, k2, k3⟩ := I2 hs h2 hd
    obtain ⟨k4, k5, k6⟩ := Hh hs h3 hr
    refine ⟨⟨k1, k4⟩, by simp only [dM, cU, k2, k5], fun t Bx hm => ?_⟩
    rcases List.mem_append.1 hm with hm | hm
    ·exact k3 t Bx hm
    ·exact k6 t Bx hm
   ·cases h
theorem M8 {P : Program} {fn : Func} {p : PS} {qs : List PV} (h : fn.results.toList.mapM (BQ P p) = some qs) : qf P fn p = some (xE qs) := by
 unfold qf
 rw [h]
 match qs with
 | [] => rfl
 | [q] => rfl
 | q :: q' :: qs => rfl
theorem VV (qs : List PV) : pN (xE qs) = xE (dM qs) := by
 match qs with
 | [] => rfl
 | [q] => rfl
 | q :: q' :: qs => rfl
theorem Qb {C : Cx} {fn : Func} (hv : fn.results.toList = C.vars) {s : SS} {p : PS} (hpr : lO (clr s)) (hs : Sim (clr s) p) {r : bf C.rs} (h : Be C s = some r) : ∃ p', Le p p' ∧ QK C fn p' r := by
 cases hM : ol C.rs with
 | false => exact ⟨p, .refl p, fun _ => KQ hv hs hM h, fun e => by rw [hM] at e; cases e⟩
 | true =>
  unfold Be at h
  rw [hM] at h
  simp only [WS] at h
  split at h
  ·split at h
   ·rename_i s1 hf
    obtain ⟨p1, k1, k2, _, _⟩ := wF (sc := C.sc) hpr hs hf
    split at h
    ·rename_i ws hws
     obtain ⟨qs, k3, k4⟩ := Cy k2 hws
     split at h
     ·rename_i o kss r' jss ho hr
      obtain ⟨hn, h⟩ := an h
      injection h with h
      obtain ⟨e1, e2⟩ := Nh C.rs o r'
      rw [h] at e1 e2
      obtain ⟨m1, m2⟩ := Ls k2 ho
      obtain ⟨m3, m4, m5⟩ := Hh k2 k4 hr
      refine ⟨p1, k1, fun e => (by rw [hM] at e; cases e), fun _ => ⟨kss, jss, m1, m3, iH hn, ⟨_, M8 (by rw [hv]; exact k3), by rw [VV, m4, e2]⟩, fun t Bx hm => ?_⟩⟩
      rw [e1, e2] at hm
      rcases List.mem_append.1 hm with hm | hm
      ·exact m2 t Bx hm
      ·exact m5 t Bx hm
     ·cases h
    ·cases h
   ·cases h
  ·cases h
def vT (C : Cx) (fn : Func) (W : List Nat) (s : SS) {ρ : Type} (k : Exit → SS → Option ρ) (kr : bf C.rs → Option ρ) (res : ρ) : Exit → PS → Prop
 | .ret, p' => ∃ r, QK C fn p' r ∧ kr r = some res
 | e, p' => ∃ s', gD s' p' ∧ dD C.sc W s s' ∧ k e s' = some res
theorem VY {a b : List Nat} {i : Nat} (h : aA a i = true) : aA (a ++ b) i = true := by rw [df, h]; rfl
theorem TS {a b : List Nat} {i : Nat} (h : aA b i = true) : aA (a ++ b) i = true := by rw [df, h]; simp
variable {C : Cx} {fn : Func}
theorem pR {W : List Nat} {s : SS} {ρ : Type} {k : Exit → SS → Option ρ} {kr : bf C.rs → Option ρ} {res : ρ} {e : Exit} {p : PS} (he : e ≠ .ret) (h : vT C fn W s k kr res e p) : ∃ s', gD s' p ∧ dD C.sc W s s' ∧ k e s' = some res := by
 cases e <;> first | exact h | exact absurd rfl he
theorem KA {W : List Nat} {s s' : SS} {ρ : Type} {k : Exit → SS → Option ρ} {kr : bf C.rs → Option ρ} {res : ρ} {e : Exit} {p : PS} (he : e ≠ .ret) (h1 : gD s' p) (h2 : dD C.sc W s s') (h3 : k e s' = some res) : vT C fn W s k kr res e p := by
 cases e <;> first | exact ⟨s', h1, h2, h3⟩ | exact absurd rfl he
def S0 (C : Cx) (fn : Func) (c : Code) (W : List Nat) (body : (ρ : Type) → SS → (Exit → SS → Option ρ) → (bf C.rs → Option ρ) → Option ρ) : Prop :=
 ∀ (ρ : Type) (s : SS) (p : PS) (k : Exit → SS → Option ρ) (kr : bf C.rs → Option ρ) (res : ρ), lO s → gD s p → body ρ s k kr = some res → PWP C.P C.n c (vT C fn W s k kr res) p
theorem Nc {wr : List Nat} {ms : List Mod} {s s1 : SS} (hpr : lO s) (hk : dD C.sc wr s s1) (hchk : rN C.sc wr ms s.pr s1 = true) : ∀ t, aA s.pr t = true → aA (ch C.sc wr ms s1).pr t = true := by
 intro t ht
 unfold rN at hchk
 simp only [Bool.and_eq_true] at hchk
 obtain ⟨c1, c2, c3, c4⟩ := hchk
 rw [pQ]
 refine ⟨?_, ?_, hk.prOk hpr t (by rw [hk.pr]; exact ht)⟩
 ·cases hm : aA (bB ms) t with
  | false => rfl
  | true =>
   have := (tt c1).2 t hm
   rw [hk.pr, ht] at this
   cases this
 ·cases hm : aA C.sc t with
  | false => rfl
  | true =>
   have := sa c2 t hm
   rw [ht] at this
   cases this
mutual
theorem C7 {pr pr' : List Nat} (h : ∀ t, aA pr t = true → aA pr' t = true) : ∀ v : SV, kL pr v = true → kL pr' v = true
 | .junk, _ => rfl
 | .d _, _ => rfl
 | .fe _, _ => rfl
 | .ptr _ _, _ => rfl
 | .row t, hs => h t hs
 | .re _ _ _, hs => by cases hs
 | .vw _ _ _, hs => by cases hs
 | .ag cs, hs => by simp only [kL] at hs ⊢; exact ni h cs hs
 | .tup cs, hs => by simp only [kL] at hs ⊢; exact ni h cs hs
 | .fn f ps qs, hs => by simp only [kL, Bool.and_eq_true] at hs ⊢; exact ⟨ni h ps hs.1, ni h qs hs.2⟩
theorem ni {pr pr' : List Nat} (h : ∀ t, aA pr t = true → aA pr' t = true) : ∀ cs : List SV, dX pr cs = true → dX pr' cs = true
 | [], _ => rfl
 | c :: cs, hs => by
  simp only [dX, Bool.and_eq_true] at hs ⊢
  exact ⟨C7 h c hs.1, ni h cs hs.2⟩
end
theorem wC {wr : List Nat} {ms : List Mod} {s s1 s2 : SS} {oc : List Nat} (hk : dD C.sc wr s s1) (hsub : ∀ t, aA s.pr t = true → aA (ch C.sc wr ms s1).pr t = true) (hk2 : dD C.sc wr (sH C.sc wr ms s1) s2) : dD C.sc wr s ⟨s2.sl, s2.bx, s.pr, s.ro, oc⟩ := by
 refine ⟨rfl, rfl, fun t ht => (hk.bx t ht).trans (hk2.bx t (hsub t ht)), fun i hi hsf => ?_, fun t ht ty cs hb => ?_⟩
 ·have e := hk.sl i hi hsf
  have := hk2.sl i hi (C7 hsub _ (by show kL s.pr (lkV s1.sl i) = true; rw [e]; exact hsf))
  exact this.trans e
 ·obtain ⟨cs1, h1, h2⟩ := hk.st t ht ty cs hb
  obtain ⟨cs2, h3, h4⟩ := hk2.st t ht ty cs1 h1
  exact ⟨cs2, h3, h4.trans h2⟩
theorem xz {s : SS} (h : lO s) : lO (clr s) := h
theorem KS {W : List Nat} {s s' : SS} (h : dD C.sc W (clr s) s') : dD C.sc W s s' := ⟨h.pr, h.ro, h.bx, h.sl, h.st⟩
theorem xk {c : Code} {wr : List Nat} {h : s6} {body : (ρ : Type) → SS → (Exit → SS → Option ρ) → (bf C.rs → Option ρ) → Option ρ} (hb : S0 C fn c wr body) : S0 C fn c wr (Gh C wr h body) := by
 intro ρ s p k kr res hpr hs hx
 unfold Gh at hx
 split at hx
 ·rename_i ms h'
  split at hx
  ·cases hx
  ·rename_i s1 hnil
   obtain ⟨hchk, hx⟩ := an hx
   obtain ⟨st, h1, h2⟩ := ar hx
   split at h2
   ·rename_i s2 hput
    refine th (zX hs) ?_
    obtain ⟨p2, k1, k2, k3, k4⟩ := pV (sc := C.sc) (s := clr s) rfl (xz hpr) (qG hs) hnil
    refine th k1 ?_
    have hk1 : dD C.sc wr s s1 := KS k3
    have hw : gD (sH C.sc wr ms s1) p2 := ⟨k2.w.sl, k2.w.bx⟩
    refine fm (hb _ (sH C.sc wr ms s1) p2 _ _ st (z6 ms s1) hw h1) fun e p' hq => ?_
    by_cases he : e = .ret
    ·subst he
     obtain ⟨r, _, h⟩ := hq
     cases h
    ·obtain ⟨s', m1, m2, m3⟩ := pR he hq
     cases e with
     | normal =>
      have m3 : pT ms s' = some st := m3
      unfold pT at m3
      split at m3
      ·rename_i s'' hf
       obtain ⟨p'', n1, n2, n3⟩ := qR (sc := C.sc) (m2.prOk (z6 ms s1)) m1 hf
       have hchk' : rN C.sc wr ms s1.pr s1 = true := by rw [hk1.pr]; exact hchk
       obtain ⟨o1, o2, o3⟩ := IG k2.w hchk' (m2.trans (n3 wr)) n2 m3 hput
       exact ⟨p'', n1, ⟨s2.sl, s2.bx, s.pr, s.ro, s.oc⟩, ⟨o1.sl, o1.bx⟩, wC hk1 (Nc hpr hk1 hchk) o2, h2⟩
      ·cases m3
     | ret => exact absurd rfl he
     | _ => cases m3
   ·cases h2
 ·exact hb ρ s p k kr res hpr hs hx
end
section
variable {C : Cx} {fn : Func}
theorem qF : ∀ {l : List Oper}, Tn l = true → ∀ o ∈ l, ∀ t x y, o.op = .store t x y → o.dst = none
 | [], _, o, ho, _, _, _, _ => by cases ho
 | x :: l, h, o, ho, t, a, b, hop => by
  simp only [Tn] at h
  rcases List.mem_cons.1 ho with rfl | ho
  ·cases hd : o.dst with
   | none => rfl
   | some d => rw [hop, hd] at h; cases h
  ·split at h
   ·cases h
   ·exact qF h o ho t a b hop
theorem PP (hT : p8 C.P C.T) (hm : C.P.follows .mixedOrders = true) (id : Nat) (ops : Array Oper) (draw : Bool) : S0 C fn (.region id ops draw) (cn ops.toList) (fun _ s k _ => Tw C id ops draw s fun s => k .normal s) := by
 intro ρ s p k kr res hpr hs h
 have ha : ops.toList.toArray = ops := by simp
 have hW : ∀ o ∈ ops.toList, ∀ d, o.dst = some d → aA (cn ops.toList) d = true := fun o ho d hd => rZ ho hd
 have hO : ∀ (j : Nat) (o : Oper), ops[j]? = some o → ∀ d, o.dst = some d → aA (cn ops.toList) d = true := fun j o ho d hd => rZ (by
  rw [Array.mem_toList_iff]
  exact Array.mem_of_getElem? ho) hd
 replace h : Tw C id ops draw s (fun s => k .normal s) = some res := h
 unfold Tw at h
 cases hf : kU (lkF C.fz id) s with
 | none => rw [hf] at h; cases h
 | some s0 =>
  rw [hf] at h
  obtain ⟨p1, k1, k2, k3⟩ := qR (sc := C.sc) hpr hs hf
  refine th k1 (th (zX k2) ?_)
  have hs2 := qG k2
  have hpr2 : lO ⟨s0.sl, s0.bx, s0.pr, s0.ro, []⟩ := (k3 []).prOk hpr
  have fin : ∀ p', Fj C.sc (cn ops.toList) ops.toList ⟨s0.sl, s0.bx, s0.pr, s0.ro, []⟩ (wM s0 p1) (fun s => k .normal s) res p' → vT C fn (cn ops.toList) s k kr res .normal p' := by
   rintro p' ⟨s', m1, m2, m3, m4, _⟩
   exact ⟨s', m1.w, (k3 _).trans ⟨m2.pr, m2.ro, m2.bx, m2.sl, m2.st⟩, m4⟩
  simp only at h
  cases draw <;> simp only at h
  ·obtain ⟨h1, h2⟩ := an h
   rw [Bool.and_eq_true] at h1
   have hrun := Cu (q := true) (sc := C.sc) hT (ops := ops) 1000 0 [] ops.toList hW hO (qF h1.1) hpr2 hs2 h2
   have := Kw (P := C.P) (n := C.n) (id := id) (Qs := vT C fn (cn ops.toList) s k kr res) (s := wM s0 p1) h1.2 (by rw [ha]; exact fI hrun fin)
   rw [ha] at this
   exact this
  ·obtain ⟨h1, h2⟩ := an h
   obtain ⟨h3, h4⟩ := an h2
   split at h4
   ·have hrun := Cu (q := false) (sc := C.sc) hT (ops := ops) 1000 0 [] ops.toList hW hO (qF h1) hpr2 hs2 h4
    have := TC (P := C.P) (n := C.n) (id := id) (l := ops.toList) (Qs := vT C fn (cn ops.toList) s k kr res) (s := wM s0 p1) _ hm (by rw [ha]; exact h3) (by
     rw [ha]
     exact zJ (P := C.P) (ops := ops) ops.toList 0 (wM s0 p1) (fun j hj => by simp) (fI hrun fin))
    rw [ha] at this
    exact this
   ·obtain ⟨h5, h6⟩ := an h4
    rw [Bool.and_eq_true] at h5
    have hle := zd h5.2
    have hsub1 : ∀ o ∈ ops.toList.take (iE ops), o ∈ ops.toList := fun o ho => List.mem_of_mem_take ho
    have hsub2 : ∀ o ∈ ops.toList.drop (iE ops), o ∈ ops.toList := fun o ho => List.mem_of_mem_drop ho
    have hrun1 := Cu (q := false) (sc := C.sc) hT (ops := ops) 1000 0 [] (ops.toList.take (iE ops)) (fun o ho => hW o (hsub1 o ho)) hO (fun o ho => qF h1 o (hsub1 o ho)) hpr2 hs2 h6
    have hrun : vm false C.P ops (xG (ky C.T ⟨s0.sl, s0.bx, s0.pr, s0.ro, []⟩ ops.toList [] [])) 0 (ops.toList.take (iE ops)) (wM s0 p1) fun p' => vm true C.P ops (xG []) 0 (ops.toList.drop (iE ops)) p' (vT C fn (cn ops.toList) s k kr res .normal) := by
     refine fI hrun1 fun p' hp => ?_
     obtain ⟨s', m1, m2, m3, m4, _⟩ := hp
     have hrun2 := Cu (q := true) (sc := C.sc) hT (ops := ops) 1000 0 [] (ops.toList.drop (iE ops)) (fun o ho => hW o (hsub2 o ho)) hO (fun o ho => qF h1 o (hsub2 o ho)) m3 m1 m4
     refine fI hrun2 fun p2 hp2 => ?_
     obtain ⟨s3, n1, n2, n3, n4, _⟩ := hp2
     exact ⟨s3, n1.w, (k3 _).trans ((show dD C.sc (cn ops.toList) s0 s' from ⟨m2.pr, m2.ro, m2.bx, m2.sl, m2.st⟩).trans n2), n4⟩
    have := Rc (P := C.P) (n := C.n) (id := id) (l := ops.toList) (Qs := vT C fn (cn ops.toList) s k kr res) (s := wM s0 p1) _ (iE ops) hle hm (by rw [ha]; exact h3) (by rw [ha]; exact h5.1) (by
     rw [ha]
     have e1 : (ops.toList.take (iE ops)).length = iE ops := by rw [List.length_take]; exact Nat.min_eq_left (by simpa using hle)
     have e2 : (ops.toList.drop (iE ops)).length = ops.toList.length - iE ops := by simp
     rw [← e2]
     have r1 := zJ (P := C.P) (ops := ops) (ops.toList.take (iE ops)) 0 (wM s0 p1) (fun j hj => by
      rw [e1] at hj
      rw [List.getElem?_take, if_pos hj]
      simp) hrun
     rw [e1] at r1
     refine Gu r1 fun p' hp => PI _ _ _ _ (fun j hj => by rw [List.getElem?_drop]; simp) hp)
    rw [ha] at this
    exact this
theorem VI (hT : p8 C.P C.T) (hm : C.P.follows .mixedOrders = true) (id : Nat) (ops : Array Oper) (draw : Bool) : S0 C fn (.region id ops draw) (cn ops.toList) (fun _ s k _ => VJ C id ops draw s fun s => k .normal s) := by
 intro ρ s p k kr res hpr hs h
 replace h : VJ C id ops draw s (fun s => k .normal s) = some res := h
 unfold VJ at h
 split at h
 ·exact PP hT hm id ops draw ρ s p k kr res hpr hs h
 ·rename_i t l _
  obtain ⟨h1, h2⟩ := an h
  have h3 := PP (fn := fn) hT hm id ops draw ρ s p (fun e s => match e with | .normal => (match G2 C.sc (t :: l) s with | some s => k .normal s | none => none) | e => k e s) kr res hpr hs h2
  refine fm h3 fun e p' hq => ?_
  by_cases he : e = .ret
  ·subst he; exact ⟨p', .refl _, hq⟩
  ·obtain ⟨s', m1, m2, m3⟩ := pR he hq
   cases e with
   | ret => exact absurd rfl he
   | normal =>
    have m3 : (match G2 C.sc (t :: l) s' with | some s => k .normal s | none => none) = some res := m3
    split at m3
    ·rename_i s2 hfb
     obtain ⟨p2, k1, k2, k3⟩ := K5 hs (m2.prOk hpr) h1 m2 m1 hfb
     exact ⟨p2, k1, s2, k2, k3, m3⟩
    ·cases m3
   | _ => exact ⟨p', .refl _, KA he m1 m2 m3⟩
theorem C3 {s : SS} {p : PS} (hs : gD s p) {x : Operand} {b : Bool} (h : evX s x = .d (.bool b)) : gD (vI s x b) p := by
 unfold vI
 split
 ·rename_i i
  refine ⟨fun j => ?_, hs.bx⟩
  show a8 s.bx (lkV ((i, .d (.bool b)) :: s.sl) j) (p.t j)
  rw [cV]
  split
  ·rename_i e
   subst e
   have := hs.sl j
   rw [show lkV s.sl j = .d (.bool b) from h] at this
   exact this
  ·exact hs.sl j
 ·exact hs
theorem DK {W : List Nat} {s : SS} {x : Operand} {b : Bool} (h : ∀ i, x = .tmp i → aA W i = true) : dD C.sc W s (vI s x b) := by
 unfold vI
 split
 ·rename_i i
  refine ⟨rfl, rfl, fun _ _ => .refl _, fun j hj _ => ?_, fun _ _ _ cs h => ⟨cs, h, rfl⟩⟩
  show lkV ((i, .d (.bool b)) :: s.sl) j = _
  rw [cV, if_neg (fun e => by rw [e, h i rfl] at hj; cases hj)]
 ·exact .refl _ _
theorem DG {s : SS} {x : Operand} {b : Bool} (h : lO s) : lO (vI s x b) := by unfold vI; split <;> exact h
theorem Uq {s : SS} {p : PS} (hs : gD s p) (x : Operand) : a8 s.bx (evX s x) (ev p x) := by
 cases x with
 | tmp i => exact hs.sl i
 | const v => exact Et v
 | global g => exact .junk _
 | func f => exact .fn f [] [] [] [] rfl (fun j c q h => by simp at h) rfl (fun j c q h => by simp at h)
theorem wq {W W' : List Nat} {s s0 : SS} {ρ : Type} {k : Exit → SS → Option ρ} {kr : bf C.rs → Option ρ} {res : ρ} (hW : ∀ i, aA W i = true → aA W' i = true) (hk : dD C.sc W' s0 s) {e : Exit} {p : PS} (h : vT C fn W s k kr res e p) : vT C fn W' s0 k kr res e p := by
 by_cases he : e = .ret
 ·subst he; exact h
 ·obtain ⟨s', h1, h2, h3⟩ := pR he h
  exact KA he h1 (hk.trans (h2.wide hW)) h3
theorem DD {σ τ : Type} {f : σ → Option (σ ⊕ τ)} {m : Nat} {st : σ} {out : τ} (h : ah f m st = some out) : ∃ m', m = m' + 1 ∧ ((∃ st', f st = some (.inl st') ∧ ah f m' st' = some out) ∨ f st = some (.inr out)) := by
 cases m with
 | zero => cases h
 | succ m =>
  refine ⟨m, rfl, ?_⟩
  unfold ah at h
  split at h
  ·cases h
  ·rename_i st' hf; exact .inl ⟨st', hf, h⟩
  ·rename_i r hf; injection h with h; subst h; exact .inr hf
theorem P6 {c : Code} {ms : List Mod} {id : Nat} {τ : Type} {inr : jC ms → τ} {ret : bf C.rs → Option τ} {step : jC ms → Option (jC ms ⊕ τ)} {body : (ρ : Type) → SS → (Exit → SS → Option ρ) → (bf C.rs → Option ρ) → Option ρ} (hb : S0 C fn c (wrC c) body)
  {s0 : SS} (hstep : step = fun st => match jx ms st (ch C.sc (wrC c) ms s0) with
   | none => none
   | some sh => body (jC ms ⊕ τ) sh (fun e s' => match e with
    | .normal => Option.bind (pT ms s') fun st' => some (.inl st')
    | .exit id' => (match Nat.beq id' id with | true => Option.bind (pT ms s') fun st' => some (.inr (inr st')) | false => none)
    | _ => none) (fun r => (ret r).map .inr))
  {st0 : jC ms} {p : PS} (hs0 : gD s0 p) (hchk : rN C.sc (wrC c) ms s0.pr s0 = true) (hpack : sF s0 ms = some st0) {out : τ} (hl : ah step ab st0 = some out)
  (hput : ∀ st, inr st = out → ∃ s2, jx ms st (ch C.sc (wrC c) ms s0) = some s2) {Q : Exit → PS → Prop} (hexit : ∀ st s2 p', inr st = out → jx ms st (ch C.sc (wrC c) ms s0) = some s2 → gD s2 p' → dD C.sc (wrC c) (sH C.sc (wrC c) ms s0) s2 → Q (.exit id) p')
  (hret : ∀ r p', ret r = some out → QK C fn p' r → Q .ret p') : PWP C.P C.n (.loop c) Q p := by
 have put_of : ∀ {m st out}, ah step m st = some out → ∃ sh, jx ms st (ch C.sc (wrC c) ms s0) = some sh := by
  intro m st out h
  obtain ⟨m', _, h⟩ := DD h
  have : ∃ r, step st = some r := by rcases h with ⟨st', h, _⟩ | h <;> exact ⟨_, h⟩
  obtain ⟨r, hr⟩ := this
  rw [hstep] at hr
  simp only at hr
  split at hr
  ·cases hr
  ·rename_i sh hsh; exact ⟨sh, hsh⟩
 refine Ra (ks := []) (bs := []) (fun q m => ∃ st sh, jx ms st (ch C.sc (wrC c) ms s0) = some sh ∧ gD sh q ∧ dD C.sc (wrC c) (sH C.sc (wrC c) ms s0) sh ∧ ah step m st = some out) ab ?_ ?_
 ·obtain ⟨sh, hsh⟩ := put_of hl
  obtain ⟨o1, o2, o3⟩ := IG hs0 hchk (.refl _ _) (s' := sH C.sc (wrC c) ms s0) ⟨hs0.sl, hs0.bx⟩ (show sF (sH C.sc (wrC c) ms s0) ms = some st0 from (by
   have : ∀ (l : List Mod) (s s' : SS), s.sl = s'.sl → s.bx = s'.bx → sF s l = sF s' l := by
    intro l s s' h1 h2
    have cells : ∀ (rows : List (Nat × Nat × Nat × Nat × Ty)) (cs : List SV) (j : Nat), cellsOf s rows j cs = cellsOf s' rows j cs := by
     intro rows cs
     induction cs with
     | nil => intro j; rfl
     | cons c cs ih => intro j; simp only [cellsOf, h2, ih]
    have one : ∀ m : Mod, z7 s m = z7 s' m := by
     intro m
     cases m <;> simp only [z7, h1, h2, cells]
    induction l with
    | nil => rfl
    | cons m l ih =>
     cases l with
     | nil => exact one m
     | cons m' l => simp only [sF, one, ih]
   exact (this ms (sH C.sc (wrC c) ms s0) s0 rfl rfl).trans hpack)) hsh
  exact ⟨st0, sh, hsh, o1, o2, hl⟩
 ·rintro q m ⟨st, sh, hsh, hq, hk, hlo⟩
  obtain ⟨m', rfl, hcase⟩ := DD hlo
  have hrun : ∃ fr, step st = some fr ∧ ((∃ st', fr = .inl st' ∧ ah step m' st' = some out) ∨ fr = .inr out) := by
   rcases hcase with ⟨st', h1, h2⟩ | h1
   ·exact ⟨_, h1, .inl ⟨st', rfl, h2⟩⟩
   ·exact ⟨_, h1, .inr rfl⟩
  obtain ⟨fr, hfr, hcase⟩ := hrun
  have hbody : body (jC ms ⊕ τ) sh (fun e s' => match e with
    | .normal => Option.bind (pT ms s') fun st' => some (.inl st')
    | .exit id' => (match Nat.beq id' id with | true => Option.bind (pT ms s') fun st' => some (.inr (inr st')) | false => none)
    | _ => none) (fun r => (ret r).map .inr) = some fr := by
   rw [hstep] at hfr
   simp only [hsh] at hfr
   exact hfr
  have hprh : lO sh := hk.prOk (z6 ms s0)
  have meet : ∀ {s' : SS} {p' : PS} {st' : jC ms} {s2 : SS}, gD s' p' → dD C.sc (wrC c) sh s' → pT ms s' = some st' → jx ms st' (ch C.sc (wrC c) ms s0) = some s2 → ∃ p'', Le p' p'' ∧ gD s2 p'' ∧ dD C.sc (wrC c) (sH C.sc (wrC c) ms s0) s2 := by
   intro s' p' st' s2 m1 m2 m3 m4
   unfold pT at m3
   split at m3
   ·rename_i s'' hf
    obtain ⟨p'', n1, n2, n3⟩ := qR (sc := C.sc) (m2.prOk hprh) m1 hf
    obtain ⟨o1, o2, o3⟩ := IG hs0 hchk ((hk.trans m2).trans (n3 (wrC c))) n2 m3 m4
    exact ⟨p'', n1, o1, o2⟩
   ·cases m3
  refine fm (hb _ sh q _ _ fr hprh hq hbody) fun e p' hpost => ?_
  by_cases he : e = .ret
  ·subst he
   obtain ⟨r, h1, h3⟩ := hpost
   rw [zm] at h3
   obtain ⟨v, h4, h5⟩ := h3
   rcases hcase with ⟨st', rfl, _⟩ | rfl
   ·cases h5
   ·injection h5 with h5
    subst h5
    exact ⟨p', .refl _, hret r p' h4 h1⟩
  ·obtain ⟨s', m1, m2, m3⟩ := pR he hpost
   cases e with
   | normal =>
    obtain ⟨st', m4, m5⟩ := ar m3
    injection m5 with m5
    rcases hcase with ⟨st2, h1, h2⟩ | h1
    ·rw [← m5] at h1
     injection h1 with h1
     subst h1
     obtain ⟨sh', hsh'⟩ := put_of h2
     obtain ⟨p'', n1, n2, n3⟩ := meet m1 m2 m4 hsh'
     exact ⟨p'', n1, p'', fun _ _ _ _ _ h => h, m', ⟨st', sh', hsh', n2, n3, h2⟩, Nat.lt_succ_self _⟩
    ·rw [← m5] at h1; cases h1
   | exit id' =>
    replace m3 : (match Nat.beq id' id with | true => Option.bind (pT ms s') fun st' => some (.inr (inr st')) | false => none) = some fr := m3
    split at m3
    ·rename_i hid
     rw [cW] at hid
     have hid := zd hid
     subst hid
     obtain ⟨st', m4, m5⟩ := ar m3
     injection m5 with m5
     rcases hcase with ⟨st2, h1, h2⟩ | h1
     ·rw [← m5] at h1; cases h1
     ·rw [← m5] at h1
      injection h1 with h1
      obtain ⟨s2, hs2⟩ := hput st' h1
      obtain ⟨p'', n1, n2, n3⟩ := meet m1 m2 m4 hs2
      exact ⟨p'', n1, hexit st' s2 p'' h1 hs2 n2 n3⟩
    ·cases m3
   | ret => exact absurd rfl he
   | _ => cases m3
end
section
variable {C : Cx} {fn : Func}
theorem oh (hT : p8 C.P C.T) (hm : C.P.follows .mixedOrders = true) (hv : fn.results.toList = C.vars) : ∀ (c : Code) (h : s6), S0 C fn c (wrC c) (wI C c h)
 | .skip, h => fun ρ s p k kr res hpr hs hx => TA ⟨s, hs, .refl _ _, hx⟩
 | .label l, h => fun ρ s p k kr res hpr hs hx => Rb ⟨s, hs, .refl _ _, hx⟩
 | .exit id, h => fun ρ s p k kr res hpr hs hx => TB ⟨s, hs, .refl _ _, hx⟩
 | .ret, h => fun ρ s p k kr res hpr hs hx => by
  obtain ⟨r, h1, h2⟩ := ar (show Option.bind (Be C s) kr = some res from hx)
  obtain ⟨p', h3, h4⟩ := Qb hv (xz hpr) (qG hs) h1
  exact th ((zX hs).trans h3) (VM ⟨r, h4, h2⟩)
 | .region id ops draw, h => xk (VI hT hm id ops draw)
 | .seq a b, h => by
  refine xk (c := .seq a b) (wr := wrC a ++ wrC b) fun ρ s p k kr res hpr hs hx => ?_
  refine VL (fm (oh hT hm hv a h.l ρ s p _ _ res hpr hs hx) fun e p' hq => ⟨p', .refl _, ?_⟩)
  by_cases he : e = .ret
  ·subst he; exact hq
  ·obtain ⟨s', m1, m2, m3⟩ := pR he hq
   have hk : dD C.sc (wrC a ++ wrC b) s s' := m2.wide fun i hi => VY hi
   cases e with
   | normal =>
    refine fm (oh hT hm hv b h.r ρ s' p' k kr res (hk.prOk hpr) m1 m3) fun e p2 hq2 => ⟨p2, .refl _, ?_⟩
    exact wq (fun i hi => TS hi) hk hq2
   | ret => exact absurd rfl he
   | _ => exact ⟨s', m1, hk, m3⟩
 | .cond x a b, h => by
  have hwA : ∀ i, aA (wrC a) i = true → aA (wrC (.cond x a b)) i = true := fun i hi => by
   cases x <;> simp only [wrC, aX, df, hi, Bool.true_or, Bool.or_true]
  have hwB : ∀ i, aA (wrC b) i = true → aA (wrC (.cond x a b)) i = true := fun i hi => by
   cases x <;> simp only [wrC, aX, df, hi, Bool.or_true]
  have hwx : ∀ i, x = .tmp i → aA (wrC (.cond x a b)) i = true := fun i hi => by
   subst hi; simp only [wrC, aX, decide_true, Bool.true_or]
  refine xk (c := .cond x a b) (wr := wrC (.cond x a b)) fun ρ s p k kr res hpr hs hx => ?_
  have hx : (match evX s x with | .d (.bool t) => if t = true then wI C a h.l ρ (vI s x true) k kr else wI C b h.r ρ (vI s x false) k kr | _ => none) = some res := hx
  split at hx
  ·rename_i t ht
   have hq := Uq hs x
   rw [ht] at hq
   have hb := kD hq
   cases t
   ·rw [if_neg (by simp)] at hx
    refine Kx false (by rw [hb]; rfl) ?_
    rw [if_neg (by simp)]
    exact fm (oh hT hm hv b h.r ρ _ p k kr res (DG hpr) (C3 hs ht) hx) fun e p' hq => ⟨p', .refl _, wq hwB (DK hwx) hq⟩
   ·rw [if_pos rfl] at hx
    refine Kx true (by rw [hb]; rfl) ?_
    rw [if_pos rfl]
    exact fm (oh hT hm hv a h.l ρ _ p k kr res (DG hpr) (C3 hs ht) hx) fun e p' hq => ⟨p', .refl _, wq hwA (DK hwx) hq⟩
  ·cases hx
 | .block id c, h => by
  refine xk (c := .block id c) (wr := wrC c) fun ρ s p k kr res hpr hs hx => ?_
  refine Rf (fm (oh hT hm hv c h.l ρ s p _ _ res hpr hs hx) fun e p' hq => ⟨p', .refl _, ?_⟩)
  by_cases he : e = .ret
  ·subst he; exact hq
  ·obtain ⟨s', m1, m2, m3⟩ := pR he hq
   cases e with
   | exit id' =>
    have m3 : (match Nat.beq id' id with | true => k .normal s' | false => k (.exit id') s') = some res := m3
    simp only [DN]
    rw [cW] at m3
    by_cases hid : id' = id
    ·rw [if_pos hid]
     simp only [hid, decide_true] at m3
     exact ⟨s', m1, m2, m3⟩
    ·rw [if_neg hid]
     simp only [hid, decide_false] at m3
     exact ⟨s', m1, m2, m3⟩
   | ret => exact absurd rfl he
   | _ => exact ⟨s', m1, m2, m3⟩
 | .loop c, h => fun ρ s p k kr res hpr hs hx => by
  cases h with
  | lp ms id ret hb =>
   unfold wI at hx
   cases he : NA (wrC c) ms (clr s) with
   | none => rw [he] at hx; cases hx
   | some s0 =>
    rw [he] at hx
    obtain ⟨hchk, hx⟩ := an hx
    refine th (zX hs) ?_
    unfold NA at he
    split at he
    ·rename_i s1 hnil
     obtain ⟨p2, k1, k2, k3, k4⟩ := pV (sc := C.sc) (s := clr s) rfl (xz hpr) (qG hs) hnil
     refine th k1 ?_
     have hk1 : dD C.sc (wrC c) s s1 := KS k3
     obtain ⟨p3, n1, n2, n3⟩ := qR (sc := C.sc) (hk1.prOk hpr) k2.w he
     refine th n1 ?_
     have hk0 : dD C.sc (wrC c) s s0 := hk1.trans (n3 _)
     have hchk' : rN C.sc (wrC c) ms s0.pr s0 = true := by rw [hk0.pr]; exact hchk
     cases hpk : sF s0 ms with
     | none => rw [hpk] at hx; cases hx
     | some st0 =>
      rw [hpk] at hx
      cases ret with
      | false =>
       obtain ⟨out, h1, h2⟩ := ar hx
       refine P6 (C := C) (fn := fn) (c := c) (ms := ms) (id := id) (τ := jC ms) (inr := fun st => st) (ret := fun _ => none) (body := wI C c hb) (oh hT hm hv c hb) rfl n2 hchk' hpk h1 ?_ ?_ ?_
       ·intro st hst
        subst hst
        split at h2
        ·rename_i s2 hs2; exact ⟨s2, hs2⟩
        ·cases h2
       ·intro st s2 p' hst hs2 m1 m2
        subst hst
        rw [hs2] at h2
        exact ⟨⟨s2.sl, s2.bx, s.pr, s.ro, s.oc⟩, ⟨m1.sl, m1.bx⟩, wC hk0 (Nc hpr hk0 hchk) m2, h2⟩
       ·intro r p' hr; cases hr
      | true =>
       obtain ⟨out, h1, h2⟩ := ar hx
       refine P6 (C := C) (fn := fn) (c := c) (ms := ms) (id := id) (τ := jC ms ⊕ bf C.rs) (inr := .inl) (ret := fun r => some (.inr r)) (body := wI C c hb) (oh hT hm hv c hb) rfl n2 hchk' hpk h1 ?_ ?_ ?_
       ·intro st hst
        subst hst
        have h2 : (match jx ms st (ch C.sc (wrC c) ms s0) with | some s2 => k (.exit id) ⟨s2.sl, s2.bx, s.pr, s.ro, s.oc⟩ | none => none) = some res := h2
        split at h2
        ·rename_i s2 hs2; exact ⟨s2, hs2⟩
        ·cases h2
       ·intro st s2 p' hst hs2 m1 m2
        subst hst
        have h2 : (match jx ms st (ch C.sc (wrC c) ms s0) with | some s2 => k (.exit id) ⟨s2.sl, s2.bx, s.pr, s.ro, s.oc⟩ | none => none) = some res := h2
        rw [hs2] at h2
        exact ⟨⟨s2.sl, s2.bx, s.pr, s.ro, s.oc⟩, ⟨m1.sl, m1.bx⟩, wC hk0 (Nc hpr hk0 hchk) m2, h2⟩
       ·intro r p' hr h3
        injection hr with hr
        subst hr
        exact ⟨r, h3, h2⟩
    ·cases he
  | _ => cases hx
 | .rangeFunc .., h => fun ρ s p k kr res hpr hs hx => by cases hx
 | .scope .., h => fun ρ s p k kr res hpr hs hx => by cases hx
 | .goto .., h => fun ρ s p k kr res hpr hs hx => by cases hx
 | .refuse .., h => fun ρ s p k kr res hpr hs hx => by cases hx
theorem Jl : ∀ (vs : List SV) (i j : Nat), lkV (Ar i vs) (i + j) = (vs[j]?).getD .junk
 | [], i, j => by simp [Ar, lkV]
 | v :: vs, i, 0 => by simp [Ar, cV]
 | v :: vs, i, j + 1 => by
  simp only [Ar, cV]
  rw [if_neg (by omega), show i + (j + 1) = i + 1 + j by omega, Jl vs (i + 1) j]
  simp
theorem Gk : ∀ (ps : List PT) (x : cG ps), (qB ps x).length = ps.length
 | [], _ => rfl
 | p :: ps, x => by simp [qB, Gk ps]
theorem cE {P : Program} {T : List (Nat × Ent)} {n : Nat} {ps rs : List PT} {vars : List ResultVar} {fz : List (Nat × List Nat)} {sc : List Nat} {fb : List (Nat × List Nat)} {h : s6} {f : FuncId} {fn : Func} {c : Code} (hT : p8 P T) (hm : P.follows .mixedOrders = true) (hf : P.funcs[f]? = some fn) (hb : fn.body = some c) (hcb : eg P f = true) (hn : fn.ntmps = n) (hv : fn.results.toList = vars) (hl : ((decide (ps.length ≤ n) && tn ps) && !(ol ps || ol rs)) = true)
  {F : cG ps → Option (bf rs)} (hF : ∀ x, iC ⟨P, T, n, rs, vars, fz, sc, fb⟩ c h ps x = F x) : bQ P f ps rs F := by
 intro x r hx
 rw [Bool.and_eq_true] at hl
 obtain ⟨hl, hl3⟩ := hl
 refine ⟨fun hnM => ?_, fun h => by rw [h] at hl3; cases hl3⟩
 have hrs : ol rs = false := by rw [Bool.or_eq_false_iff] at hnM; exact hnM.2
 rw [← hF] at hx
 rw [Bool.and_eq_true] at hl
 have hlen := zd hl.1
 subst hn
 refine TF hf hb hcb (by rw [Gk]; exact hlen) ?_
 have hargs := G9 (B := []) ps x hl.2
 have hs : gD ⟨Ar 0 (Bo ps x), [], [], false, []⟩ ⟨l6 (qB ps x), dP⟩ := by
  refine ⟨fun i => ?_, fun t b hb => by cases hb⟩
  show a8 [] (lkV (Ar 0 (Bo ps x)) i) (l6 (qB ps x) i)
  have := Jl (Bo ps x) 0 i
  rw [Nat.zero_add] at this
  rw [this]
  unfold l6
  cases h1 : (Bo ps x)[i]? with
  | none => exact .junk _
  | some v =>
   have hlt : i < (qB ps x).length := by rw [← hargs.len]; exact (zg.1 h1).1
   rw [zq hlt]
   exact hargs.rep i v _ h1 (zq hlt)
 have hpr : lO ⟨Ar 0 (Bo ps x), [], [], false, []⟩ := fun t ht => by cases ht
 refine fm (oh (C := ⟨P, T, fn.ntmps, rs, vars, fz, sc, fb⟩) (fn := fn) hT hm hv c h _ _ _ _ _ r hpr hs hx) fun e p' hq => ?_
 by_cases he : e = .ret
 ·subst he
  obtain ⟨r', h1, h3⟩ := hq
  injection h3 with h3
  subst h3
  obtain ⟨q, h1, h2⟩ := h1.1 hrs
  exact ⟨p', .refl _, trivial, q, h1, h2⟩
 ·obtain ⟨s', m1, m2, m3⟩ := pR he hq
  cases e with
  | normal =>
   obtain ⟨q, h1, h2⟩ := KQ (C := ⟨P, T, fn.ntmps, rs, vars, fz, sc, fb⟩) hv (qG m1) hrs m3
   exact ⟨wM s' p', zX m1, trivial, q, h1, h2⟩
  | ret => exact absurd rfl he
  | _ => cases m3
end
def TU : List Nat → List Nat → Nat → Nat
 | a :: xs, b :: bs, t => if t = a then b else TU xs bs t
 | _, _, t => t
theorem DA : ∀ {xs bs : List Nat}, xs.Nodup → xs.length = bs.length → xs.map (TU xs bs) = bs
 | [], [], _, _ => rfl
 | [], _ :: _, _, h => by cases h
 | _ :: _, [], _, h => by cases h
 | a :: xs, b :: bs, hn, hl => by
  rw [List.nodup_cons] at hn
  have ih := DA (xs := xs) (bs := bs) hn.2 (by simpa using hl)
  simp only [List.map_cons, TU, if_true]
  congr 1
  conv => rhs; rw [← ih]
  apply List.map_congr_left
  intro t ht
  rw [if_neg (fun (e : t = a) => hn.1 (by rw [← e]; exact ht))]
theorem zS {f : Nat → Nat} : ∀ {l : List Nat}, (l.map f).Nodup → ∀ x ∈ l, ∀ y ∈ l, f x = f y → x = y
 | [], _, x, hx, _, _ => by cases hx
 | a :: l, h, x, hx, y, hy => by
  rw [List.map_cons, List.nodup_cons] at h
  intro e
  have hm : ∀ z ∈ l, f z ≠ f a := fun z hz e => h.1 (by rw [← e]; exact List.mem_map_of_mem hz)
  rcases List.mem_cons.1 hx with h1 | h1
  ·rcases List.mem_cons.1 hy with h2 | h2
   ·rw [h1, h2]
   ·exact absurd (by rw [← e, h1]) (hm y h2)
  ·rcases List.mem_cons.1 hy with h2 | h2
   ·exact absurd (by rw [e, h2]) (hm x h1)
   ·exact zS h.2 x h1 y h2 e
theorem uP {τ : Nat → Nat} : ∀ {xs bs : List (List Nat)}, xs.map List.length = bs.map List.length → (bl xs).map τ = bl bs → xs.map (·.map τ) = bs
 | [], [], _, _ => rfl
 | [], _ :: _, h, _ => by cases h
 | _ :: _, [], h, _ => by cases h
 | a :: xs, b :: bs, hl, h => by
  simp only [List.map_cons, List.cons.injEq] at hl
  simp only [bl, List.map_append] at h
  obtain ⟨h1, h2⟩ := List.append_inj h (by simpa using hl.1)
  rw [List.map_cons, h1, uP hl.2 h2]
theorem wh : ∀ {ps : List PT} {xs bs : List (List Nat)}, ir ps xs → ir ps bs → xs.map List.length = bs.map List.length
 | [], [], [], _, _ => rfl
 | [], _ :: _, _, h, _ => h.elim
 | [], [], _ :: _, _, h => h.elim
 | _ :: _, [], _, h, _ => h.elim
 | _ :: _, _ :: _, [], _, h => h.elim
 | p :: ps, a :: xs, b :: bs, h1, h2 => by simp only [List.map_cons, h1.1, h2.1, wh h1.2 h2.2]
theorem xt : ∀ {ls : List IB} {xs bs : List (List Nat)}, jG ls xs → jG ls bs → xs.map List.length = bs.map List.length
 | [], [], [], _, _ => rfl
 | [], _ :: _, _, h, _ => h.elim
 | [], [], _ :: _, _, h => h.elim
 | _ :: _, [], _, h, _ => h.elim
 | _ :: _, _ :: _, [], _, h => h.elim
 | p :: ps, a :: xs, b :: bs, h1, h2 => by simp only [List.map_cons, h1.1, h2.1, xt h1.2 h2.2]
theorem qM : ∀ {xs bs : List (List Nat)}, xs.map List.length = bs.map List.length → (bl xs).length = (bl bs).length
 | [], [], _ => rfl
 | [], _ :: _, h => by cases h
 | _ :: _, [], h => by cases h
 | a :: xs, b :: bs, h => by
  simp only [List.map_cons, List.cons.injEq] at h
  simp only [bl, List.length_append, h.1, qM h.2]
theorem A1 : ∀ (ps : List PT) (i : Nat), ir ps (bg i ps)
 | [], _ => trivial
 | p :: ps, i => ⟨by cases p <;> first | rfl | simp [mc, PT.nI], A1 ps (i + 1)⟩
mutual
theorem ku (τ : Nat → Nat) : ∀ q : PV, clean q = true → lX τ q = q ∧ bb q = []
 | .junk, _ => ⟨rfl, rfl⟩
 | .d _, _ => ⟨rfl, rfl⟩
 | .fe _, _ => ⟨rfl, rfl⟩
 | .ptr _ _, h => by cases h
 | .row _ _, h => by cases h
 | .re _ _ _ _, h => by cases h
 | .vw _ _ _ _, h => by cases h
 | .ag cs, h => by simp only [lX, bb]; rw [(fq τ cs h).1, (fq τ cs h).2]; exact ⟨rfl, rfl⟩
 | .tup cs, h => by simp only [lX, bb]; rw [(fq τ cs h).1, (fq τ cs h).2]; exact ⟨rfl, rfl⟩
 | .fn f ps qs, h => by
  have h : (cN ps && cN qs) = true := h
  rw [Bool.and_eq_true] at h
  simp only [lX, bb]; rw [(fq τ ps h.1).1, (fq τ qs h.2).1, (fq τ ps h.1).2, (fq τ qs h.2).2]; exact ⟨rfl, rfl⟩
theorem fq (τ : Nat → Nat) : ∀ cs : List PV, cN cs = true → eT τ cs = cs ∧ bH cs = []
 | [], _ => ⟨rfl, rfl⟩
 | c :: cs, h => by
  simp only [cN, Bool.and_eq_true] at h
  simp only [eT, bH]; rw [(ku τ c h.1).1, (fq τ cs h.2).1, (ku τ c h.1).2, (fq τ cs h.2).2]; exact ⟨rfl, rfl⟩
end
theorem D2 (τ : Nat → Nat) : ∀ (rows : List (Nat × Nat × Nat × Ty)) (is : List Nat) (j : Nat), o4 (lV rows (is.map τ)) j = (o4 (lV rows is) j).map fun r => (τ r.1, r.2)
 | [], is, j => by cases is <;> rfl
 | (j0, e, k, t) :: rows, [], j => rfl
 | (j0, e, k, t) :: rows, R :: is, j => by
  simp only [List.map_cons, lV, o4]
  split
  ·rfl
  ·exact D2 τ rows is j
theorem It (τ : Nat → Nat) (rows : List (Nat × Nat × Nat × Ty)) (is : List Nat) : ∀ (ds : List D) (j : Nat), dY (lV rows (is.map τ)) j ds = eT τ (dY (lV rows is) j ds)
 | [], _ => rfl
 | d :: ds, j => by
  simp only [dY, eT, It τ rows is ds (j + 1), D2]
  congr 1
  cases o4 (lV rows is) j with
  | none => rfl
  | some r =>
   obtain ⟨R, e, k, t⟩ := r
   cases d <;> rfl
theorem zN (τ : Nat → Nat) (rows : List (Nat × Nat × Nat × Ty)) (is : List Nat) : ∀ (ds : List D) (j : Nat), cj (lV rows (is.map τ)) j ds = lW τ (cj (lV rows is) j ds)
 | [], _ => rfl
 | d :: ds, j => by
  simp only [cj, D2]
  cases o4 (lV rows is) j with
  | none => exact zN τ rows is ds (j + 1)
  | some r =>
   obtain ⟨R, e, k, t⟩ := r
   cases d with
   | v => exact zN τ rows is ds (j + 1)
   | sl es => simp only [Option.map_some, lW, zN τ rows is ds (j + 1)]; rfl
theorem tf (τ : Nat → Nat) : ∀ (a b : BU), lW τ (a ++ b) = lW τ a ++ lW τ b
 | [], b => rfl
 | (t, B) :: a, b => by simp only [List.cons_append, lW, tf τ a b]
theorem gU : ∀ (a b : BU), bV (a ++ b) = bV a ++ bV b
 | [], b => rfl
 | (t, B) :: a, b => by simp only [List.cons_append, bV, gU a b]
theorem Lm (τ : Nat → Nat) : ∀ (a : BU), bV (lW τ a) = (bV a).map τ
 | [] => rfl
 | (t, B) :: a => by simp only [lW, bV, Lm τ a, List.map_cons]
theorem Ib (τ : Nat → Nat) (p : PT) (is : List Nat) (x : p.den) : toI p (is.map τ) x = (lX τ (toI p is x).1, lW τ (toI p is x).2) := by
 cases p with
 | io => rfl
 | lf t => simp only [toI]; rw [(ku τ _ (dI (.lf t) x)).1]; rfl
 | ag t => simp only [toI]; rw [(ku τ _ (dI (.ag t) x)).1]; rfl
 | pl t => simp only [toI]; rw [(ku τ _ (dI (.pl t) x)).1]; rfl
 | ps t => simp only [toI]; rw [(ku τ _ (dI (.ps t) x)).1]; rfl
 | fn f a b => simp only [toI]; rw [(ku τ _ (dI (.fn f a b) x)).1]; rfl
 | own e k t => match is with
  | [] => rfl
  | [i] => rfl
  | _ :: _ :: _ => rfl
 | mv e k t => match is with
  | [] => rfl
  | [i] => rfl
  | _ :: _ :: _ => rfl
 | bx ty n rows => match is with
  | [] => rfl
  | i :: is => simp only [toI, List.map_cons, It, zN]; rfl
 | agr n rows => simp only [toI, It, zN]; rfl
theorem Kf (τ : Nat → Nat) : ∀ (ps : List PT) (iss : List (List Nat)) (x : cG ps), dW ps (iss.map (·.map τ)) x = (eT τ (dW ps iss x).1, lW τ (dW ps iss x).2)
 | [], iss, x => by cases iss <;> rfl
 | p :: ps, [], x => rfl
 | p :: ps, is :: iss, x => by simp only [List.map_cons, dW, Ib, Kf τ ps iss x.2, eT, tf]
theorem zE (τ : Nat → Nat) : ∀ (rs : List PT) (iss : List (List Nat)) (x : bf rs), cU rs (iss.map (·.map τ)) x = (eT τ (cU rs iss x).1, lW τ (cU rs iss x).2)
 | [], iss, x => by cases iss <;> rfl
 | [p], [], x => rfl
 | [p], is :: iss, x => by
  have h := Ib τ p is x
  show ([(toI p (is.map τ) x).1], (toI p (is.map τ) x).2) = ([lX τ (toI p is x).1], lW τ (toI p is x).2)
  exact congrArg (fun z : PV × BU => ([z.1], z.2)) h
 | p :: q :: l, [], x => rfl
 | p :: q :: l, is :: iss, x => by
  have h1 := Ib τ p is x.1
  have h2 := zE τ (q :: l) iss x.2
  have h3 : ((toI p (is.map τ) x.1).1 :: (cU (q :: l) (iss.map (·.map τ)) x.2).1, (toI p (is.map τ) x.1).2 ++ (cU (q :: l) (iss.map (·.map τ)) x.2).2) = (lX τ (toI p is x.1).1 :: eT τ (cU (q :: l) iss x.2).1, lW τ (toI p is x.1).2 ++ lW τ (cU (q :: l) iss x.2).2) :=
   congr (f₁ := fun (y : List PV × BU) => ((toI p (is.map τ) x.1).1 :: y.1, (toI p (is.map τ) x.1).2 ++ y.2)) (f₂ := fun (y : List PV × BU) => (lX τ (toI p is x.1).1 :: y.1, lW τ (toI p is x.1).2 ++ y.2)) (congrArg (fun (z : PV × BU) (y : List PV × BU) => (z.1 :: y.1, z.2 ++ y.2)) h1) h2
  refine h3.trans ?_
  rw [← tf]; rfl
theorem VU (τ : Nat → Nat) (qs : List PV) : lX τ (xE qs) = xE (eT τ qs) := by
 match qs with
 | [] => rfl
 | [q] => rfl
 | q :: q' :: qs => rfl
theorem Ke (τi τ : Nat → Nat) : ∀ (ps : List PT) (ls : List IB) (i : Nat) (iss kss : List (List Nat)) (x : cG ps) (o : xC ls), Nk ps ls = true → ir ps iss → jG ls kss → (∀ s ∈ dp i ls, τ s = τi s) → (bg i ps).map (·.map τi) = iss → QT ps ls iss (kss.map (·.map τ)) x o = lW τ (qX i ls kss o)
 | [], [], i, iss, kss, x, o, _, _, _, _, _ => rfl
 | [], _ :: _, _, _, _, _, _, h, _, _, _, _ => by cases h
 | _ :: _, [], _, _, _, _, _, h, _, _, _, _ => by cases h
 | p :: ps, b :: ls, i, [], kss, x, o, _, h, _, _, _ => h.elim
 | p :: ps, b :: ls, i, is :: iss, [], x, o, _, _, h, _, _ => h.elim
 | p :: ps, b :: ls, i, is :: iss, js :: kss, x, o, hio, hs, hk, hkk, he => by
  simp only [Nk] at hio
  split at hio
  ·rename_i h1
   simp only [bg, List.map_cons, List.cons.injEq] at he
   obtain ⟨e1, e2⟩ := he
   have hk2 : ∀ s ∈ dp (i + 1) ls, τ s = τi s := fun s hs => hkk s (by cases b <;> simp [dp, hs])
   have ih := Ke τi τ ps ls (i + 1) iss kss x.2 o.2 hio hs.2 hk.2 hk2 e2
   simp only [List.map_cons, QT, qX, tf, ih]
   congr 1
   cases p with
   | own e k t => cases b with
    | own e' k' t' =>
     subst e1
     have := hkk (sX i) (by simp [dp])
     simp only [toO, mc, List.map_cons, List.map_nil, boI, lW, this]; rfl
    | _ => cases h1
   | bx ty n rows => cases b with
    | bx ty' n' rows' =>
     subst e1
     have := hkk (sX i) (by simp [dp])
     simp only [toO, mc, List.map_cons, boI, lW, It, zN, this]; rfl
    | _ => cases h1
   | mv => cases b <;> first | rfl | cases h1
   | lf => cases b <;> first | rfl | cases h1
   | ag => cases b <;> first | rfl | cases h1
   | pl => cases b <;> first | rfl | cases h1
   | ps => cases b <;> first | rfl | cases h1
   | fn => cases b <;> first | rfl | cases h1
   | agr => cases h1
   | io => cases h1
  ·cases hio
def gB (l : BU) : Prop := ∀ t B, (t, B) ∈ l → ∀ s ∈ Kt B, s ∈ bV l
theorem gB.app {a b : BU} (h : gB a) (h' : gB b) : gB (a ++ b) := fun t B hm s hs => by
 rw [gU, List.mem_append]
 rcases List.mem_append.1 hm with hm | hm
 ·exact .inl (h t B hm s hs)
 ·exact .inr (h' t B hm s hs)
theorem gB.u {l : BU} (h : gB l) : I8 l := fun t B hl => h t B (oa hl)
theorem Iu {rows : List (Nat × Nat × Nat × Nat × Ty)} : ∀ (ds : List D) (j : Nat), ∀ s ∈ bH (dY rows j ds), s ∈ bV (cj rows j ds)
 | [], _, s, h => by cases h
 | d :: ds, j, s, h => by
  simp only [dY, bH, List.mem_append] at h
  simp only [cj]
  have ih := Iu (rows := rows) ds (j + 1) s
  cases hf : o4 rows j with
  | none =>
   rw [hf] at h
   exact ih (h.resolve_left (by simp [bb]))
  | some r =>
   obtain ⟨R, e, k, t⟩ := r
   rw [hf] at h
   cases d with
   | v => exact ih (h.resolve_left (by simp [bb]))
   | sl es =>
    simp only [bV, List.mem_cons]
    rcases h with h | h
    ·simp only [bb, List.mem_cons, List.not_mem_nil, or_false] at h; exact .inl h
    ·exact .inr (ih h)
theorem oD {rows : List (Nat × Nat × Nat × Nat × Ty)} : ∀ (ds : List D) (j : Nat) t B, (t, B) ∈ cj rows j ds → Kt B = [] ∧ ∃ e k es, B = .rw e k es
 | [], _, t, B, h => by cases h
 | d :: ds, j, t, B, h => by
  simp only [cj] at h
  split at h
  ·split at h
   ·rcases List.mem_cons.1 h with e | h
    ·injection e with _ e; subst e; exact ⟨rfl, _, _, _, rfl⟩
    ·exact oD ds (j + 1) t B h
   ·exact oD ds (j + 1) t B h
  ·exact oD ds (j + 1) t B h
theorem Gm {rows : List (Nat × Nat × Nat × Nat × Ty)} (i : Nat) (ty : TypeId) (ds : List D) : gB ((i, .st ty (dY rows 0 ds)) :: cj rows 0 ds) := fun t B hm s hs => by
 simp only [bV, List.mem_cons]
 rcases List.mem_cons.1 hm with e | hm
 ·injection e with _ e
  subst e
  exact .inr (Iu ds 0 s hs)
 ·rw [(oD ds 0 t B hm).1] at hs; cases hs
theorem wv (i : Nat) (e k : Nat) (t : Ty) (xs : List t.den) : gB [(i, rwU e k t xs)] := fun t B hm s hs => by
 simp only [List.mem_cons, List.not_mem_nil, or_false, Prod.mk.injEq] at hm
 rw [hm.2] at hs
 cases hs
theorem cZ : gB [] := fun t B hm => by cases hm
theorem CX (p : PT) (is : List Nat) (x : p.den) : (∀ s ∈ bb (toI p is x).1, s ∈ bV (toI p is x).2) ∧ gB (toI p is x).2 := by
 have plain : ∀ {q : PV}, clean q = true → (∀ s ∈ bb q, s ∈ bV []) ∧ gB [] := fun hq => ⟨fun s h => (by rw [(ku id _ hq).2] at h; cases h), cZ⟩
 cases p with
 | io => exact ⟨fun s h => (by cases h), cZ⟩
 | lf t => exact plain (dI (.lf t) x)
 | ag t => exact plain (dI (.ag t) x)
 | pl t => exact plain (dI (.pl t) x)
 | ps t => exact plain (dI (.ps t) x)
 | fn f a b => exact plain (dI (.fn f a b) x)
 | own e k t => match is with
  | [] => exact ⟨fun s h => (by cases h), cZ⟩
  | [i] => exact ⟨fun s h => h, wv i e k t x⟩
  | _ :: _ :: _ => exact ⟨fun s h => (by cases h), cZ⟩
 | mv e k t => match is with
  | [] => exact ⟨fun s h => (by cases h), cZ⟩
  | [i] => exact ⟨fun s h => h, wv i e k t x⟩
  | _ :: _ :: _ => exact ⟨fun s h => (by cases h), cZ⟩
 | bx ty n rows => match is with
  | [] => exact ⟨fun s h => (by cases h), cZ⟩
  | i :: is => exact ⟨fun s h => by simp only [toI, bb, List.mem_cons, List.not_mem_nil, or_false] at h; simp only [toI, bV, List.mem_cons]; exact .inl h, Gm i ty _⟩
 | agr n rows => exact ⟨fun s h => Iu _ 0 s h, fun t B hm s hs => by rw [(oD _ 0 t B hm).1] at hs; cases hs⟩
theorem Gl : ∀ (ps : List PT) (iss : List (List Nat)) (x : cG ps), (∀ s ∈ bH (dW ps iss x).1, s ∈ bV (dW ps iss x).2) ∧ gB (dW ps iss x).2
 | [], iss, x => ⟨fun s h => (by cases h), cZ⟩
 | p :: ps, [], x => ⟨fun s h => (by cases h), cZ⟩
 | p :: ps, is :: iss, x => by
  obtain ⟨h1, h2⟩ := CX p is x.1
  obtain ⟨h3, h4⟩ := Gl ps iss x.2
  refine ⟨fun s h => ?_, h2.app h4⟩
  simp only [dW, bH, List.mem_append] at h
  simp only [dW, gU, List.mem_append]
  exact h.imp (h1 s) (h3 s)
theorem CV : ∀ (rs : List PT) (iss : List (List Nat)) (x : bf rs), (∀ s ∈ bH (cU rs iss x).1, s ∈ bV (cU rs iss x).2) ∧ gB (cU rs iss x).2
 | [], iss, x => ⟨fun s h => (by cases h), cZ⟩
 | [p], [], x => ⟨fun s h => (by cases h), cZ⟩
 | [p], is :: iss, x => by
  obtain ⟨h1, h2⟩ := CX p is (show p.den from x)
  refine ⟨fun s h => ?_, h2⟩
  have h : s ∈ bb (toI p is (show p.den from x)).1 ++ [] := h
  rw [List.append_nil] at h
  exact h1 s h
 | p :: q :: l, [], x => ⟨fun s h => (by cases h), cZ⟩
 | p :: q :: l, is :: iss, x => by
  obtain ⟨h1, h2⟩ := CX p is x.1
  obtain ⟨h3, h4⟩ := CV (q :: l) iss x.2
  refine ⟨fun s h => ?_, h2.app h4⟩
  have h : s ∈ bb (toI p is x.1).1 ++ bH (cU (q :: l) iss x.2).1 := h
  show s ∈ bV ((toI p is x.1).2 ++ (cU (q :: l) iss x.2).2)
  rw [gU, List.mem_append]
  exact (List.mem_append.1 h).imp (h1 s) (h3 s)
theorem TM (qs : List PV) : ∀ s ∈ bb (xE qs), s ∈ bH qs := by
 match qs with
 | [] => exact fun s h => by cases h
 | [q] => exact fun s h => by simpa [bH, xE] using h
 | q :: q' :: qs => exact fun s h => h
theorem Gj : ∀ {rs : List PT} {iss : List (List Nat)} {x : bf rs} {t : Nat}, t ∈ bV (cU rs iss x).2 → t ∈ bl iss
 | [], iss, x, t, h => by cases h
 | [p], [], x, t, h => by cases h
 | [p], is :: iss, x, t, h => by
  have h : t ∈ bV (toI p is (show p.den from x)).2 := h
  rw [qT, List.mem_append]
  obtain ⟨B, hB⟩ := cR.1 h
  exact .inl (Ic (oa hB))
 | p :: q :: l, [], x, t, h => by cases h
 | p :: q :: l, is :: iss, x, t, h => by
  have h : t ∈ bV ((toI p is x.1).2 ++ (cU (q :: l) iss x.2).2) := h
  rw [gU, List.mem_append] at h
  rw [qT, List.mem_append]
  rcases h with h | h
  ·obtain ⟨B, hB⟩ := cR.1 h
   exact .inl (Ic (oa hB))
  ·exact .inr (Gj h)
theorem WC (i : Nat) (b : IB) (js : List Nat) (o : b.den) : gB (boI i b js o) ∧ ∀ t ∈ bV (boI i b js o), t = sX i ∧ b ≠ .no ∨ t ∈ js := by
 cases b with
 | no => exact ⟨cZ, fun t h => by cases h⟩
 | own e k t => exact ⟨wv _ _ _ _ _, fun t' h => by simp only [boI, bV, List.mem_cons, List.not_mem_nil, or_false] at h; exact .inl ⟨h, fun e => by cases e⟩⟩
 | bx ty n rows =>
  refine ⟨Gm _ _ _, fun t h => ?_⟩
  simp only [boI, bV, List.mem_cons] at h
  rcases h with h | h
  ·exact .inl ⟨h, fun e => by cases e⟩
  ·obtain ⟨B, hB⟩ := cR.1 h
   exact .inr (wo (oa hB))
theorem tC {i : Nat} {b : IB} {ls : List IB} {s : Nat} : s ∈ dp i (b :: ls) ↔ (s = sX i ∧ b ≠ .no) ∨ s ∈ dp (i + 1) ls := by
 cases b <;> simp [dp]
theorem ED : ∀ (ls : List IB) (i : Nat) (kss : List (List Nat)) (o : xC ls), jG ls kss → gB (qX i ls kss o) ∧ (∀ t ∈ bV (qX i ls kss o), t ∈ dp i ls ∨ t ∈ bl kss) ∧ ∀ t ∈ dp i ls, t ∈ bV (qX i ls kss o)
 | [], i, kss, o, _ => ⟨cZ, fun t h => (by cases h), fun t h => by cases h⟩
 | b :: ls, i, [], o, h => h.elim
 | b :: ls, i, js :: kss, o, h => by
  obtain ⟨h1, h2⟩ := WC i b js o.1
  obtain ⟨h3, h4, h5⟩ := ED ls (i + 1) kss o.2 h.2
  refine ⟨h1.app h3, fun t ht => ?_, fun t ht => ?_⟩
  ·simp only [qX, gU, List.mem_append] at ht
   rw [tC, qT, List.mem_append]
   rcases ht with ht | ht
   ·rcases h2 t ht with h6 | h6
    ·exact .inl (.inl h6)
    ·exact .inr (.inl h6)
   ·rcases h4 t ht with h6 | h6
    ·exact .inl (.inr h6)
    ·exact .inr (.inr h6)
  ·rw [tC] at ht
   simp only [qX, gU, List.mem_append]
   rcases ht with ⟨rfl, hb⟩ | ht
   ·left
    cases b with
    | no => exact absurd rfl hb
    | own => simp [boI, bV]
    | bx => simp [boI, bV]
   ·exact .inr (h5 t ht)
theorem KR : ∀ (ls : List IB) (i : Nat), ∀ s ∈ dp i ls, 1000000 ≤ s
 | [], i, s, h => by cases h
 | b :: ls, i, s, h => by
  rw [tC] at h
  rcases h with ⟨rfl, _⟩ | h
  ·unfold sX; omega
  ·exact KR ls (i + 1) s h
theorem AZ : ∀ (ps : List PT) (ls : List IB) (i : Nat) (x : cG ps), Nk ps ls = true →
  (∀ s ∈ dp i ls, s ∈ bV (dW ps (bg i ps) x).2) ∧ ∀ t B, (t, B) ∈ (dW ps (bg i ps) x).2 → t ∉ dp i ls → (∃ e k es, B = .rw e k es) ∧ t ∈ oY ps (bg i ps)
 | [], [], i, x, _ => ⟨fun s h => (by cases h), fun t B h => by cases h⟩
 | [], _ :: _, _, _, h => by cases h
 | _ :: _, [], _, _, h => by cases h
 | p :: ps, b :: ls, i, x, hio => by
  simp only [Nk] at hio
  split at hio
  ·rename_i h1
   obtain ⟨k1, k2⟩ := AZ ps ls (i + 1) x.2 hio
   have head : (b ≠ .no → sX i ∈ bV (toI p (mc i p) x.1).2) ∧ ∀ t B, (t, B) ∈ (toI p (mc i p) x.1).2 → ¬ (t = sX i ∧ b ≠ .no) → (∃ e k es, B = .rw e k es) ∧ t ∈ GU p (mc i p) := by
    cases p with
    | own e k t => cases b with
     | own e' k' t' =>
      refine ⟨fun _ => by simp [toI, mc, bV], fun t B hm hn => ?_⟩
      simp only [toI, mc, List.mem_cons, List.not_mem_nil, or_false, Prod.mk.injEq] at hm
      exact absurd ⟨hm.1, fun e => by cases e⟩ hn
     | _ => cases h1
    | mv e k t => cases b with
     | no =>
      refine ⟨fun h => absurd rfl h, fun t B hm _ => ?_⟩
      simp only [toI, mc, List.mem_cons, List.not_mem_nil, or_false, Prod.mk.injEq] at hm
      obtain ⟨rfl, rfl⟩ := hm
      exact ⟨⟨_, _, _, rfl⟩, by simp [GU, mc]⟩
     | _ => cases h1
    | bx ty n rows => cases b with
     | bx ty' n' rows' =>
      refine ⟨fun _ => by simp [toI, mc, bV], fun t B hm hn => ?_⟩
      simp only [toI, mc] at hm
      rcases List.mem_cons.1 hm with e | hm
      ·injection e with e _
       exact absurd ⟨e, fun e => by cases e⟩ hn
      ·exact ⟨(oD _ 0 t B hm).2, wo hm⟩
     | _ => cases h1
    | lf => cases b <;> first | exact ⟨fun h => absurd rfl h, fun t B hm => by cases hm⟩ | cases h1
    | ag => cases b <;> first | exact ⟨fun h => absurd rfl h, fun t B hm => by cases hm⟩ | cases h1
    | pl => cases b <;> first | exact ⟨fun h => absurd rfl h, fun t B hm => by cases hm⟩ | cases h1
    | ps => cases b <;> first | exact ⟨fun h => absurd rfl h, fun t B hm => by cases hm⟩ | cases h1
    | fn => cases b <;> first | exact ⟨fun h => absurd rfl h, fun t B hm => by cases hm⟩ | cases h1
    | agr => cases h1
    | io => cases h1
   refine ⟨fun s hs => ?_, fun t B hm hn => ?_⟩
   ·simp only [bg, dW, gU, List.mem_append]
    rcases tC.1 hs with ⟨rfl, h⟩ | h
    ·exact .inl (head.1 h)
    ·exact .inr (k1 s h)
   ·simp only [bg, dW] at hm
    simp only [bg, oY, List.mem_append]
    rw [tC, not_or] at hn
    rcases List.mem_append.1 hm with hm | hm
    ·obtain ⟨q1, q2⟩ := head.2 t B hm hn.1
     exact ⟨q1, .inl q2⟩
    ·obtain ⟨q1, q2⟩ := k2 t B hm hn.2
     exact ⟨q1, .inr q2⟩
  ·cases hio
theorem GR (τ : Nat → Nat) : ∀ (ps : List PT) (iss : List (List Nat)), oY ps (iss.map (·.map τ)) = (oY ps iss).map τ
 | [], iss => by cases iss <;> rfl
 | p :: ps, [] => rfl
 | p :: ps, is :: iss => by
  simp only [List.map_cons, oY, GR τ ps iss, List.map_append]
  congr 1
  cases p with
  | bx => cases is <;> rfl
  | _ => rfl
theorem DQ : ∀ (ps : List PT) (iss : List (List Nat)), ∀ s ∈ oY ps iss, s ∈ bl iss
 | [], iss, s, h => by cases iss <;> cases h
 | p :: ps, [], s, h => by cases h
 | p :: ps, is :: iss, s, h => by
  simp only [oY, List.mem_append] at h
  rw [qT, List.mem_append]
  rcases h with h | h
  ·left
   cases p with
   | mv => exact h
   | bx => cases is with
    | nil => cases h
    | cons a is => exact List.mem_cons_of_mem _ h
   | _ => cases h
  ·exact .inr (DQ ps iss s h)
theorem DR (l : BU) : ∀ (is : List Nat) (t : Nat), lkU (DS l is) t = if t ∈ is then some (match lkU l t with | some B => WU B | none => .st 0 []) else none
 | [], t => rfl
 | a :: is, t => by
  simp only [DS, lkU]
  by_cases h : t = a
  ·subst h; simp only [if_true, List.mem_cons, true_or]; rfl
  ·simp only [h, if_false, List.mem_cons, false_or]; exact DR l is t
theorem IK (a b : BU) (t : Nat) : lkU (a ++ b) t = match lkU a t with | some B => some B | none => lkU b t := by
 induction a with
 | nil => rfl
 | cons x a ih =>
  obtain ⟨j, B⟩ := x
  simp only [List.cons_append, lkU]
  split
  ·rfl
  ·exact ih
theorem Wx {P : Program} {f : FuncId} {ps rs : List PT} {x : cG ps} {r : bf rs} (hio : Nk ps (cz rs) = true) (hlen : KN ps (cz rs) x (jB rs r)) (hn0 : (bl (bg 0 ps)).Nodup) (hgk : ∀ s ∈ oY ps (bg 0 ps), s ∉ dp 0 (cz rs))
  (h : PCm P f (dW ps (bg 0 ps) x).1 (dW ps (bg 0 ps) x).2 (dp 0 (cz rs)) fun q bo => ∃ kss jss, jG (cz rs) kss ∧ ir (eS rs) jss ∧ (dp 0 (cz rs) ++ (bl kss ++ bl jss)).Nodup ∧ q = xE (cU (eS rs) jss (it rs r)).1 ∧ bo = qX 0 (cz rs) kss (jB rs r) ++ (cU (eS rs) jss (it rs r)).2) : Yy P f ps rs x r := by
 refine ⟨hlen, fun iss kss jss hsi hsk hsj hnd hlt hall => ⟨h.1, fun w0 F0 ρ b w F vs args hargs hb hbn hi hv => ?_⟩⟩
 have hK := AZ ps (cz rs) 0 x hio
 have hl0 := wh (A1 ps 0) hsi
 let τi := TU (bl (bg 0 ps)) (bl iss)
 have e1 : (bl (bg 0 ps)).map τi = bl iss := DA hn0 (qM hl0)
 have e2 : (bg 0 ps).map (·.map τi) = iss := uP hl0 e1
 obtain ⟨n1, n2, n3⟩ := List.nodup_append.1 hnd
 have hinj : ∀ s ∈ bl (bg 0 ps), ∀ s' ∈ bl (bg 0 ps), τi s = τi s' → s = s' := zS (by rw [e1]; exact n1)
 have hdom : ∀ s ∈ bV (dW ps (bg 0 ps) x).2, s ∈ bl (bg 0 ps) := fun s hs => by
  obtain ⟨B, hB⟩ := cR.1 hs
  exact CW (oa hB)
 have hren := Kf τi ps (bg 0 ps) x
 rw [e2] at hren
 have hfl : ∀ s ∈ bl (bg 0 ps), s ∈ bV (dW ps (bg 0 ps) x).2 := fun s hs => by
  have h1 : τi s ∈ bl iss := by rw [← e1]; exact List.mem_map_of_mem hs
  have h2 := hall _ h1
  rw [hren] at h2
  simp only [Lm] at h2
  obtain ⟨s', h3, h4⟩ := List.mem_map.1 h2
  rw [← hinj s' (hdom s' h3) s hs h4]
  exact h3
 have hii : ∀ s ∈ bV (dW ps (bg 0 ps) x).2, ∀ s' ∈ bV (dW ps (bg 0 ps) x).2, τi s = τi s' → s = s' := fun s h1 s' h2 => hinj s (hdom s h1) s' (hdom s' h2)
 have hcl := Gl ps (bg 0 ps) x
 refine UJ (τi := τi) (N := bl kss ++ bl jss) (u := sG ps rs iss kss jss x r) h hii ?_ hlt hcl.1 (by rw [hargs, hren]) hcl.2.u w0 F0 ρ b w F vs (fun s B hs => ?_) hbn hi hv
 rotate_left
 ·have := CA (σ := τi) hii hs
  rw [show lW τi (dW ps (bg 0 ps) x).2 = (dW ps iss x).2 from by rw [hren]] at this
  exact hb _ _ this
 rintro q bo ⟨kss0, jss0, m1, m2, m3, rfl, rfl⟩
 have hl1 := xt m1 hsk
 have hl2 := wh m2 hsj
 have hKf : ∀ s ∈ dp 0 (cz rs), s ∈ bl (bg 0 ps) := fun s hs => hdom s (hK.1 s hs)
 have ⟨p1, p2, p3⟩ := List.nodup_append.1 m3
 have hKn : ((dp 0 (cz rs)).map τi).Nodup := by
  have : ∀ l : List Nat, l.Nodup → (∀ s ∈ l, s ∈ bl (bg 0 ps)) → (l.map τi).Nodup := fun l => by
   induction l with
   | nil => intro _ _; exact List.nodup_nil
   | cons a l ih =>
    intro hn hs
    rw [List.nodup_cons] at hn
    rw [List.map_cons, List.nodup_cons]
    refine ⟨fun hm => ?_, ih hn.2 fun s h => hs s (List.mem_cons_of_mem _ h)⟩
    obtain ⟨s, h1, h2⟩ := List.mem_map.1 hm
    have := hinj s (hs s (List.mem_cons_of_mem _ h1)) a (hs a List.mem_cons_self) h2
    rw [this] at h1
    exact hn.1 h1
  exact this _ p1 hKf
 have htg : ((dp 0 (cz rs)).map τi ++ (bl kss ++ bl jss)).Nodup := by
  refine List.nodup_append.2 ⟨hKn, n2, fun a ha b' hb' => ?_⟩
  obtain ⟨s, h1, rfl⟩ := List.mem_map.1 ha
  exact n3 _ (by rw [← e1]; exact List.mem_map_of_mem (hKf s h1)) _ hb'
 let τ := TU (dp 0 (cz rs) ++ (bl kss0 ++ bl jss0)) ((dp 0 (cz rs)).map τi ++ (bl kss ++ bl jss))
 have et : (dp 0 (cz rs) ++ (bl kss0 ++ bl jss0)).map τ = (dp 0 (cz rs)).map τi ++ (bl kss ++ bl jss) := DA m3 (by simp [qM hl1, qM hl2])
 have hinjo := zS (f := τ) (l := dp 0 (cz rs) ++ (bl kss0 ++ bl jss0)) (by rw [et]; exact htg)
 have et2 := et
 rw [List.map_append, List.map_append] at et2
 obtain ⟨q1, q2⟩ := List.append_inj et2 (by simp)
 obtain ⟨q2, q3⟩ := List.append_inj q2 (by simp [qM hl1])
 have hτK : ∀ s ∈ dp 0 (cz rs), τ s = τi s := List.map_inj_left.1 q1
 have b1 := uP hl1 q2
 have b2 := uP hl2 q3
 obtain ⟨c1, c2, c3⟩ := ED (cz rs) 0 kss0 (jB rs r) m1
 have hbo : ∀ s ∈ bV (qX 0 (cz rs) kss0 (jB rs r) ++ (cU (eS rs) jss0 (it rs r)).2), s ∈ dp 0 (cz rs) ∨ s ∈ bl kss0 ++ bl jss0 := fun s hs => by
  rw [gU, List.mem_append] at hs
  rw [List.mem_append]
  rcases hs with hs | hs
  ·rcases c2 s hs with h | h
   ·exact .inl h
   ·exact .inr (.inl h)
  ·exact .inr (.inr (Gj hs))
 have hbo' : ∀ s ∈ bV (qX 0 (cz rs) kss0 (jB rs r) ++ (cU (eS rs) jss0 (it rs r)).2), s ∈ dp 0 (cz rs) ++ (bl kss0 ++ bl jss0) := fun s hs => List.mem_append.2 (hbo s hs)
 have hnewm : ∀ s ∈ bl kss0 ++ bl jss0, τ s ∈ bl kss ++ bl jss := fun s hs => by
  rw [← q2, ← q3, ← List.map_append]
  exact List.mem_map_of_mem hs
 have hoo : ∀ s ∈ bV (qX 0 (cz rs) kss0 (jB rs r) ++ (cU (eS rs) jss0 (it rs r)).2), ∀ s' ∈ bV (qX 0 (cz rs) kss0 (jB rs r) ++ (cU (eS rs) jss0 (it rs r)).2), τ s = τ s' → s = s' := fun s h1 s' h2 => hinjo s (hbo' s h1) s' (hbo' s' h2)
 have hfit : Yx τi τ (dW ps (bg 0 ps) x).2 (qX 0 (cz rs) kss0 (jB rs r) ++ (cU (eS rs) jss0 (it rs r)).2) (dp 0 (cz rs)) := by
  refine ⟨hii, hoo, fun s hs s' hs' e => ?_, fun s hs => ⟨hK.1 s hs, by rw [gU, List.mem_append]; exact .inl (c3 s hs), (hτK s hs).symm⟩⟩
  rcases hbo s' hs' with h1 | h1
  ·rw [hτK s' h1] at e
   have := hii s hs s' (hK.1 s' h1) e
   subst this
   exact ⟨rfl, h1⟩
  ·exact absurd e (n3 _ (by rw [← e1]; exact List.mem_map_of_mem (hdom s hs)) _ (hnewm s' h1))
 have hgo : oY ps iss = (oY ps (bg 0 ps)).map τi := by rw [← GR, e2]
 have hu : sG ps rs iss kss jss x r = lW τ (qX 0 (cz rs) kss0 (jB rs r) ++ (cU (eS rs) jss0 (it rs r)).2) ++ DS (lW τi (dW ps (bg 0 ps) x).2) (oY ps iss) := by
  unfold sG
  rw [hren]
  have h1 := Ke τi τ ps (cz rs) 0 iss kss0 x (jB rs r) hio hsi m1 hτK e2
  rw [b1] at h1
  have h2 := zE τ (eS rs) jss0 (it rs r)
  rw [b2] at h2
  rw [h1, h2, tf, List.append_assoc]
 refine ⟨τ, hfit, ⟨fun s B hs => ?_, fun s B hs hk => ?_, fun i B hB => ?_⟩, ?_, fun s hs hk => ?_⟩
 ·rw [hu, IK, CA hoo hs]
 ·have hm := oa hs
  obtain ⟨⟨e, k, es, rfl⟩, hg⟩ := hK.2 s B hm hk
  have hnone : lkU (lW τ (qX 0 (cz rs) kss0 (jB rs r) ++ (cU (eS rs) jss0 (it rs r)).2)) (τi s) = none := by
   cases hl : lkU (lW τ (qX 0 (cz rs) kss0 (jB rs r) ++ (cU (eS rs) jss0 (it rs r)).2)) (τi s) with
   | none => rfl
   | some C =>
    obtain ⟨s', h1, h2⟩ := tz hl
    exact absurd (hfit.io s (cR.2 ⟨_, hs⟩) s' h1 h2).2 hk
  refine ⟨e, k, es, es ++ [[]], rfl, ?_, by simp⟩
  rw [hu, IK, hnone]
  simp only
  rw [DR, if_pos (by rw [hgo]; exact List.mem_map_of_mem hg), CA hii hs]
  rfl
 ·rw [hu, IK] at hB
  split at hB
  ·rename_i C hC
   obtain ⟨s', h1, h2⟩ := tz hC
   exact .inl ⟨s', h1, h2⟩
  ·rw [DR] at hB
   split at hB
   ·rename_i hm
    rw [hgo] at hm
    obtain ⟨s, h1, h2⟩ := List.mem_map.1 hm
    exact .inr ⟨s, hfl s (DQ _ _ s h1), hgk s h1, h2.symm⟩
   ·cases hB
 ·have h2 := zE τ (eS rs) jss0 (it rs r)
  rw [b2] at h2
  rw [VU, h2]
 ·exact hnewm s ((hbo s hs).resolve_left hk)
theorem QB {P : Program} {T : List (Nat × Ent)} {n : Nat} {ps rs : List PT} {vars : List ResultVar} {fz : List (Nat × List Nat)} {sc : List Nat} {fb : List (Nat × List Nat)} {h : s6} {f : FuncId} {fn : Func} {c : Code} (hT : p8 P T) (hm : P.follows .mixedOrders = true) (hf : P.funcs[f]? = some fn) (hb : fn.body = some c) (hcb : eg P f = true) (hn : fn.ntmps = n) (hv : fn.results.toList = vars)
  (hl : (decide (ps.length ≤ n) && (rL ps && (ol rs && (Nk ps (cz rs) && (rM (bl (bg 0 ps)) && Hb (oY ps (bg 0 ps)) (dp 0 (cz rs))))))) = true)
  {F : cG ps → Option (bf rs)} (hlen : ∀ x r, F x = some r → KN ps (cz rs) x (jB rs r)) (hF : ∀ x, PJ ⟨P, T, n, rs, vars, fz, sc, fb⟩ c h ps x = F x) : bQ P f ps rs F := by
 intro x r hx
 simp only [Bool.and_eq_true] at hl
 obtain ⟨hl1, hl2, hl3, hl4, hl5, hl6⟩ := hl
 refine ⟨fun hnM => (by rw [Bool.or_eq_false_iff, hl3] at hnM; cases hnM.2), fun _ => ?_⟩
 have hln := hlen x r hx
 rw [← hF] at hx
 have hlen := zd hl1
 subst hn
 unfold PJ at hx
 split at hx
 rotate_left
 ·cases hx
 rename_i vs bx hen
 obtain ⟨hnd, hx⟩ := an hx
 have hseen : vk bx bx := by have := Ct (l' := []) (iH hnd); rw [List.append_nil] at this; exact this
 obtain ⟨hal, hargs⟩ := D8 (G := []) hl2 hen hseen
 have halen : (dW ps (bg 0 ps) x).1.length = ps.length := by
  have : ∀ (ps : List PT) (i : Nat) (x : cG ps), (dW ps (bg i ps) x).1.length = ps.length := fun ps => by
   induction ps with
   | nil => intro i x; rfl
   | cons p ps ih => intro i x; simp only [bg, dW, List.length_cons, ih]
  exact this ps 0 x
 refine Wx hl4 hln (iH hl5) (fun s hs hk => ?_) ?_
 ·have := sa hl6 s (dN.2 hs)
  rw [xJ] at this
  exact this hk
 refine Rk hf hb hcb (by rw [halen]; exact hlen) (KR _ 0) ?_
 have hs : gD ⟨Ar 0 vs, bx, [], false, []⟩ ⟨l6 (dW ps (bg 0 ps) x).1, lkU (dW ps (bg 0 ps) x).2⟩ := by
  refine ⟨fun i => ?_, fun t b hbl => ?_⟩
  ·show a8 bx (lkV (Ar 0 vs) i) (l6 (dW ps (bg 0 ps) x).1 i)
   have := Jl vs 0 i
   rw [Nat.zero_add] at this
   rw [this]
   unfold l6
   cases h1 : vs[i]? with
   | none => exact .junk _
   | some v =>
    have hlt : i < (dW ps (bg 0 ps) x).1.length := by rw [← hargs.len]; exact (zg.1 h1).1
    rw [zq hlt]
    exact hargs.rep i v _ h1 (zq hlt)
  ·show lU bx true (some b) (lkU (dW ps (bg 0 ps) x).2 t)
   have hbl : lkB bx t = some b := hbl
   rcases Tj hal [] t with ⟨_, sb, b', m2, m3, m4, _⟩ | ⟨_, m2, _⟩
   ·rw [List.append_nil, hbl] at m2
    rw [m3]
    exact m4 b m2.symm
   ·rw [List.append_nil, hbl] at m2
    cases m2
 have hpr : lO ⟨Ar 0 vs, bx, [], false, []⟩ := fun t ht => by cases ht
 have fin : ∀ {e : Exit} {p' : PS}, (match e with | .normal => True | .ret => True | _ => False) → QK ⟨P, T, fn.ntmps, rs, vars, fz, sc, fb⟩ fn p' r → Yt P fn (dp 0 (cz rs)) (fun q bo => ∃ kss jss, jG (cz rs) kss ∧ ir (eS rs) jss ∧ (dp 0 (cz rs) ++ (bl kss ++ bl jss)).Nodup ∧ q = xE (cU (eS rs) jss (it rs r)).1 ∧ bo = qX 0 (cz rs) kss (jB rs r) ++ (cU (eS rs) jss (it rs r)).2) e p' := fun {e p'} he hr => by
  obtain ⟨kss, jss, m1, m2, m3, ⟨q, m4, m5⟩, m6⟩ := hr.2 hl3
  have m1 : jG (cz rs) kss := m1
  have m2 : ir (eS rs) jss := m2
  have m5 : pN q = xE (cU (eS rs) jss (it rs r)).1 := m5
  obtain ⟨c1, c2, c3⟩ := ED (cz rs) 0 kss (jB rs r) m1
  obtain ⟨d1, d2⟩ := CV (eS rs) jss (it rs r)
  refine ⟨he, _, _, ⟨kss, jss, m1, m2, m3, rfl, rfl⟩, fun t ht => by rw [gU, List.mem_append]; exact .inl (c3 t ht), fun s hs => ?_, (c1.app d2).u, ⟨q, m4, m5⟩, fun t B ht => m6 t B (oa ht)⟩
  rw [gU, List.mem_append]
  exact .inr (d1 s (TM _ s hs))
 refine fm (oh (C := ⟨P, T, fn.ntmps, rs, vars, fz, sc, fb⟩) (fn := fn) hT hm hv c h _ _ _ _ _ r hpr hs hx) fun e p' hq => ?_
 by_cases he : e = .ret
 ·subst he
  obtain ⟨r', h1, h3⟩ := hq
  injection h3 with h3
  subst h3
  exact ⟨p', .refl _, fin trivial h1⟩
 ·obtain ⟨s', m1, m2, m3⟩ := pR he hq
  cases e with
  | normal =>
   obtain ⟨p2, h1, h2⟩ := Qb (C := ⟨P, T, fn.ntmps, rs, vars, fz, sc, fb⟩) hv (xz (m2.prOk hpr)) (qG m1) m3
   exact ⟨p2, (zX m1).trans h1, fin trivial h2⟩
  | ret => exact absurd rfl he
  | _ => cases m3
theorem VQ {w : World} {B e k n : Nat} {v : Value} {xs : List Value} (h : w.ownsRow B e k v n xs) : w.ownsRow 0 e k v n xs ∧ ∀ g, blk v = some g → B ≤ g := by
 refine ⟨⟨h.1, ?_⟩, fun g hg => ?_⟩
 ·rcases h.2 with hn | ⟨g, cap, cur, rfl, hb, hr⟩
  ·exact .inl hn
  ·exact .inr ⟨g, cap, cur, rfl, Nat.zero_le _, hr⟩
 ·rcases h.2 with ⟨rfl, _⟩ | ⟨g', cap, cur, rfl, hb, hr⟩
  ·cases hg
  ·injection hg with hg; subst hg; exact hb
theorem Ww {P : Program} {f : FuncId} {ty : Ty} {e k : Nat} {F : List ty.den → Option (List ty.den)} (hk : tyN ty = k) (hk0 : 0 < k) (hcall : eg P f = true)
  (H : ∀ (xs zs : List ty.den) (w : World) (G : Nat → Prop) (v : Value), F xs = some zs → (∀ g, G g → g < w.heap.size) → ec w G v (.sl (xs.map (bJ ty))) → Calls P f #[v] w fun en w' => ∃ v' us, en = .returned v' ∧ w'.ownsRow w.heap.size e k v' zs.length us ∧ Ext w w' ∧ us.length = zs.length * k ∧ ∀ (j : Nat) u d, us[j]? = some u → (zs.map (bJ ty)).flatten[j]? = some d → ec w G u d) :
  bQ P f [.lf (.sl ty)] [.io [.no], .own e k ty] (fun x => (F x.1).bind fun z => some (((), ()), z)) := by
 rintro ⟨xs, ⟨⟩⟩ zz hF
 change List ty.den at xs
 obtain ⟨zs, hz, hF⟩ := ar hF
 injection hF with hF
 subst hF
 refine ⟨fun h => (by cases h), fun _ => ⟨⟨trivial, trivial⟩, fun iss kss jss h1 h2 h3 h4 h5 h6 => ⟨hcall, ?_⟩⟩⟩
 match iss, h1 with
 | [is], h1 =>
 match is, h1.1 with
 | [], _ =>
 match kss, h2 with
 | [ks], h2 =>
 match ks, h2.1 with
 | [], _ =>
 match jss, h3 with
 | [js], h3 =>
 match js, h3.1 with
 | [j], _ =>
 intro w0 F0 ρ b w G vs args ha hb0 hb hi hr
 have hj : j < 1000000 := h5 j (by simp [bl])
 have hbj : b j = none := hb j (by simp [bl])
 have hal : args.length = 1 := by rw [← ib args, ha]; rfl
 match args, hal with
 | [a], _ =>
 have ha : pN a = .d (.sl (xs.map (bJ ty))) := by
  simp only [dM, dW, toI, List.cons.injEq] at ha
  exact ha.1
 have hvl : vs.toList.length = 1 := hr.len
 obtain ⟨v, hv⟩ : ∃ v, vs = #[v] := by
  match hv : vs.toList, hvl with
  | [v], _ => exact ⟨v, by apply Array.ext'; simpa using hv⟩
 subst hv
 have hrep := (hr.rep 0 v a rfl rfl).nrmd
 rw [ha] at hrep
 have hd : ec w G v (.sl (xs.map (bJ ty))) := by
  cases hrep with
  | d _ _ h => exact h
 refine (H xs zs w G v hz hi.flt hd).mono ?_
 rintro en w' ⟨v', us, rfl, ho, hx, hl, hu⟩
 obtain ⟨ho0, hbase⟩ := VQ ho
 have hzl : ∀ x ∈ zs.map (bJ ty), x.length = k := fun x hx => by
  obtain ⟨y, _, rfl⟩ := List.mem_map.1 hx
  rw [o7, hk]
 have := Dv (P := P) (t := j) (e := e) (k := k) (es := zs.map (bJ ty)) (xs := us) (v := v') (w' := w') hi hj hbj hk0 hx hbase (by rw [List.length_map]; exact ho0) hzl (by rw [hl, cP k _ hzl, List.length_map]) hu
 obtain ⟨v2, w2, ρ', e1, k1, k2, k3⟩ := this
 injection e1 with e1 e2
 subst e1 e2
 have hU : dF b (sG [.lf (.sl ty)] [.io [.no], .own e k ty] [[]] [[]] [[j]] (xs, ()) (((), ()), zs)) = dm b (some (j, .rw e k (zs.map (bJ ty)))) := by
  rw [← Ap]; rfl
 rw [hU]
 refine ⟨v', ρ', G, rfl, k1, k2, ?_⟩
 rw [List.length_map] at k3
 exact k3
theorem Wv {P : Program} {f : FuncId} {F : cG [.lf .str] → Option (bf [.lf .str])} (hcall : eg P f = true)
  (H : ∀ (x z : ByteArray) (w : World), F (x, ()) = some z → Calls P f #[.string x] w fun en w' => en = .returned (.string z) ∧ Ext w w') : bQ P f [.lf .str] [.lf .str] F := by
 rintro ⟨x, ⟨⟩⟩ z hF
 refine ⟨fun _ => ⟨hcall, fun w G vs hG hr => ?_⟩, fun h => (by cases h)⟩
 have hvl : vs.toList.length = 1 := hr.len
 obtain ⟨v, hv⟩ : ∃ v, vs = #[v] := by
  match hv : vs.toList, hvl with
  | [v], _ => exact ⟨v, by apply Array.ext'; simpa using hv⟩
 subst hv
 obtain ⟨rfl, _⟩ := aL.vv (hr.rep 0 v _ rfl rfl)
 refine (H x z w hF).mono ?_
 rintro en w' ⟨rfl, hx⟩
 exact ⟨_, G, rfl, hx, fun _ h => h, fun g hg => Nat.lt_of_lt_of_le (hG g hg) hx.size, fun _ h => .inl h, .d _ _ (.v _ rfl)⟩
theorem kO {w w' : World} {base : Nat} {e : TypeId} {k : Nat} {v : Value} {n : Nat} {xs : List Value} (h : w.ownsRow base e k v n xs) (x : Ext w w') : w'.ownsRow base e k v n xs := by
 refine ⟨h.1, ?_⟩
 rcases h.2 with hn | ⟨g, cap, cur, rfl, hb, hg, hr⟩
 ·exact .inl hn
 ·exact .inr ⟨g, cap, cur, rfl, hb, (x.block g (Array.getElem?_eq_some_iff.1 hg).1).trans hg, hr⟩
def RdK (k : Nat) (w : World) (v : Value) (n : Nat) (xs : List Value) : Prop :=
 ∃ A c, v = .slice A n c ∧ n ≤ c ∧ c ≤ maxLen ∧ xs.length = n * k ∧ (0 < xs.length → ∃ a, A = some a ∧ a.block < w.heap.size ∧ ∀ j u, xs[j]? = some u → w.cell? (a.add j) = some u)
theorem RdK.of_own {k : Nat} {w : World} {base : Nat} {e : TypeId} {v : Value} {n : Nat} {xs : List Value} (h : w.ownsRow base e k v n xs) : RdK k w v n xs := by
 have hl := h.1
 rcases h.2 with ⟨rfl, h0⟩ | ⟨g, cap, cur, rfl, _, hg, hc, hm, _⟩
 ·subst h0; exact ⟨none, 0, rfl, Nat.le_refl _, by simp [maxLen], hl, fun hn => by omega⟩
 ·exact ⟨_, cap, rfl, hc, hm, hl, fun hn => ⟨⟨g, 0, none⟩, rfl, (Array.getElem?_eq_some_iff.1 hg).1, h.cells (g := g) rfl⟩⟩
theorem cH {w : World} {B e k n : Nat} {v : Value} {xs : List Value} (h : w.ownsRow B e k v n xs) : ∃ A c, v = .slice A n c ∧ n ≤ c ∧ c ≤ 9223372036854775807 := by
 rcases h.2 with ⟨rfl, h0⟩ | ⟨g, cap, cur, rfl, _, _, hc, hm, _⟩
 ·subst h0; exact ⟨none, 0, rfl, Nat.le_refl _, by omega⟩
 ·unfold maxLen at hm; exact ⟨_, cap, rfl, hc, by omega⟩
theorem EA (w : World) (x y z : Value) (t : TypeId) : ∀ j u, [x, y, z][j]? = some u → (w.alloc (.cells #[x, y, z] t)).cell? ((⟨w.heap.size, 0, none⟩ : Addr).add j) = some u := by
 intro j u hu
 have hadd : (⟨w.heap.size, 0, none⟩ : Addr).add j = ⟨w.heap.size, j, none⟩ := by unfold Addr.add; split <;> simp_all
 rw [hadd, cell_of_row _ w.heap.size j _ t (0, 0) (heap_alloc_new w _), ← Array.getElem?_toList]
 exact hu
theorem Xo {w : World} {B B' e e' k k' n n' : Nat} {v v' : Value} {xs xs' : List Value} (h : w.ownsRow B e k v n xs) (h' : w.ownsRow B' e' k' v' n' xs') (he : e ≠ e') : v.ownBlock = none ∨ v.ownBlock ≠ v'.ownBlock := by
 rcases h.2 with ⟨rfl, _⟩ | ⟨g, cap, cur, rfl, _, hg, _⟩
 ·exact .inl rfl
 ·refine .inr fun e1 => ?_
  rcases h'.2 with ⟨rfl, _⟩ | ⟨g', cap', cur', rfl, _, hg', _⟩
  ·cases e1
  ·simp [Value.ownBlock] at e1
   subst e1
   rw [hg] at hg'
   injection hg' with hg'
   injection hg' with _ h2
   exact he h2
theorem fo (W : World) (B : Nat) (e : TypeId) (k : Nat) (h : B ≤ W.heap.size) : (W.alloc (.cells #[] e)).ownsRow B e k (.slice (some ⟨W.heap.size, 0, none⟩) 0 0) 0 [] :=
 ⟨by simp, .inr ⟨W.heap.size, 0, #[], rfl, h, heap_alloc_new W _, Nat.le_refl _, by simp [maxLen], by simp, by simp⟩⟩
section
section
variable {P : Program} (w : World)
end
end
def gv (k : Nat) (t : TypeId) (n : Nat) (xs : List Value) (w : World) (e : Ending) (w' : World) : Prop := ∃ A' c', e = .returned (.slice A' n c') ∧ w'.ownsRow w.heap.size t k (.slice A' n c') n xs ∧ Ext w w'
theorem Tryz.infoClNode : (prog.info? 29).map (fun i => (i.zero, i.size, i.bytes)) = some (some (.agg #[.int .i64 0, .int .i64 0, .int .i64 0, .int .i64 0, .int .i64 0, .int .i64 0, .int .i64 0, .bool false]), 8, 64) := by kernel_rfl
theorem FO (v : Value) (n : Nat) (xs : List Value) (w : World) (h : RdK 8 w v n xs) (h1 : ∀ u ∈ xs, u.oneCell' = true) (h2 : n ≤ 1000000) :
  Calls prog 61 #[v] w (gv 8 29 n xs w) := by
 obtain ⟨c0, hc, hcz0, hcz1, hcz2⟩ := info_parts Tryz.infoClNode
 obtain ⟨A, c, rfl, hc1, hc2, hl, hcell⟩ := h
 have hn := fun (W : World) (A : Option Addr) (n c n' c' : Nat) => Lib.run_eql_slice_nil (P := prog) W 35 29 A n c n' c' Tryz.underlying35
 have HL := Lib.hid hl
 have H1 := Lib.hid h1
 cases A with
 | none =>
  have hx : xs = [] := by
   rcases xs with _ | ⟨x, xs⟩
   ·rfl
   ·obtain ⟨a, e, _⟩ := hcell (by simp)
    cases e
  subst hx
  have hn0 : n = 0 := by simp at hl; omega
  subst hn0
  clear hcell hl
  go_enter Tryz.func61, Tryz.ntmps61
  go_wp2
  go_ret
  exact ⟨none, 0, rfl, World.ownsRow_nil _ _ _ 8, Ext.refl _⟩
 | some a =>
  have HO := Lib.hid (fo w w.heap.size 29 8 (Nat.le_refl _))
  have HCS := Lib.hid (show ∀ (j : Nat) (u : Value), xs[j]? = some u → (w.alloc (.cells #[] 29)).cell? (a.add j) = some u from fun j u hu => by
   obtain ⟨a', e, hb, hcs⟩ := hcell (by have := (zg.1 hu).1; omega)
   obtain rfl : a = a' := Option.some.inj e
   exact (Below.cell (aN w _) (p := a.add j) (by rw [db]; exact hb)).trans (hcs j u hu))
  clear hcell hl h1
  go_enter Tryz.func61, Tryz.ntmps61
  go_wp2_with (at_builtin; go_loud (refine wpList_append_own_at _ rfl (.tmp 5) (.tmp 6) 35 rfl w.heap.size 29 c0 _ 8 64 Tryz.underlying35 hc hcz0 hcz1 hcz2 rfl (by decide) _ 0 [] rfl HO.out a n c xs rfl HL.out HCS.out H1.out ?c3 ?c4 ?c5 ?_))
  case c3 => simp [maxLen]; omega
  case c4 => omega
  case c5 => simp
  intro v' w3 ho3 hg3 _ hat3
  have HE := Lib.hid ((aN w (.cells #[] 29)).trans' (cO hg3 (by simp) (fun k hk => by simp [Value.ownBlock] at hk; omega)))
  have HO3 := Lib.hid ho3
  obtain ⟨A3, c3, rfl, _, _⟩ := cH ho3
  clear ho3 hg3 hat3
  go_wp2
  go_ret
  exact ⟨_, _, rfl, HO3.out, HE.out⟩
theorem Tryz.infoClCont : (prog.info? 86).map (fun i => (i.zero, i.size, i.bytes)) = some (some (.agg #[.int .i64 0, .int .i64 0, .int .i64 0, .int .i64 0, .int .i64 0, .int .i64 0, .int .i64 0, .bool false, .int .i64 0]), 9, 72) := by kernel_rfl
theorem FP (v : Value) (n : Nat) (xs : List Value) (w : World) (h : RdK 9 w v n xs) (h1 : ∀ u ∈ xs, u.oneCell' = true) (h2 : n ≤ 1000000) :
  Calls prog 64 #[v] w (gv 9 86 n xs w) := by
 obtain ⟨c0, hc, hcz0, hcz1, hcz2⟩ := info_parts Tryz.infoClCont
 obtain ⟨A, c, rfl, hc1, hc2, hl, hcell⟩ := h
 have hn := fun (W : World) (A : Option Addr) (n c n' c' : Nat) => Lib.run_eql_slice_nil (P := prog) W 37 86 A n c n' c' Tryz.underlying37
 have HL := Lib.hid hl
 have H1 := Lib.hid h1
 cases A with
 | none =>
  have hx : xs = [] := by
   rcases xs with _ | ⟨x, xs⟩
   ·rfl
   ·obtain ⟨a, e, _⟩ := hcell (by simp)
    cases e
  subst hx
  have hn0 : n = 0 := by simp at hl; omega
  subst hn0
  clear hcell hl
  go_enter Tryz.func64, Tryz.ntmps64
  go_wp2
  go_ret
  exact ⟨none, 0, rfl, World.ownsRow_nil _ _ _ 9, Ext.refl _⟩
 | some a =>
  have HO := Lib.hid (fo w w.heap.size 86 9 (Nat.le_refl _))
  have HCS := Lib.hid (show ∀ (j : Nat) (u : Value), xs[j]? = some u → (w.alloc (.cells #[] 86)).cell? (a.add j) = some u from fun j u hu => by
   obtain ⟨a', e, hb, hcs⟩ := hcell (by have := (zg.1 hu).1; omega)
   obtain rfl : a = a' := Option.some.inj e
   exact (Below.cell (aN w _) (p := a.add j) (by rw [db]; exact hb)).trans (hcs j u hu))
  clear hcell hl h1
  go_enter Tryz.func64, Tryz.ntmps64
  go_wp2_with (at_builtin; go_loud (refine wpList_append_own_at _ rfl (.tmp 5) (.tmp 6) 37 rfl w.heap.size 86 c0 _ 9 72 Tryz.underlying37 hc hcz0 hcz1 hcz2 rfl (by decide) _ 0 [] rfl HO.out a n c xs rfl HL.out HCS.out H1.out ?c3 ?c4 ?c5 ?_))
  case c3 => simp [maxLen]; omega
  case c4 => omega
  case c5 => simp
  intro v' w3 ho3 hg3 _ hat3
  have HE := Lib.hid ((aN w (.cells #[] 86)).trans' (cO hg3 (by simp) (fun k hk => by simp [Value.ownBlock] at hk; omega)))
  have HO3 := Lib.hid ho3
  obtain ⟨A3, c3, rfl, _, _⟩ := cH ho3
  clear ho3 hg3 hat3
  go_wp2
  go_ret
  exact ⟨_, _, rfl, HO3.out, HE.out⟩
theorem Tryz.infoClSlot : (prog.info? 88).map (fun i => (i.zero, i.size, i.bytes)) = some (some (.agg #[.int .i64 0, .int .i64 0, .int .i64 0]), 3, 24) := by kernel_rfl
theorem FL (v : Value) (n : Nat) (xs : List Value) (w : World) (h : RdK 3 w v n xs) (h1 : ∀ u ∈ xs, u.oneCell' = true) (h2 : n ≤ 1000000) :
  Calls prog 65 #[v] w (gv 3 88 n xs w) := by
 obtain ⟨c0, hc, hcz0, hcz1, hcz2⟩ := info_parts Tryz.infoClSlot
 obtain ⟨A, c, rfl, hc1, hc2, hl, hcell⟩ := h
 have hn := fun (W : World) (A : Option Addr) (n c n' c' : Nat) => Lib.run_eql_slice_nil (P := prog) W 38 88 A n c n' c' Tryz.underlying38
 have HL := Lib.hid hl
 have H1 := Lib.hid h1
 cases A with
 | none =>
  have hx : xs = [] := by
   rcases xs with _ | ⟨x, xs⟩
   ·rfl
   ·obtain ⟨a, e, _⟩ := hcell (by simp)
    cases e
  subst hx
  have hn0 : n = 0 := by simp at hl; omega
  subst hn0
  clear hcell hl
  go_enter Tryz.func65, Tryz.ntmps65
  go_wp2
  go_ret
  exact ⟨none, 0, rfl, World.ownsRow_nil _ _ _ 3, Ext.refl _⟩
 | some a =>
  have HO := Lib.hid (fo w w.heap.size 88 3 (Nat.le_refl _))
  have HCS := Lib.hid (show ∀ (j : Nat) (u : Value), xs[j]? = some u → (w.alloc (.cells #[] 88)).cell? (a.add j) = some u from fun j u hu => by
   obtain ⟨a', e, hb, hcs⟩ := hcell (by have := (zg.1 hu).1; omega)
   obtain rfl : a = a' := Option.some.inj e
   exact (Below.cell (aN w _) (p := a.add j) (by rw [db]; exact hb)).trans (hcs j u hu))
  clear hcell hl h1
  go_enter Tryz.func65, Tryz.ntmps65
  go_wp2_with (at_builtin; go_loud (refine wpList_append_own_at _ rfl (.tmp 5) (.tmp 6) 38 rfl w.heap.size 88 c0 _ 3 24 Tryz.underlying38 hc hcz0 hcz1 hcz2 rfl (by decide) _ 0 [] rfl HO.out a n c xs rfl HL.out HCS.out H1.out ?c3 ?c4 ?c5 ?_))
  case c3 => simp [maxLen]; omega
  case c4 => omega
  case c5 => simp
  intro v' w3 ho3 hg3 _ hat3
  have HE := Lib.hid ((aN w (.cells #[] 88)).trans' (cO hg3 (by simp) (fun k hk => by simp [Value.ownBlock] at hk; omega)))
  have HO3 := Lib.hid ho3
  obtain ⟨A3, c3, rfl, _, _⟩ := cH ho3
  clear ho3 hg3 hat3
  go_wp2
  go_ret
  exact ⟨_, _, rfl, HO3.out, HE.out⟩
theorem Tryz.infoClPlan : (prog.info? 72).map (fun i => (i.zero, i.size, i.bytes)) = some (some (.agg #[.int .i64 0, .int .i64 0, .int .i64 0, .int .i64 0, .int .i64 0, .int .i64 0]), 6, 48) := by kernel_rfl
theorem FM (v : Value) (n : Nat) (xs : List Value) (w : World) (h : RdK 6 w v n xs) (h1 : ∀ u ∈ xs, u.oneCell' = true) (h2 : n ≤ 1000000) :
  Calls prog 66 #[v] w (gv 6 72 n xs w) := by
 obtain ⟨c0, hc, hcz0, hcz1, hcz2⟩ := info_parts Tryz.infoClPlan
 obtain ⟨A, c, rfl, hc1, hc2, hl, hcell⟩ := h
 have hn := fun (W : World) (A : Option Addr) (n c n' c' : Nat) => Lib.run_eql_slice_nil (P := prog) W 39 72 A n c n' c' Tryz.underlying39
 have HL := Lib.hid hl
 have H1 := Lib.hid h1
 cases A with
 | none =>
  have hx : xs = [] := by
   rcases xs with _ | ⟨x, xs⟩
   ·rfl
   ·obtain ⟨a, e, _⟩ := hcell (by simp)
    cases e
  subst hx
  have hn0 : n = 0 := by simp at hl; omega
  subst hn0
  clear hcell hl
  go_enter Tryz.func66, Tryz.ntmps66
  go_wp2
  go_ret
  exact ⟨none, 0, rfl, World.ownsRow_nil _ _ _ 6, Ext.refl _⟩
 | some a =>
  have HO := Lib.hid (fo w w.heap.size 72 6 (Nat.le_refl _))
  have HCS := Lib.hid (show ∀ (j : Nat) (u : Value), xs[j]? = some u → (w.alloc (.cells #[] 72)).cell? (a.add j) = some u from fun j u hu => by
   obtain ⟨a', e, hb, hcs⟩ := hcell (by have := (zg.1 hu).1; omega)
   obtain rfl : a = a' := Option.some.inj e
   exact (Below.cell (aN w _) (p := a.add j) (by rw [db]; exact hb)).trans (hcs j u hu))
  clear hcell hl h1
  go_enter Tryz.func66, Tryz.ntmps66
  go_wp2_with (at_builtin; go_loud (refine wpList_append_own_at _ rfl (.tmp 5) (.tmp 6) 39 rfl w.heap.size 72 c0 _ 6 48 Tryz.underlying39 hc hcz0 hcz1 hcz2 rfl (by decide) _ 0 [] rfl HO.out a n c xs rfl HL.out HCS.out H1.out ?c3 ?c4 ?c5 ?_))
  case c3 => simp [maxLen]; omega
  case c4 => omega
  case c5 => simp
  intro v' w3 ho3 hg3 _ hat3
  have HE := Lib.hid ((aN w (.cells #[] 72)).trans' (cO hg3 (by simp) (fun k hk => by simp [Value.ownBlock] at hk; omega)))
  have HO3 := Lib.hid ho3
  obtain ⟨A3, c3, rfl, _, _⟩ := cH ho3
  clear ho3 hg3 hat3
  go_wp2
  go_ret
  exact ⟨_, _, rfl, HO3.out, HE.out⟩
theorem Tryz.infoClStr : (prog.info? 9).map (fun i => (i.zero, i.size, i.bytes)) = some (some (.string ⟨#[]⟩), 1, 16) := by kernel_rfl
theorem I9 (v : Value) (n : Nat) (xs : List Value) (w : World) (h : RdK 1 w v n xs) (h1 : ∀ u ∈ xs, u.oneCell' = true) (h2 : n ≤ 1000000) :
  Calls prog 125 #[v] w (gv 1 9 n xs w) := by
 obtain ⟨c0, hc, hcz0, hcz1, hcz2⟩ := info_parts Tryz.infoClStr
 obtain ⟨A, c, rfl, hc1, hc2, hl, hcell⟩ := h
 have hn := fun (W : World) (A : Option Addr) (n c n' c' : Nat) => Lib.run_eql_slice_nil (P := prog) W 31 9 A n c n' c' Tryz.underlying31
 have HL := Lib.hid hl
 have H1 := Lib.hid h1
 cases A with
 | none =>
  have hx : xs = [] := by
   rcases xs with _ | ⟨x, xs⟩
   ·rfl
   ·obtain ⟨a, e, _⟩ := hcell (by simp)
    cases e
  subst hx
  have hn0 : n = 0 := by simp at hl; omega
  subst hn0
  clear hcell hl
  go_enter Tryz.func125, Tryz.ntmps125
  go_wp2
  go_ret
  exact ⟨none, 0, rfl, World.ownsRow_nil _ _ _ 1, Ext.refl _⟩
 | some a =>
  have HO := Lib.hid (fo w w.heap.size 9 1 (Nat.le_refl _))
  have HCS := Lib.hid (show ∀ (j : Nat) (u : Value), xs[j]? = some u → (w.alloc (.cells #[] 9)).cell? (a.add j) = some u from fun j u hu => by
   obtain ⟨a', e, hb, hcs⟩ := hcell (by have := (zg.1 hu).1; omega)
   obtain rfl : a = a' := Option.some.inj e
   exact (Below.cell (aN w _) (p := a.add j) (by rw [db]; exact hb)).trans (hcs j u hu))
  clear hcell hl h1
  go_enter Tryz.func125, Tryz.ntmps125
  go_wp2_with (at_builtin; go_loud (refine wpList_append_own_at _ rfl (.tmp 5) (.tmp 6) 31 rfl w.heap.size 9 c0 _ 1 16 Tryz.underlying31 hc hcz0 hcz1 hcz2 rfl (by decide) _ 0 [] rfl HO.out a n c xs rfl HL.out HCS.out H1.out ?c3 ?c4 ?c5 ?_))
  case c3 => simp [maxLen]; omega
  case c4 => omega
  case c5 => simp
  intro v' w3 ho3 hg3 _ hat3
  have HE := Lib.hid ((aN w (.cells #[] 9)).trans' (cO hg3 (by simp) (fun k hk => by simp [Value.ownBlock] at hk; omega)))
  have HO3 := Lib.hid ho3
  obtain ⟨A3, c3, rfl, _, _⟩ := cH ho3
  clear ho3 hg3 hat3
  go_wp2
  go_ret
  exact ⟨_, _, rfl, HO3.out, HE.out⟩
theorem Tryz.infoClQueue : (prog.info? 99).map (fun i => (i.zero, i.size, i.bytes)) = some (some (.agg #[.string ⟨#[]⟩, .slice none 0 0, .int .i64 0]), 3, 48) := by kernel_rfl
theorem Ev (v : Value) (n : Nat) (xs : List Value) (w : World) (h : RdK 3 w v n xs) (h1 : ∀ u ∈ xs, u.oneCell' = true) (h2 : n ≤ 1000000) :
  Calls prog 127 #[v] w (gv 3 99 n xs w) := by
 obtain ⟨c0, hc, hcz0, hcz1, hcz2⟩ := info_parts Tryz.infoClQueue
 obtain ⟨A, c, rfl, hc1, hc2, hl, hcell⟩ := h
 have hn := fun (W : World) (A : Option Addr) (n c n' c' : Nat) => Lib.run_eql_slice_nil (P := prog) W 32 99 A n c n' c' Tryz.underlying32
 have HL := Lib.hid hl
 have H1 := Lib.hid h1
 cases A with
 | none =>
  have hx : xs = [] := by
   rcases xs with _ | ⟨x, xs⟩
   ·rfl
   ·obtain ⟨a, e, _⟩ := hcell (by simp)
    cases e
  subst hx
  have hn0 : n = 0 := by simp at hl; omega
  subst hn0
  clear hcell hl
  go_enter Tryz.func127, Tryz.ntmps127
  go_wp2
  go_ret
  exact ⟨none, 0, rfl, World.ownsRow_nil _ _ _ 3, Ext.refl _⟩
 | some a =>
  have HO := Lib.hid (fo w w.heap.size 99 3 (Nat.le_refl _))
  have HCS := Lib.hid (show ∀ (j : Nat) (u : Value), xs[j]? = some u → (w.alloc (.cells #[] 99)).cell? (a.add j) = some u from fun j u hu => by
   obtain ⟨a', e, hb, hcs⟩ := hcell (by have := (zg.1 hu).1; omega)
   obtain rfl : a = a' := Option.some.inj e
   exact (Below.cell (aN w _) (p := a.add j) (by rw [db]; exact hb)).trans (hcs j u hu))
  clear hcell hl h1
  go_enter Tryz.func127, Tryz.ntmps127
  go_wp2_with (at_builtin; go_loud (refine wpList_append_own_at _ rfl (.tmp 5) (.tmp 6) 32 rfl w.heap.size 99 c0 _ 3 48 Tryz.underlying32 hc hcz0 hcz1 hcz2 rfl (by decide) _ 0 [] rfl HO.out a n c xs rfl HL.out HCS.out H1.out ?c3 ?c4 ?c5 ?_))
  case c3 => simp [maxLen]; omega
  case c4 => omega
  case c5 => simp
  intro v' w3 ho3 hg3 _ hat3
  have HE := Lib.hid ((aN w (.cells #[] 99)).trans' (cO hg3 (by simp) (fun k hk => by simp [Value.ownBlock] at hk; omega)))
  have HO3 := Lib.hid ho3
  obtain ⟨A3, c3, rfl, _, _⟩ := cH ho3
  clear ho3 hg3 hat3
  go_wp2
  go_ret
  exact ⟨_, _, rfl, HO3.out, HE.out⟩
theorem Tryz.infoClCap : (prog.info? 96).map (fun i => (i.zero, i.size, i.bytes)) = some (some (.agg #[.int .i64 0, .int .i64 0]), 2, 16) := by kernel_rfl
theorem Jb (v : Value) (n : Nat) (xs : List Value) (w : World) (h : RdK 2 w v n xs) (h1 : ∀ u ∈ xs, u.oneCell' = true) (h2 : n ≤ 1000000) :
  Calls prog 128 #[v] w (gv 2 96 n xs w) := by
 obtain ⟨c0, hc, hcz0, hcz1, hcz2⟩ := info_parts Tryz.infoClCap
 obtain ⟨A, c, rfl, hc1, hc2, hl, hcell⟩ := h
 have hn := fun (W : World) (A : Option Addr) (n c n' c' : Nat) => Lib.run_eql_slice_nil (P := prog) W 97 96 A n c n' c' Tryz.underlying97
 have HL := Lib.hid hl
 have H1 := Lib.hid h1
 cases A with
 | none =>
  have hx : xs = [] := by
   rcases xs with _ | ⟨x, xs⟩
   ·rfl
   ·obtain ⟨a, e, _⟩ := hcell (by simp)
    cases e
  subst hx
  have hn0 : n = 0 := by simp at hl; omega
  subst hn0
  clear hcell hl
  go_enter Tryz.func128, Tryz.ntmps128
  go_wp2
  go_ret
  exact ⟨none, 0, rfl, World.ownsRow_nil _ _ _ 2, Ext.refl _⟩
 | some a =>
  have HO := Lib.hid (fo w w.heap.size 96 2 (Nat.le_refl _))
  have HCS := Lib.hid (show ∀ (j : Nat) (u : Value), xs[j]? = some u → (w.alloc (.cells #[] 96)).cell? (a.add j) = some u from fun j u hu => by
   obtain ⟨a', e, hb, hcs⟩ := hcell (by have := (zg.1 hu).1; omega)
   obtain rfl : a = a' := Option.some.inj e
   exact (Below.cell (aN w _) (p := a.add j) (by rw [db]; exact hb)).trans (hcs j u hu))
  clear hcell hl h1
  go_enter Tryz.func128, Tryz.ntmps128
  go_wp2_with (at_builtin; go_loud (refine wpList_append_own_at _ rfl (.tmp 5) (.tmp 6) 97 rfl w.heap.size 96 c0 _ 2 16 Tryz.underlying97 hc hcz0 hcz1 hcz2 rfl (by decide) _ 0 [] rfl HO.out a n c xs rfl HL.out HCS.out H1.out ?c3 ?c4 ?c5 ?_))
  case c3 => simp [maxLen]; omega
  case c4 => omega
  case c5 => simp
  intro v' w3 ho3 hg3 _ hat3
  have HE := Lib.hid ((aN w (.cells #[] 96)).trans' (cO hg3 (by simp) (fun k hk => by simp [Value.ownBlock] at hk; omega)))
  have HO3 := Lib.hid ho3
  obtain ⟨A3, c3, rfl, _, _⟩ := cH ho3
  clear ho3 hg3 hat3
  go_wp2
  go_ret
  exact ⟨_, _, rfl, HO3.out, HE.out⟩
theorem Tryz.infoClAsk : (prog.info? 122).map (fun i => (i.zero, i.size, i.bytes)) = some (some (.agg #[.int .i64 0, .int .i64 0, .int .i64 0, .int .i64 0, .int .i64 0, .int .i64 0, .int .i64 0, .int .i64 0]), 8, 64) := by kernel_rfl
theorem Jc (v : Value) (n : Nat) (xs : List Value) (w : World) (h : RdK 8 w v n xs) (h1 : ∀ u ∈ xs, u.oneCell' = true) (h2 : n ≤ 1000000) :
  Calls prog 106 #[v] w (gv 8 122 n xs w) := by
 obtain ⟨c0, hc, hcz0, hcz1, hcz2⟩ := info_parts Tryz.infoClAsk
 obtain ⟨A, c, rfl, hc1, hc2, hl, hcell⟩ := h
 have hn := fun (W : World) (A : Option Addr) (n c n' c' : Nat) => Lib.run_eql_slice_nil (P := prog) W 68 122 A n c n' c' Tryz.underlying68
 have HL := Lib.hid hl
 have H1 := Lib.hid h1
 cases A with
 | none =>
  have hx : xs = [] := by
   rcases xs with _ | ⟨x, xs⟩
   ·rfl
   ·obtain ⟨a, e, _⟩ := hcell (by simp)
    cases e
  subst hx
  have hn0 : n = 0 := by simp at hl; omega
  subst hn0
  clear hcell hl
  go_enter Tryz.func106, Tryz.ntmps106
  go_wp2
  go_ret
  exact ⟨none, 0, rfl, World.ownsRow_nil _ _ _ 8, Ext.refl _⟩
 | some a =>
  have HO := Lib.hid (fo w w.heap.size 122 8 (Nat.le_refl _))
  have HCS := Lib.hid (show ∀ (j : Nat) (u : Value), xs[j]? = some u → (w.alloc (.cells #[] 122)).cell? (a.add j) = some u from fun j u hu => by
   obtain ⟨a', e, hb, hcs⟩ := hcell (by have := (zg.1 hu).1; omega)
   obtain rfl : a = a' := Option.some.inj e
   exact (Below.cell (aN w _) (p := a.add j) (by rw [db]; exact hb)).trans (hcs j u hu))
  clear hcell hl h1
  go_enter Tryz.func106, Tryz.ntmps106
  go_wp2_with (at_builtin; go_loud (refine wpList_append_own_at _ rfl (.tmp 5) (.tmp 6) 68 rfl w.heap.size 122 c0 _ 8 64 Tryz.underlying68 hc hcz0 hcz1 hcz2 rfl (by decide) _ 0 [] rfl HO.out a n c xs rfl HL.out HCS.out H1.out ?c3 ?c4 ?c5 ?_))
  case c3 => simp [maxLen]; omega
  case c4 => omega
  case c5 => simp
  intro v' w3 ho3 hg3 _ hat3
  have HE := Lib.hid ((aN w (.cells #[] 122)).trans' (cO hg3 (by simp) (fun k hk => by simp [Value.ownBlock] at hk; omega)))
  have HO3 := Lib.hid ho3
  obtain ⟨A3, c3, rfl, _, _⟩ := cH ho3
  clear ho3 hg3 hat3
  go_wp2
  go_ret
  exact ⟨_, _, rfl, HO3.out, HE.out⟩
theorem Tryz.infoClInt : (prog.info? 3).map (fun i => (i.zero, i.size, i.bytes)) = some (some (.int .i64 0), 1, 8) := by kernel_rfl
theorem Ja (v : Value) (n : Nat) (xs : List Value) (w : World) (h : RdK 1 w v n xs) (h1 : ∀ u ∈ xs, u.oneCell' = true) (h2 : n ≤ 1000000) :
  Calls prog 107 #[v] w (gv 1 3 n xs w) := by
 obtain ⟨c0, hc, hcz0, hcz1, hcz2⟩ := info_parts Tryz.infoClInt
 obtain ⟨A, c, rfl, hc1, hc2, hl, hcell⟩ := h
 have hn := fun (W : World) (A : Option Addr) (n c n' c' : Nat) => Lib.run_eql_slice_nil (P := prog) W 22 3 A n c n' c' Tryz.underlying22
 have HL := Lib.hid hl
 have H1 := Lib.hid h1
 cases A with
 | none =>
  have hx : xs = [] := by
   rcases xs with _ | ⟨x, xs⟩
   ·rfl
   ·obtain ⟨a, e, _⟩ := hcell (by simp)
    cases e
  subst hx
  have hn0 : n = 0 := by simp at hl; omega
  subst hn0
  clear hcell hl
  go_enter Tryz.func107, Tryz.ntmps107
  go_wp2
  go_ret
  exact ⟨none, 0, rfl, World.ownsRow_nil _ _ _ 1, Ext.refl _⟩
 | some a =>
  have HO := Lib.hid (fo w w.heap.size 3 1 (Nat.le_refl _))
  have HCS := Lib.hid (show ∀ (j : Nat) (u : Value), xs[j]? = some u → (w.alloc (.cells #[] 3)).cell? (a.add j) = some u from fun j u hu => by
   obtain ⟨a', e, hb, hcs⟩ := hcell (by have := (zg.1 hu).1; omega)
   obtain rfl : a = a' := Option.some.inj e
   exact (Below.cell (aN w _) (p := a.add j) (by rw [db]; exact hb)).trans (hcs j u hu))
  clear hcell hl h1
  go_enter Tryz.func107, Tryz.ntmps107
  go_wp2_with (at_builtin; go_loud (refine wpList_append_own_at _ rfl (.tmp 5) (.tmp 6) 22 rfl w.heap.size 3 c0 _ 1 8 Tryz.underlying22 hc hcz0 hcz1 hcz2 rfl (by decide) _ 0 [] rfl HO.out a n c xs rfl HL.out HCS.out H1.out ?c3 ?c4 ?c5 ?_))
  case c3 => simp [maxLen]; omega
  case c4 => omega
  case c5 => simp
  intro v' w3 ho3 hg3 _ hat3
  have HE := Lib.hid ((aN w (.cells #[] 3)).trans' (cO hg3 (by simp) (fun k hk => by simp [Value.ownBlock] at hk; omega)))
  have HO3 := Lib.hid ho3
  obtain ⟨A3, c3, rfl, _, _⟩ := cH ho3
  clear ho3 hg3 hat3
  go_wp2
  go_ret
  exact ⟨_, _, rfl, HO3.out, HE.out⟩
theorem Tryz.infoClApp : (prog.info? 70).map (fun i => (i.zero, i.size, i.bytes)) = some (some (.agg #[.int .i64 0, .int .i64 0, .string ⟨#[]⟩, .int .i64 0, .int .i64 0, .int .i64 0, .int .i64 0, .slice none 0 0, .int .i64 0, .int .i64 0, .slice none 0 0, .slice none 0 0, .slice none 0 0, .slice none 0 0]), 14, 200) := by kernel_rfl
theorem Jd (v : Value) (n : Nat) (xs : List Value) (w : World) (h : RdK 14 w v n xs) (h1 : ∀ u ∈ xs, u.oneCell' = true) (h2 : n ≤ 1000000) :
  Calls prog 105 #[v] w (gv 14 70 n xs w) := by
 obtain ⟨c0, hc, hcz0, hcz1, hcz2⟩ := info_parts Tryz.infoClApp
 obtain ⟨A, c, rfl, hc1, hc2, hl, hcell⟩ := h
 have hn := fun (W : World) (A : Option Addr) (n c n' c' : Nat) => Lib.run_eql_slice_nil (P := prog) W 36 70 A n c n' c' Tryz.underlying36
 have HL := Lib.hid hl
 have H1 := Lib.hid h1
 cases A with
 | none =>
  have hx : xs = [] := by
   rcases xs with _ | ⟨x, xs⟩
   ·rfl
   ·obtain ⟨a, e, _⟩ := hcell (by simp)
    cases e
  subst hx
  have hn0 : n = 0 := by simp at hl; omega
  subst hn0
  clear hcell hl
  go_enter Tryz.func105, Tryz.ntmps105
  go_wp2
  go_ret
  exact ⟨none, 0, rfl, World.ownsRow_nil _ _ _ 14, Ext.refl _⟩
 | some a =>
  have HO := Lib.hid (fo w w.heap.size 70 14 (Nat.le_refl _))
  have HCS := Lib.hid (show ∀ (j : Nat) (u : Value), xs[j]? = some u → (w.alloc (.cells #[] 70)).cell? (a.add j) = some u from fun j u hu => by
   obtain ⟨a', e, hb, hcs⟩ := hcell (by have := (zg.1 hu).1; omega)
   obtain rfl : a = a' := Option.some.inj e
   exact (Below.cell (aN w _) (p := a.add j) (by rw [db]; exact hb)).trans (hcs j u hu))
  clear hcell hl h1
  go_enter Tryz.func105, Tryz.ntmps105
  go_wp2_with (at_builtin; go_loud (refine wpList_append_own_at _ rfl (.tmp 5) (.tmp 6) 36 rfl w.heap.size 70 c0 _ 14 200 Tryz.underlying36 hc hcz0 hcz1 hcz2 rfl (by decide) _ 0 [] rfl HO.out a n c xs rfl HL.out HCS.out H1.out ?c3 ?c4 ?c5 ?_))
  case c3 => simp [maxLen]; omega
  case c4 => omega
  case c5 => simp
  intro v' w3 ho3 hg3 _ hat3
  have HE := Lib.hid ((aN w (.cells #[] 70)).trans' (cO hg3 (by simp) (fun k hk => by simp [Value.ownBlock] at hk; omega)))
  have HO3 := Lib.hid ho3
  obtain ⟨A3, c3, rfl, _, _⟩ := cH ho3
  clear ho3 hg3 hat3
  go_wp2
  go_ret
  exact ⟨_, _, rfl, HO3.out, HE.out⟩
end Go.Proofs.YtchddofjajgopaaGreat
section
namespace Go.Proofs
open Go.Shelf
def Tryz.laysM316_ren : Go.Shelf.Ren := ⟨fun | 316 => 126 | n => n, fun | 9 => 9 | 3 => 3 | 4 => 4 | 37 => 153 | 0 => 0 | 127 => 203 | 5 => 5 | n => n, fun | n => n⟩
theorem Tryz.laysM316 : Go.Proofs.LaysM.n316 prog Tryz.laysM316_ren := {
 mixed := by kernel_rfl
 f316 := Tryz.func126.trans (congrArg some (by kernel_rfl))
 t0 := Tryz.underlying0
 a0 := Tryz.isAgg0
 z0 := Tryz.sizeOf0
 v0 := Tryz.zeroValue0
 t3 := Tryz.underlying3
 a3 := Tryz.isAgg3
 z3 := Tryz.sizeOf3
 v3 := Tryz.zeroValue3
 t4 := Tryz.underlying4
 a4 := Tryz.isAgg4
 z4 := Tryz.sizeOf4
 v4 := Tryz.zeroValue4
 t9 := Tryz.underlying9
 a9 := Tryz.isAgg9
 z9 := Tryz.sizeOf9
 v9 := Tryz.zeroValue9
 t37 := Tryz.underlying153
 a37 := Tryz.isAgg153
 z37 := Tryz.sizeOf153
 v37 := Tryz.zeroValue153
 t127 := Tryz.underlying203
 a127 := Tryz.isAgg203
 z127 := Tryz.sizeOf203
 v127 := Tryz.zeroValue203
 t5 := Tryz.underlying5
 a5 := Tryz.isAgg5
 z5 := Tryz.sizeOf5
 v5 := Tryz.zeroValue5
 i0 := by kernel_rfl
 i3 := by kernel_rfl
 i4 := by kernel_rfl
 i5 := by kernel_rfl
 i9 := by kernel_rfl
 i37 := by kernel_rfl
 i127 := by kernel_rfl }
open Go.RowKit in
theorem Tryz.stringslite_Clone (s : ByteArray) (w : World) (hlim : s.size ≤ 281474976710656) :
  Calls prog 126 #[.string s] w fun e w' => e = .returned (.string s) ∧ Below w.heap.size w w' := Any.stringslite_Clone Tryz.laysM316 s w hlim
end Go.Proofs
end
namespace Go.Proofs.YtchddofjajgopaaGreat
open Go.RowKit
open IntKind (i64)
open Go.Proofs.Tryz (prog)
theorem Ie (S : ByteArray) (w : World) (hs : S.size ≤ 1000000000000) : Calls prog 102 #[.string S] w fun e w' => e = .returned (.string S) ∧ Ext w w' := by
 have hcon := fun W => Tryz.stringslite_Clone S W (by omega)
 go_enter Tryz.func102, Tryz.ntmps102
 go_wp2_with (go_at_call 126; refine (hcon _).mono ?_; rintro e w' ⟨rfl, hx⟩)
 go_ret
 exact ⟨rfl, hx⟩
def NJ {α : Type} (xs : List α) : Option (List α) := if xs.length ≤ 1000000 then some xs else none
def fp (ty : Ty) (e k : Nat) (x : cG [.lf (.sl ty)]) : Option (bf [.io [.no], .own e k ty]) := (NJ (show List ty.den from x.1)).bind fun z => some (((), ()), z)
theorem ij {P : Program} {f : FuncId} (ty : Ty) {e k : Nat} (hk : tyN ty = k) (hk0 : 0 < k) (hcall : eg P f = true)
  (hC : ∀ (v : Value) (n : Nat) (us : List Value) (w : World), RdK k w v n us → (∀ u ∈ us, u.oneCell' = true) → n ≤ 1000000 → Calls P f #[v] w (gv k e n us w)) :
  bQ P f [.lf (.sl ty)] [.io [.no], .own e k ty] (fp ty e k) := by
 refine Ww (F := NJ) hk hk0 hcall fun xs zs w G v hF hG hd => ?_
 unfold NJ at hF
 split at hF
 ·rename_i hle
  injection hF with hF
  subst hF
  cases hd with
  | sl A n c k0 _ us hn hc hm hkk hA hA0 hcell hrep =>
   have hlen : ∀ y ∈ xs.map (bJ ty), y.length = k := fun y hy => by
    obtain ⟨z, _, rfl⟩ := List.mem_map.1 hy
    rw [o7, hk]
   have hfl := cP k (xs.map (bJ ty)) hlen
   rw [List.length_map] at hn hfl
   have hul : ((List.range (xs.map (bJ ty)).flatten.length).map us).length = xs.length * k := by rw [List.length_map, List.length_range, hfl]
   have hget : ∀ (j : Nat) u, ((List.range (xs.map (bJ ty)).flatten.length).map us)[j]? = some u → j < (xs.map (bJ ty)).flatten.length ∧ u = us j := fun j u hu => by
    rw [List.getElem?_map, zm] at hu
    obtain ⟨i, hi, rfl⟩ := hu
    obtain ⟨rfl, hlt⟩ := nj hi
    exact ⟨hlt, rfl⟩
   refine (hC _ n ((List.range (xs.map (bJ ty)).flatten.length).map us) w ⟨A, c, rfl, hc, hm, by rw [hul, hn], fun h0 => ?_⟩ (fun u hu => ?_) (by omega)).mono ?_
   ·obtain ⟨a, ha, hFa⟩ := hA (by rw [hn]; rcases Nat.eq_zero_or_pos xs.length with e | e
                                  ·rw [hul, e, Nat.zero_mul] at h0; omega
                                  ·exact e)
    refine ⟨a, ha, hG _ hFa, fun j u hu => ?_⟩
    obtain ⟨hlt, rfl⟩ := hget j u hu
    exact hcell a j _ ha (zq hlt)
   ·obtain ⟨j, hj⟩ := List.getElem?_of_mem hu
    obtain ⟨hlt, rfl⟩ := hget j u hj
    exact (hrep j _ (zq hlt)).one
   ·rintro en w' ⟨A', c', rfl, ho, hx⟩
    refine ⟨_, _, rfl, by rw [← hn]; exact ho, hx, hul, fun j u d hu hd => ?_⟩
    obtain ⟨hlt, rfl⟩ := hget j u hu
    exact hrep j d hd
 ·cases hF
noncomputable def S6 : Ent := ⟨[.lf (.sl (.st 7))], [.io [.no], .own 29 8 (.st 7)], fp (.st 7) 29 8⟩
theorem S5 : bQ prog 61 [.lf (.sl (.st 7))] [.io [.no], .own 29 8 (.st 7)] (fp (.st 7) 29 8) := ij (.st 7) (by kernel_rfl) (by decide) (by kernel_rfl) (fun v n us w h1 h2 h3 => FO v n us w h1 h2 h3)
noncomputable def S8 : Ent := ⟨[.lf (.sl (.st 6))], [.io [.no], .own 86 9 (.st 6)], fp (.st 6) 86 9⟩
theorem S7 : bQ prog 64 [.lf (.sl (.st 6))] [.io [.no], .own 86 9 (.st 6)] (fp (.st 6) 86 9) := ij (.st 6) (by kernel_rfl) (by decide) (by kernel_rfl) (fun v n us w h1 h2 h3 => FP v n us w h1 h2 h3)
noncomputable def S2 : Ent := ⟨[.lf (.sl (.st 11))], [.io [.no], .own 88 3 (.st 11)], fp (.st 11) 88 3⟩
theorem S1 : bQ prog 65 [.lf (.sl (.st 11))] [.io [.no], .own 88 3 (.st 11)] (fp (.st 11) 88 3) := ij (.st 11) (by kernel_rfl) (by decide) (by kernel_rfl) (fun v n us w h1 h2 h3 => FL v n us w h1 h2 h3)
noncomputable def S4 : Ent := ⟨[.lf (.sl (.st 8))], [.io [.no], .own 72 6 (.st 8)], fp (.st 8) 72 6⟩
theorem S3 : bQ prog 66 [.lf (.sl (.st 8))] [.io [.no], .own 72 6 (.st 8)] (fp (.st 8) 72 6) := ij (.st 8) (by kernel_rfl) (by decide) (by kernel_rfl) (fun v n us w h1 h2 h3 => FM v n us w h1 h2 h3)
noncomputable def Vn : Ent := ⟨[.lf (.sl (.str))], [.io [.no], .own 9 1 (.str)], fp (.str) 9 1⟩
theorem Vm : bQ prog 125 [.lf (.sl (.str))] [.io [.no], .own 9 1 (.str)] (fp (.str) 9 1) := ij (.str) (by kernel_rfl) (by decide) (by kernel_rfl) (fun v n us w h1 h2 h3 => I9 v n us w h1 h2 h3)
noncomputable def Px : Ent := ⟨[.lf (.sl (.st 4))], [.io [.no], .own 99 3 (.st 4)], fp (.st 4) 99 3⟩
theorem Pw : bQ prog 127 [.lf (.sl (.st 4))] [.io [.no], .own 99 3 (.st 4)] (fp (.st 4) 99 3) := ij (.st 4) (by kernel_rfl) (by decide) (by kernel_rfl) (fun v n us w h1 h2 h3 => Ev v n us w h1 h2 h3)
noncomputable def Vr : Ent := ⟨[.lf (.sl (.st 3))], [.io [.no], .own 96 2 (.st 3)], fp (.st 3) 96 2⟩
theorem Vq : bQ prog 128 [.lf (.sl (.st 3))] [.io [.no], .own 96 2 (.st 3)] (fp (.st 3) 96 2) := ij (.st 3) (by kernel_rfl) (by decide) (by kernel_rfl) (fun v n us w h1 h2 h3 => Jb v n us w h1 h2 h3)
noncomputable def Vt : Ent := ⟨[.lf (.sl (.st 1))], [.io [.no], .own 122 8 (.st 1)], fp (.st 1) 122 8⟩
theorem Vs : bQ prog 106 [.lf (.sl (.st 1))] [.io [.no], .own 122 8 (.st 1)] (fp (.st 1) 122 8) := ij (.st 1) (by kernel_rfl) (by decide) (by kernel_rfl) (fun v n us w h1 h2 h3 => Jc v n us w h1 h2 h3)
noncomputable def Vp : Ent := ⟨[.lf (.sl (.int .i64))], [.io [.no], .own 3 1 (.int .i64)], fp (.int .i64) 3 1⟩
theorem Vo : bQ prog 107 [.lf (.sl (.int .i64))] [.io [.no], .own 3 1 (.int .i64)] (fp (.int .i64) 3 1) := ij (.int .i64) (by kernel_rfl) (by decide) (by kernel_rfl) (fun v n us w h1 h2 h3 => Ja v n us w h1 h2 h3)
noncomputable def Vv : Ent := ⟨[.lf (.sl (.st 2))], [.io [.no], .own 70 14 (.st 2)], fp (.st 2) 70 14⟩
theorem Vu : bQ prog 105 [.lf (.sl (.st 2))] [.io [.no], .own 70 14 (.st 2)] (fp (.st 2) 70 14) := ij (.st 2) (by kernel_rfl) (by decide) (by kernel_rfl) (fun v n us w h1 h2 h3 => Jd v n us w h1 h2 h3)
noncomputable def vf : Ent := ⟨[.lf .str], [.lf .str], fun x => if (show ByteArray from x.1).size ≤ 1000000000 then some x.1 else none⟩
theorem ve : bQ prog 102 [.lf .str] [.lf .str] (fun x => if (show ByteArray from x.1).size ≤ 1000000000 then some x.1 else none) := Wv (by kernel_rfl) fun x z w hF => by
 dsimp only at hF
 split at hF
 ·rename_i hle
  injection hF with hF
  subst hF
  exact Ie x w (Nat.le_trans hle (by decide))
 ·cases hF
noncomputable def vX (x : cG [.ag 2]) : Option (bf [.ag 2]) := iC ⟨prog, [(102, vf), (106, Vt), (107, Vp)], 28, [.ag 2], [.cell 2 70], [], [2], []⟩ ((Tryz.f63).body.getD .skip) (.n) [.ag 2] x
noncomputable def Gc : Ent := ⟨[.ag 2], [.ag 2], vX⟩
theorem Gb : bQ prog 63 [.ag 2] [.ag 2] vX := cE (n := 28) (.cons (ve) (.cons (Vs) (.cons (Vo) (.nil)))) Tryz.mixed Tryz.func63 rfl (by kernel_rfl) rfl rfl rfl (fun _ => rfl)
noncomputable def sN (x : cG [.ag 4]) : Option (bf [.ag 4]) := iC ⟨prog, [(102, vf), (128, Vr)], 12, [.ag 4], [.cell 2 99], [], [2], []⟩ ((Tryz.f104).body.getD .skip) (.n) [.ag 4] x
noncomputable def Ce : Ent := ⟨[.ag 4], [.ag 4], sN⟩
theorem Cd : bQ prog 104 [.ag 4] [.ag 4] sN := cE (n := 12) (.cons (ve) (.cons (Vq) (.nil))) Tryz.mixed Tryz.func104 rfl (by kernel_rfl) rfl rfl rfl (fun _ => rfl)
noncomputable def sO (x : cG [.lf (.sl .str), .fn 102 [] []]) : Option (bf [.lf (.sl .str)]) := iC ⟨prog, [(125, Vn), (102, vf)], 24, [.lf (.sl .str)], [.tmp 4], [], [], []⟩ ((Tryz.f101).body.getD .skip) (.s (.n) (.s (.n) (.s (.s (.n) (.s (.lp [.row 0 500512 9 1 (.str), .row 9 500512 9 1 (.str), .leaf 11 (.int .i64)] 0 false (.n)) .n)) (.n)))) [.lf (.sl .str), .fn 102 [] []] x
noncomputable def Cg : Ent := ⟨[.lf (.sl .str), .fn 102 [] []], [.lf (.sl .str)], sO⟩
theorem Cf : bQ prog 101 [.lf (.sl .str), .fn 102 [] []] [.lf (.sl .str)] sO := cE (n := 24) (.cons (Vm) (.cons (ve) (.nil))) Tryz.mixed Tryz.func101 rfl (by kernel_rfl) rfl rfl rfl (fun _ => rfl)
noncomputable def sP (x : cG [.lf (.sl (.st 4)), .fn 104 [] []]) : Option (bf [.lf (.sl (.st 4))]) := iC ⟨prog, [(127, Px), (104, Ce)], 24, [.lf (.sl (.st 4))], [.tmp 4], [], [], []⟩ ((Tryz.f103).body.getD .skip) (.s (.n) (.s (.n) (.s (.s (.n) (.s (.lp [.row 0 500512 99 3 (.st 4), .row 9 500512 99 3 (.st 4), .leaf 11 (.int .i64)] 0 false (.n)) .n)) (.n)))) [.lf (.sl (.st 4)), .fn 104 [] []] x
noncomputable def Ci : Ent := ⟨[.lf (.sl (.st 4)), .fn 104 [] []], [.lf (.sl (.st 4))], sP⟩
theorem Ch : bQ prog 103 [.lf (.sl (.st 4)), .fn 104 [] []] [.lf (.sl (.st 4))] sP := cE (n := 24) (.cons (Pw) (.cons (Cd) (.nil))) Tryz.mixed Tryz.func103 rfl (by kernel_rfl) rfl rfl rfl (fun _ => rfl)
noncomputable def sQ (x : cG [.lf (.sl (.st 2)), .fn 63 [] []]) : Option (bf [.io [.no, .no], .own 70 14 (.st 2)]) := PJ ⟨prog, [(105, Vv), (63, Gc)], 24, [.io [.no, .no], .own 70 14 (.st 2)], [.tmp 4], [], [], []⟩ ((Tryz.f62).body.getD .skip) (.s (.n) (.s (.n) (.s (.s (.n) (.s (.lp [.row 0 500512 70 14 (.st 2), .row 9 500512 70 14 (.st 2), .leaf 11 (.int .i64)] 0 false (.n)) .n)) (.n)))) [.lf (.sl (.st 2)), .fn 63 [] []] x
noncomputable def Ck : Ent := ⟨[.lf (.sl (.st 2)), .fn 63 [] []], [.io [.no, .no], .own 70 14 (.st 2)], sQ⟩
theorem Cj : bQ prog 62 [.lf (.sl (.st 2)), .fn 63 [] []] [.io [.no, .no], .own 70 14 (.st 2)] sQ := QB (n := 24) (.cons (Vu) (.cons (Gb) (.nil))) Tryz.mixed Tryz.func62 rfl (by kernel_rfl) rfl rfl (by kernel_rfl) (fun _ _ _ => (by first | trivial | exact ⟨trivial, trivial⟩)) (fun _ => rfl)
noncomputable def uz (x : cG [.ag 5]) : Option (bf [.ag 5]) := iC ⟨prog, [(101, Cg), (103, Ci), (102, vf)], 10, [.ag 5], [.cell 2 34], [], [2], []⟩ ((Tryz.f60).body.getD .skip) (.n) [.ag 5] x
noncomputable def Fs : Ent := ⟨[.ag 5], [.ag 5], uz⟩
theorem Fq : bQ prog 60 [.ag 5] [.ag 5] uz := cE (n := 10) (.cons (Cf) (.cons (Ch) (.cons (ve) (.nil)))) Tryz.mixed Tryz.func60 rfl (by kernel_rfl) rfl rfl rfl (fun _ => rfl)
noncomputable def sR (x : cG [.ag 12]) : Option (bf [.io [.no], .agr 12 [(2, 29, 8, .st 7), (3, 70, 14, .st 2), (4, 86, 9, .st 6), (5, 88, 3, .st 11), (6, 72, 6, .st 8)]]) := PJ ⟨prog, [(60, Fs), (61, S6), (62, Ck), (64, S8), (65, S2), (66, S4)], 28, [.io [.no], .agr 12 [(2, 29, 8, .st 7), (3, 70, 14, .st 2), (4, 86, 9, .st 6), (5, 88, 3, .st 11), (6, 72, 6, .st 8)]], [.cell 2 41], [], [2], []⟩ ((Tryz.f31).body.getD .skip) (.n) [.ag 12] x
noncomputable def Cm : Ent := ⟨[.ag 12], [.io [.no], .agr 12 [(2, 29, 8, .st 7), (3, 70, 14, .st 2), (4, 86, 9, .st 6), (5, 88, 3, .st 11), (6, 72, 6, .st 8)]], sR⟩
theorem Cl : bQ prog 31 [.ag 12] [.io [.no], .agr 12 [(2, 29, 8, .st 7), (3, 70, 14, .st 2), (4, 86, 9, .st 6), (5, 88, 3, .st 11), (6, 72, 6, .st 8)]] sR := QB (n := 28) (.cons (Fq) (.cons (S5) (.cons (Cj) (.cons (S7) (.cons (S1) (.cons (S3) (.nil))))))) Tryz.mixed Tryz.func31 rfl (by kernel_rfl) rfl rfl (by kernel_rfl) (fun _ _ _ => (by first | trivial | exact ⟨trivial, trivial⟩)) (fun _ => rfl)
noncomputable def uq (x : cG [.lf (.int .i64), .ag 7]) : Option (bf [.lf (.bool)]) := iC ⟨prog, [], 9, [.lf (.bool)], [.tmp 4], [], [], []⟩ ((Tryz.f40).body.getD .skip) (.n) [.lf (.int .i64), .ag 7] x
noncomputable def Fl : Ent := ⟨[.lf (.int .i64), .ag 7], [.lf (.bool)], uq⟩
theorem Fk : bQ prog 40 [.lf (.int .i64), .ag 7] [.lf (.bool)] uq := cE (n := 9) (.nil) Tryz.mixed Tryz.func40 rfl (by kernel_rfl) rfl rfl rfl (fun _ => rfl)
noncomputable def ry (x : cG [.lf (.int .i64), .ag 7]) : Option (bf [.lf (.bool)]) := iC ⟨prog, [], 9, [.lf (.bool)], [.tmp 4], [], [], []⟩ ((Tryz.f68).body.getD .skip) (.n) [.lf (.int .i64), .ag 7] x
noncomputable def AP : Ent := ⟨[.lf (.int .i64), .ag 7], [.lf (.bool)], ry⟩
theorem AO : bQ prog 68 [.lf (.int .i64), .ag 7] [.lf (.bool)] ry := cE (n := 9) (.nil) Tryz.mixed Tryz.func68 rfl (by kernel_rfl) rfl rfl rfl (fun _ => rfl)
noncomputable def qa (x : cG [.lf (.int .i64), .ag 7]) : Option (bf [.lf (.bool)]) := iC ⟨prog, [], 9, [.lf (.bool)], [.tmp 4], [], [], []⟩ ((Tryz.f69).body.getD .skip) (.n) [.lf (.int .i64), .ag 7] x
noncomputable def zp : Ent := ⟨[.lf (.int .i64), .ag 7], [.lf (.bool)], qa⟩
theorem zo : bQ prog 69 [.lf (.int .i64), .ag 7] [.lf (.bool)] qa := cE (n := 9) (.nil) Tryz.mixed Tryz.func69 rfl (by kernel_rfl) rfl rfl rfl (fun _ => rfl)
noncomputable def ux (x : cG [.lf (.sl (.st 7)), .fn 40 [.v (.int .i64)] []]) : Option (bf [.lf (.int .i64)]) := iC ⟨prog, [(40, Fl)], 19, [.lf (.int .i64)], [.tmp 4], [], [], []⟩ ((Tryz.f72).body.getD .skip) (.s (.n) (.s (.s (.n) (.s (.lp [.leaf 4 (.int .i64), .leaf 8 (.int .i64)] 0 true (.n)) .n)) (.n))) [.lf (.sl (.st 7)), .fn 40 [.v (.int .i64)] []] x
noncomputable def MF : Ent := ⟨[.lf (.sl (.st 7)), .fn 40 [.v (.int .i64)] []], [.lf (.int .i64)], ux⟩
theorem ME : bQ prog 72 [.lf (.sl (.st 7)), .fn 40 [.v (.int .i64)] []] [.lf (.int .i64)] ux := cE (n := 19) (.cons (Fk) (.nil)) Tryz.mixed Tryz.func72 rfl (by kernel_rfl) rfl rfl rfl (fun _ => rfl)
noncomputable def vV (x : cG [.lf (.sl (.st 7)), .fn 68 [.v (.int .i64)] []]) : Option (bf [.lf (.int .i64)]) := iC ⟨prog, [(68, AP)], 19, [.lf (.int .i64)], [.tmp 4], [], [], []⟩ ((Tryz.f72).body.getD .skip) (.s (.n) (.s (.s (.n) (.s (.lp [.leaf 4 (.int .i64), .leaf 8 (.int .i64)] 0 true (.n)) .n)) (.n))) [.lf (.sl (.st 7)), .fn 68 [.v (.int .i64)] []] x
noncomputable def Ga : Ent := ⟨[.lf (.sl (.st 7)), .fn 68 [.v (.int .i64)] []], [.lf (.int .i64)], vV⟩
theorem F9 : bQ prog 72 [.lf (.sl (.st 7)), .fn 68 [.v (.int .i64)] []] [.lf (.int .i64)] vV := cE (n := 19) (.cons (AO) (.nil)) Tryz.mixed Tryz.func72 rfl (by kernel_rfl) rfl rfl rfl (fun _ => rfl)
noncomputable def uy (x : cG [.lf (.sl (.st 7)), .fn 69 [.v (.int .i64)] []]) : Option (bf [.lf (.int .i64)]) := iC ⟨prog, [(69, zp)], 19, [.lf (.int .i64)], [.tmp 4], [], [], []⟩ ((Tryz.f72).body.getD .skip) (.s (.n) (.s (.s (.n) (.s (.lp [.leaf 4 (.int .i64), .leaf 8 (.int .i64)] 0 true (.n)) .n)) (.n))) [.lf (.sl (.st 7)), .fn 69 [.v (.int .i64)] []] x
noncomputable def Fp : Ent := ⟨[.lf (.sl (.st 7)), .fn 69 [.v (.int .i64)] []], [.lf (.int .i64)], uy⟩
theorem Fo : bQ prog 72 [.lf (.sl (.st 7)), .fn 69 [.v (.int .i64)] []] [.lf (.int .i64)] uy := cE (n := 19) (.cons (zo) (.nil)) Tryz.mixed Tryz.func72 rfl (by kernel_rfl) rfl rfl rfl (fun _ => rfl)
noncomputable def sy (x : cG [.lf (.sl (.st 7)), .fn 40 [.v (.int .i64)] []]) : Option (bf [.lf (.int .i64)]) := iC ⟨prog, [(72, MF)], 14, [.lf (.int .i64)], [.tmp 4], [], [], []⟩ ((Tryz.f39).body.getD .skip) (.n) [.lf (.sl (.st 7)), .fn 40 [.v (.int .i64)] []] x
noncomputable def JZ : Ent := ⟨[.lf (.sl (.st 7)), .fn 40 [.v (.int .i64)] []], [.lf (.int .i64)], sy⟩
theorem JY : bQ prog 39 [.lf (.sl (.st 7)), .fn 40 [.v (.int .i64)] []] [.lf (.int .i64)] sy := cE (n := 14) (.cons (ME) (.nil)) Tryz.mixed Tryz.func39 rfl (by kernel_rfl) rfl rfl rfl (fun _ => rfl)
noncomputable def uA (x : cG [.lf (.sl (.st 7)), .fn 68 [.v (.int .i64)] []]) : Option (bf [.lf (.int .i64)]) := iC ⟨prog, [(72, Ga)], 14, [.lf (.int .i64)], [.tmp 4], [], [], []⟩ ((Tryz.f39).body.getD .skip) (.n) [.lf (.sl (.st 7)), .fn 68 [.v (.int .i64)] []] x
noncomputable def Fu : Ent := ⟨[.lf (.sl (.st 7)), .fn 68 [.v (.int .i64)] []], [.lf (.int .i64)], uA⟩
theorem Ft : bQ prog 39 [.lf (.sl (.st 7)), .fn 68 [.v (.int .i64)] []] [.lf (.int .i64)] uA := cE (n := 14) (.cons (F9) (.nil)) Tryz.mixed Tryz.func39 rfl (by kernel_rfl) rfl rfl rfl (fun _ => rfl)
noncomputable def sS (x : cG [.lf (.sl (.st 7)), .fn 69 [.v (.int .i64)] []]) : Option (bf [.lf (.int .i64)]) := iC ⟨prog, [(72, Fp)], 14, [.lf (.int .i64)], [.tmp 4], [], [], []⟩ ((Tryz.f39).body.getD .skip) (.n) [.lf (.sl (.st 7)), .fn 69 [.v (.int .i64)] []] x
noncomputable def Co : Ent := ⟨[.lf (.sl (.st 7)), .fn 69 [.v (.int .i64)] []], [.lf (.int .i64)], sS⟩
theorem Cn : bQ prog 39 [.lf (.sl (.st 7)), .fn 69 [.v (.int .i64)] []] [.lf (.int .i64)] sS := cE (n := 14) (.cons (Fo) (.nil)) Tryz.mixed Tryz.func39 rfl (by kernel_rfl) rfl rfl rfl (fun _ => rfl)
noncomputable def pH (x : cG [.ag 12, .lf (.int .i64)]) : Option (bf [.ag 7, .lf (.bool)]) := iC ⟨prog, [(39, JZ)], 23, [.ag 7, .lf (.bool)], [.cell 4 29, .tmp 5], [], [4], []⟩ ((Tryz.f16).body.getD .skip) (.n) [.ag 12, .lf (.int .i64)] x
noncomputable def lR : Ent := ⟨[.ag 12, .lf (.int .i64)], [.ag 7, .lf (.bool)], pH⟩
theorem lQ : bQ prog 16 [.ag 12, .lf (.int .i64)] [.ag 7, .lf (.bool)] pH := cE (n := 23) (.cons (JY) (.nil)) Tryz.mixed Tryz.func16 rfl (by kernel_rfl) rfl rfl rfl (fun _ => rfl)
noncomputable def vU (x : cG [.lf (.sl (.st 7)), .ag 7]) : Option (bf [.lf (.sl (.st 7))]) := iC ⟨prog, [(39, Fu), (39, Co)], 46, [.lf (.sl (.st 7))], [.tmp 4], [], [], []⟩ ((Tryz.f33).body.getD .skip) (.n) [.lf (.sl (.st 7)), .ag 7] x
noncomputable def F8 : Ent := ⟨[.lf (.sl (.st 7)), .ag 7], [.lf (.sl (.st 7))], vU⟩
theorem F7 : bQ prog 33 [.lf (.sl (.st 7)), .ag 7] [.lf (.sl (.st 7))] vU := cE (n := 46) (.cons (Ft) (.cons (Cn) (.nil))) Tryz.mixed Tryz.func33 rfl (by kernel_rfl) rfl rfl rfl (fun _ => rfl)
noncomputable def rv (x : cG [.lf (.int .i64), .lf (.int .i64)]) : Option (bf [.lf (.bool)]) := iC ⟨prog, [], 12, [.lf (.bool)], [.tmp 4], [], [], []⟩ ((Tryz.f108).body.getD .skip) (.n) [.lf (.int .i64), .lf (.int .i64)] x
noncomputable def AL : Ent := ⟨[.lf (.int .i64), .lf (.int .i64)], [.lf (.bool)], rv⟩
theorem AK : bQ prog 108 [.lf (.int .i64), .lf (.int .i64)] [.lf (.bool)] rv := cE (n := 12) (.nil) Tryz.mixed Tryz.func108 rfl (by kernel_rfl) rfl rfl rfl (fun _ => rfl)
noncomputable def qc (x : cG [.ag 7, .lf (.int .i64)]) : Option (bf [.lf (.bool)]) := iC ⟨prog, [(108, AL)], 32, [.lf (.bool)], [.tmp 4], [], [], []⟩ ((Tryz.f67).body.getD .skip) (.n) [.ag 7, .lf (.int .i64)] x
noncomputable def zu : Ent := ⟨[.ag 7, .lf (.int .i64)], [.lf (.bool)], qc⟩
theorem zr : bQ prog 67 [.ag 7, .lf (.int .i64)] [.lf (.bool)] qc := cE (n := 32) (.cons (AK) (.nil)) Tryz.mixed Tryz.func67 rfl (by kernel_rfl) rfl rfl rfl (fun _ => rfl)
noncomputable def pD (x : cG [.ag 12, .ag 7]) : Option (bf [.lf (.int .i64)]) := iC ⟨prog, [(16, lR), (67, zu)], 34, [.lf (.int .i64)], [.tmp 4], [], [], []⟩ ((Tryz.f32).body.getD .skip) (.n) [.ag 12, .ag 7] x
noncomputable def xa : Ent := ⟨[.ag 12, .ag 7], [.lf (.int .i64)], pD⟩
theorem w9 : bQ prog 32 [.ag 12, .ag 7] [.lf (.int .i64)] pD := cE (n := 34) (.cons (lQ) (.cons (zr) (.nil))) Tryz.mixed Tryz.func32 rfl (by kernel_rfl) rfl rfl rfl (fun _ => rfl)
noncomputable def pF (x : cG [.ag 12, .ag 7]) : Option (bf [.ag 12, .lf (.int .i64)]) := iC ⟨prog, [(31, Cm), (32, xa), (33, F8)], 32, [.ag 12, .lf (.int .i64)], [.cell 4 41, .tmp 5], [], [4], []⟩ ((Tryz.f11).body.getD .skip) (.n) [.ag 12, .ag 7] x
noncomputable def xd : Ent := ⟨[.ag 12, .ag 7], [.ag 12, .lf (.int .i64)], pF⟩
theorem xc : bQ prog 11 [.ag 12, .ag 7] [.ag 12, .lf (.int .i64)] pF := cE (n := 32) (.cons (Cl) (.cons (w9) (.cons (F7) (.nil)))) Tryz.mixed Tryz.func11 rfl (by kernel_rfl) rfl rfl rfl (fun _ => rfl)
noncomputable def pE (x : cG [.ag 12, .lf (.int .i64)]) : Option (bf [.ag 0]) := iC ⟨prog, [], 35, [.ag 0], [.cell 4 27], [], [4], []⟩ ((Tryz.f18).body.getD .skip) (.s (.n) (.s (.n) (.s (.s (.n) (.s (.lp [.leaf 11 (.int .i64), .box 5 27 0 []] 0 false (.n)) .n)) (.n)))) [.ag 12, .lf (.int .i64)] x
noncomputable def ut : Ent := ⟨[.ag 12, .lf (.int .i64)], [.ag 0], pE⟩
theorem ur : bQ prog 18 [.ag 12, .lf (.int .i64)] [.ag 0] pE := cE (n := 35) (.nil) Tryz.mixed Tryz.func18 rfl (by kernel_rfl) rfl rfl rfl (fun _ => rfl)
noncomputable def sM (x : cG [.lf (.int .i64), .lf (.int .i64)]) : Option (bf [.lf (.int .u64)]) := iC ⟨prog, [], 10, [.lf (.int .u64)], [.tmp 4], [], [], []⟩ ((Tryz.f71).body.getD .skip) (.n) [.lf (.int .i64), .lf (.int .i64)] x
noncomputable def Cc : Ent := ⟨[.lf (.int .i64), .lf (.int .i64)], [.lf (.int .u64)], sM⟩
theorem Cb : bQ prog 71 [.lf (.int .i64), .lf (.int .i64)] [.lf (.int .u64)] sM := cE (n := 10) (.nil) Tryz.mixed Tryz.func71 rfl (by kernel_rfl) rfl rfl rfl (fun _ => rfl)
noncomputable def pG (x : cG [.ag 12, .lf (.int .i64)]) : Option (bf [.ag 0]) := iC ⟨prog, [(16, lR), (18, ut)], 36, [.ag 0], [.cell 4 27], [], [4], []⟩ ((Tryz.f20).body.getD .skip) (.n) [.ag 12, .lf (.int .i64)] x
noncomputable def uw : Ent := ⟨[.ag 12, .lf (.int .i64)], [.ag 0], pG⟩
theorem uv : bQ prog 20 [.ag 12, .lf (.int .i64)] [.ag 0] pG := cE (n := 36) (.cons (lQ) (.cons (ur) (.nil))) Tryz.mixed Tryz.func20 rfl (by kernel_rfl) rfl rfl rfl (fun _ => rfl)
noncomputable def rx (x : cG [.lf (.int .i64), .ag 7]) : Option (bf [.lf (.bool)]) := iC ⟨prog, [(71, Cc)], 20, [.lf (.bool)], [.tmp 4], [], [], []⟩ ((Tryz.f42).body.getD .skip) (.n) [.lf (.int .i64), .ag 7] x
noncomputable def AN : Ent := ⟨[.lf (.int .i64), .ag 7], [.lf (.bool)], rx⟩
theorem AM : bQ prog 42 [.lf (.int .i64), .ag 7] [.lf (.bool)] rx := cE (n := 20) (.cons (Cb) (.nil)) Tryz.mixed Tryz.func42 rfl (by kernel_rfl) rfl rfl rfl (fun _ => rfl)
noncomputable def mL (x : cG [.ag 12]) : Option (bf [.lf (.sl (.int .i64))]) := iC ⟨prog, [(42, AN)], 26, [.lf (.sl (.int .i64))], [.tmp 2], [], [], []⟩ ((Tryz.f23).body.getD .skip) (.s (.n) (.s (.n) (.s (.s (.n) (.s (.lp [.row 2 2 3 1 (.int .i64), .leaf 12 (.int .i64)] 0 false (.n)) .n)) (.n)))) [.ag 12] x
noncomputable def AR : Ent := ⟨[.ag 12], [.lf (.sl (.int .i64))], mL⟩
theorem AQ : bQ prog 23 [.ag 12] [.lf (.sl (.int .i64))] mL := cE (n := 26) (.cons (AM) (.nil)) Tryz.mixed Tryz.func23 rfl (by kernel_rfl) rfl rfl rfl (fun _ => rfl)
abbrev EOk (P : Program) (f : FuncId) (e : Ent) : Prop := bQ P f e.ps e.rs e.f
theorem aF {P : Program} {T : List (Nat × Ent)} {e : Ent} {f : FuncId} {fn : Func} (h : s6) (fz : List (Nat × List Nat)) (sc : List Nat) (fb : List (Nat × List Nat)) (hT : p8 P T) (hm : P.follows .mixedOrders = true) (hf : P.funcs[f]? = some fn) (hb : fn.body = some (fn.body.getD .skip) := by kernel_rfl) (hcb : eg P f = true := by kernel_rfl) (hl : ((decide (e.ps.length ≤ fn.ntmps) && tn e.ps) && !(ol e.ps || ol e.rs)) = true := by kernel_rfl)
  (hF : ∀ x, iC ⟨P, T, fn.ntmps, e.rs, fn.results.toList, fz, sc, fb⟩ (fn.body.getD .skip) h e.ps x = e.f x := by intro x; kernel_rfl) : bQ P f e.ps e.rs e.f := cE hT hm hf hb hcb rfl rfl hl hF
def yu (v_n : Int) : Option (Bool) :=
(if (decide (v_n ≥ 0)) = true then some (decide (v_n ≤ 1125899906842624)) else some false).bind fun q1 => some q1
def sn (v_a : aw) : Option (Bool) :=
(yu v_a.bA).bind fun c1 => (if c1 = true then (yu v_a.aZ).bind fun c2 => some c2 else some false).bind fun q3 => some q3
def fy (v_a : aw) (v_b : aw) : Option (Bool) :=
(if (decide (v_a.bA ≤ v_b.bA)) = true then some (decide (v_a.aZ ≤ v_b.aZ)) else some false).bind fun q1 => some q1
def uX (v_a : aw) (v_b : aw) : Option (aw) :=
some (⟨(if 0 > (i64.wrap (v_a.bA - v_b.bA)) then 0 else (i64.wrap (v_a.bA - v_b.bA))), (if 0 > (i64.wrap (v_a.aZ - v_b.aZ)) then 0 else (i64.wrap (v_a.aZ - v_b.aZ)))⟩ : aw)
def de (v_a : aw) (v_b : aw) : Option (aw) :=
some (⟨(i64.wrap (v_a.bA + v_b.bA)), (i64.wrap (v_a.aZ + v_b.aZ))⟩ : aw)
def tU (v_n : Int) (zD : Int) : Option (Int) :=
some (i64.wrap ((i64.wrap ((i64.wrap (Int.tdiv v_n 10000)) * zD)) + (i64.wrap (Int.tdiv (i64.wrap ((Int.tmod v_n 10000) * zD)) 10000))))
def tV (v_a : aw) (zD : Int) : Option (aw × Int) :=
(sn v_a).bind fun c1 => (if (!c1) = true then some true else some (decide (zD < 0))).bind fun q2 => (if q2 = true then some true else some (decide (zD > 1000000))).bind fun q3 => if q3 = true then
some ((⟨0, 0⟩ : aw), 1)
else
(tU v_a.bA zD).bind fun c4 => (tU v_a.aZ zD).bind fun c5 => let v_c : aw := (⟨c4, c5⟩ : aw)
(sn v_c).bind fun c6 => if (!c6) = true then
some ((⟨0, 0⟩ : aw), 11)
else
some (v_c, 0)
def yr (v_a : Int) (v_b : Int) : Option (Int × Int) :=
let t1 : Int := (Int.fdiv v_a (2 ^ (min (Int.toNat 25) (IntKind.i64.bits))))
let t2 : Int := (bits .and .i64 v_a 33554431)
let t3 : Int := (Int.fdiv v_b (2 ^ (min (Int.toNat 25) (IntKind.i64.bits))))
let t4 : Int := (bits .and .i64 v_b 33554431)
let QR : Int := t1
let Td : Int := t2
let QQ : Int := t3
let Tc : Int := t4
let WK : Int := (i64.wrap ((i64.wrap (QR * Tc)) + (i64.wrap (Td * QQ))))
let WN : Int := (i64.wrap ((i64.wrap (Td * Tc)) + (i64.wrap ((bits .and .i64 WK 33554431) * 2 ^ (min (Int.toNat 25) (IntKind.i64.bits))))))
let Xc : Int := (i64.wrap ((i64.wrap ((i64.wrap (QR * QQ)) + (Int.fdiv WK (2 ^ (min (Int.toNat 25) (IntKind.i64.bits)))))) + (Int.fdiv WN (2 ^ (min (Int.toNat 50) (IntKind.i64.bits))))))
some (Xc, (bits .and .i64 WN 1125899906842623))
def po (v_x : a7) (v_y : a7) : Option (Int) :=
(if (v_x.fA == 0) = true then
let v_x : a7 := { v_x with fP := 1 }
some v_x
else
some v_x).bind fun j1 => let v_x := j1
(if (v_y.fA == 0) = true then
let v_y : a7 := { v_y with fP := 1 }
some v_y
else
some v_y).bind fun j2 => let v_y := j2
(if (v_x.fP == 0) = true then some true else some (v_y.fP == 0)).bind fun q3 => if q3 = true then
(if (v_x.fP == 0) = true then some (v_y.fP == 0) else some false).bind fun q4 => if q4 = true then
some 0
else
if (v_x.fP == 0) = true then
some 1
else
some (-1)
else
(yr v_x.fA v_y.fP).bind fun c5 => let QR : Int := c5.1
let Td : Int := c5.2
(yr v_y.fA v_x.fP).bind fun c6 => let QQ : Int := c6.1
let Tc : Int := c6.2
(if (decide (QR < QQ)) = true then some true else (if (QR == QQ) = true then some (decide (Td < Tc)) else some false).bind fun q7 => some q7).bind fun q8 => if q8 = true then
some (-1)
else
(if (QR == QQ) = true then some (Td == Tc) else some false).bind fun q9 => if q9 = true then
some 0
else
some 1
def yw (v_a : aw) (v_p : aw) : Option (a7) :=
let t1 : a7 := (⟨v_a.bA, v_p.bA⟩ : a7)
let t2 : a7 := (⟨v_a.aZ, v_p.aZ⟩ : a7)
let v_x : a7 := t1
let v_y : a7 := t2
(po v_x v_y).bind fun c3 => if (decide (c3 < 0)) = true then
some v_y
else
some v_x
def yx (v_a : aw) (v_p : aw) (v_b : aw) (v_q : aw) : Option (Int) :=
(sn v_a).bind fun c1 => (if (!c1) = true then some true else (sn v_p).bind fun c2 => some (!c2)).bind fun q3 => (if q3 = true then some true else (sn v_b).bind fun c4 => some (!c4)).bind fun q5 => (if q5 = true then some true else (sn v_q).bind fun c6 => some (!c6)).bind fun q7 => if q7 = true then
some 0
else
(yw v_a v_p).bind fun c8 => (yw v_b v_q).bind fun c9 => (po c8 c9).bind fun c10 => some c10
def qp (v_s : ByteArray) (st : Int) : Option ((Int) ⊕ ((Int) ⊕ (Bool))) :=
let v_i := st
if (decide (v_i < (v_s.size : Int))) = true then
(kM v_s v_i).bind fun b2 => let v_c : Int := b2
(if (decide (v_c < 97)) = true then some true else some (decide (v_c > 122))).bind fun q3 => (if q3 = true then (if (decide (v_c < 48)) = true then some true else some (decide (v_c > 57))).bind fun q4 => some q4 else some false).bind fun q5 => (if q5 = true then some (v_c != 45) else some false).bind fun q6 => if q6 = true then
some (.inr (.inr false))
else
let v_i : Int := (i64.wrap (v_i + 1))
some (.inl v_i)
else
some (.inr (.inl v_i))
def uV (v_s : ByteArray) : Option (Bool) :=
(if (decide ((v_s.size : Int) < 1)) = true then some true else some (decide ((v_s.size : Int) > 12))).bind fun q1 => if q1 = true then
some false
else
let v_i : Int := 0
(ah (qp v_s) ab v_i).bind fun r7 => match r7 with
| .inr m8 => some m8
| .inl m8 =>
let v_i := m8
some true
def iR (av : ByteArray) (st : Int) : Option ((Int) ⊕ ((Int))) :=
let v_k := st
(if (decide (v_k ≥ 0)) = true then (kM av v_k).bind fun b1 => some (b1 != 46) else some false).bind fun q2 => if q2 = true then
let v_k : Int := (i64.wrap (v_k - 1))
some (.inl v_k)
else
some (.inr v_k)
def dQ (av : ByteArray) : Option (ByteArray) :=
let v_k : Int := (i64.wrap ((av.size : Int) - 1))
(ah (iR av) ab v_k).bind fun r3 =>
let v_k := r3
if (decide (v_k < 0)) = true then
some (⟨#[]⟩ : ByteArray)
else
(M5 av v_k).bind fun b4 => some b4
def nz (st : (List ByteArray) × ByteArray) : Option (((List ByteArray) × ByteArray) ⊕ (((List ByteArray) × ByteArray))) :=
let v_l := st.1
let av := st.2
if (!(av.toList == (⟨#[]⟩ : ByteArray).toList)) = true then
(aU v_l [av]).bind fun b1 => let v_l : (List ByteArray) := b1
(dQ av).bind fun c2 => let av : ByteArray := c2
some (.inl (v_l, av))
else
some (.inr (v_l, av))
def yk (av : ByteArray) : Option ((List ByteArray)) :=
let v_l : (List ByteArray) := []
(ah (nz) ab (v_l, av)).bind fun r3 =>
let v_l := r3.1
let av := r3.2
some v_l
def nR (v_s : ByteArray) (st : Int × Int × Int) : Option ((Int × Int × Int) ⊕ ((Int × Int × Int) ⊕ (Bool))) :=
let n6 := st.1
let v_n := st.2.1
let v_i := st.2.2
if (decide (v_i ≤ (v_s.size : Int))) = true then
(if (decide (v_i < (v_s.size : Int))) = true then (kM v_s v_i).bind fun b3 => some (b3 != 46) else some false).bind fun q4 => if q4 = true then
let v_i : Int := (i64.wrap (v_i + 1))
some (.inl (n6, v_n, v_i))
else
(Il v_s n6 v_i).bind fun b5 => (uV b5).bind fun c6 => (if (!c6) = true then some true else (if (v_n == 0) = true then (Il v_s n6 v_i).bind fun b7 => some (!(b7.toList == (⟨#[114, 111, 111, 116]⟩ : ByteArray).toList)) else some false).bind fun q8 => some q8).bind fun q9 => if q9 = true then
some (.inr (.inr false))
else
let n6 : Int := (i64.wrap (v_i + 1))
let v_n : Int := (i64.wrap (v_n + 1))
let v_i : Int := (i64.wrap (v_i + 1))
some (.inl (n6, v_n, v_i))
else
some (.inr (.inl (n6, v_n, v_i)))
def uU (v_s : ByteArray) : Option (Bool) :=
let t1 : Int := 0
let t2 : Int := 0
let n6 : Int := t1
let v_n : Int := t2
let v_i : Int := 0
(ah (nR v_s) ab (n6, v_n, v_i)).bind fun r10 => match r10 with
| .inr m11 => some m11
| .inl m11 =>
let n6 := m11.1
let v_n := m11.2.1
let v_i := m11.2.2
some (decide (v_n ≤ 4))
def mX (v_c : az) (av : ByteArray) (st : Int) : Option ((Int) ⊕ ((Int) ⊕ (aC × Bool))) :=
let v_i := st
if (decide (v_i < (v_c.ae.length : Int))) = true then
(ax v_c.ae v_i).bind fun b1 => if (b1.aI.toList == av.toList) = true then
(ax v_c.ae v_i).bind fun b2 => let v_q : aC := b2
(aU ([] : (List dV)) v_q.bz).bind fun b3 => let v_q : aC := { v_q with bz := b3 }
some (.inr (.inr (v_q, true)))
else
let v_i : Int := (i64.wrap (v_i + 1))
some (.inl v_i)
else
some (.inr (.inl v_i))
def jg (v_c : az) (av : ByteArray) : Option (aC × Bool) :=
let v_i : Int := 0
(ah (mX v_c av) ab v_i).bind fun r4 => match r4 with
| .inr m5 => some m5
| .inl m5 =>
let v_i := m5
some ((⟨⟨#[]⟩, [], 0⟩ : aC), false)
def mW (v_c : az) (av : ByteArray) (st : (List ByteArray) × Int) : Option (((List ByteArray) × Int) ⊕ (((List ByteArray) × Int))) :=
let v_l := st.1
let v_i := st.2
if (decide (v_i < (v_c.ae.length : Int))) = true then
(if (!(av.toList == (⟨#[]⟩ : ByteArray).toList)) = true then (ax v_c.ae v_i).bind fun b1 => (dQ b1.aI).bind fun c2 => some (c2.toList == av.toList) else some false).bind fun q3 => if q3 = true then
(ax v_c.ae v_i).bind fun b4 => (aU v_l [b4.aI]).bind fun b5 => let v_l : (List ByteArray) := b5
let v_i : Int := (i64.wrap (v_i + 1))
some (.inl (v_l, v_i))
else
let v_i : Int := (i64.wrap (v_i + 1))
some (.inl (v_l, v_i))
else
some (.inr (v_l, v_i))
def eW (v_c : az) (av : ByteArray) : Option ((List ByteArray)) :=
let v_l : (List ByteArray) := []
let v_i : Int := 0
(ah (mW v_c av) ab (v_l, v_i)).bind fun r6 =>
let v_l := r6.1
let v_i := r6.2
some v_l
def jL (v_c : az) (av : ByteArray) : Option (Bool) :=
(jg v_c av).bind fun c1 => let bS : Bool := c1.2
(if bS = true then (eW v_c av).bind fun c2 => some ((c2.length : Int) == 0) else some false).bind fun q3 => some q3
def nQ (v_c : az) (st : Int) : Option ((Int) ⊕ ((Int) ⊕ (Int))) :=
let v_i := st
if (decide (v_i < (v_c.ak.length : Int))) = true then
(ax v_c.ak v_i).bind fun b4 => (uV b4).bind fun c5 => if (!c5) = true then
some (.inr (.inr 12))
else
let v_i : Int := (i64.wrap (v_i + 1))
some (.inl v_i)
else
some (.inr (.inl v_i))
def nN (aQ : Int) (v_c : az) (st : Int) : Option ((Int) ⊕ ((Int) ⊕ (Int))) :=
let v_k := st
if (decide (v_k < aQ)) = true then
(ax v_c.ak aQ).bind fun b8 => (ax v_c.ak v_k).bind fun b9 => if (b8.toList == b9.toList) = true then
some (.inr (.inr 7))
else
let v_k : Int := (i64.wrap (v_k + 1))
some (.inl v_k)
else
some (.inr (.inl v_k))
def nP (v_c : az) (st : Int) : Option ((Int) ⊕ ((Int) ⊕ (Int))) :=
let aQ := st
if (decide (aQ < (v_c.ak.length : Int))) = true then
let v_k : Int := 1
(ah (nN aQ v_c) ab v_k).bind fun r10 => match r10 with
| .inr m11 => some (.inr (.inr m11))
| .inl m11 =>
let v_k := m11
let aQ : Int := (i64.wrap (aQ + 1))
some (.inl aQ)
else
some (.inr (.inl aQ))
def rg (v_c : az) : Option (Int) :=
(if (decide ((v_c.ak.length : Int) < 1)) = true then some true else some (decide ((v_c.ak.length : Int) > 3))).bind fun q1 => (if q1 = true then some true else some (decide ((v_c.ae.length : Int) > 16))).bind fun q2 => if q2 = true then
some 4
else
(ax v_c.ak 0).bind fun b3 => if (!(b3.toList == (⟨#[]⟩ : ByteArray).toList)) = true then
some 12
else
let v_i : Int := 1
(ah (nQ v_c) ab v_i).bind fun r6 => match r6 with
| .inr m7 => some m7
| .inl m7 =>
let v_i := m7
let aQ : Int := 1
(ah (nP v_c) ab aQ).bind fun r12 => match r12 with
| .inr m13 => some m13
| .inl m13 =>
let aQ := m13
some 0
def la (v_q : aC) (st : Int) : Option ((Int) ⊕ ((Int) ⊕ (Int))) :=
let v_k := st
if (decide (v_k < (v_q.bz.length : Int))) = true then
(ax v_q.bz v_k).bind fun b10 => let v_x : dV := b10
(if (decide (v_x.jz < 0)) = true then some true else some (decide (v_x.jz > 10000))).bind fun q11 => (if q11 = true then some true else some (decide (v_x.pY < 0))).bind fun q12 => (if q12 = true then some true else some (decide (v_x.pY > 10000))).bind fun q13 => (if q13 = true then some true else some (decide (v_x.jz > v_x.pY))).bind fun q14 => if q14 = true then
some (.inr (.inr 1))
else
let v_k : Int := (i64.wrap (v_k + 1))
some (.inl v_k)
else
some (.inr (.inl v_k))
def tR (v_c : az) (v_i : Int) : Option (Int) :=
(ax v_c.ae v_i).bind fun b1 => let v_q : aC := b1
(uU v_q.aI).bind fun c2 => if (!c2) = true then
some 12
else
(if (decide (v_i > 0)) = true then (ax v_c.ae (i64.wrap (v_i - 1))).bind fun b3 => some (Op.bytesLess v_q.aI.toList b3.aI.toList || (v_q.aI.toList == b3.aI.toList)) else some false).bind fun q4 => if q4 = true then
some 7
else
(dQ v_q.aI).bind fun c5 => (jg v_c c5).bind fun c6 => let bS : Bool := c6.2
(if (decide (v_i > 0)) = true then some (!bS) else some false).bind fun q7 => if q7 = true then
some 12
else
(if (decide (v_q.dw < 1)) = true then some true else some (decide (v_q.dw > 1000000))).bind fun q8 => (if q8 = true then some true else some ((v_q.bz.length : Int) != (v_c.ak.length : Int))).bind fun q9 => if q9 = true then
some 1
else
let v_k : Int := 0
(ah (la v_q) ab v_k).bind fun r15 => match r15 with
| .inr m16 => some m16
| .inl m16 =>
let v_k := m16
some 0
def jF (bC : (List ByteArray)) (v_c : az) (v_k : Int) (st : Int × Int) : Option ((Int × Int) ⊕ ((Int × Int))) :=
let v_n := st.1
let v_j := st.2
if (decide (v_j < (bC.length : Int))) = true then
(ax bC v_j).bind fun b4 => (jg v_c b4).bind fun c5 => let v_q : aC := c5.1
(ax v_q.bz v_k).bind fun b6 => let v_n : Int := (i64.wrap (v_n + b6.jz))
let v_j : Int := (i64.wrap (v_j + 1))
some (.inl (v_n, v_j))
else
some (.inr (v_n, v_j))
def mS (v_c : az) (bC : (List ByteArray)) (st : Int) : Option ((Int) ⊕ ((Int) ⊕ (Bool))) :=
let v_k := st
(if (decide (v_k < (v_c.ak.length : Int))) = true then some (decide ((bC.length : Int) > 0)) else some false).bind fun q3 => if q3 = true then
let v_n : Int := 0
let v_j : Int := 0
(ah (jF bC v_c v_k) ab (v_n, v_j)).bind fun r7 =>
let v_n := r7.1
let v_j := r7.2
if (v_n != 10000) = true then
some (.inr (.inr false))
else
let v_k : Int := (i64.wrap (v_k + 1))
some (.inl v_k)
else
some (.inr (.inl v_k))
def mU (v_c : az) (st : Int) : Option ((Int) ⊕ ((Int) ⊕ (Bool))) :=
let v_i := st
if (decide (v_i < (v_c.ae.length : Int))) = true then
(ax v_c.ae v_i).bind fun b1 => (eW v_c b1.aI).bind fun c2 => let bC : (List ByteArray) := c2
let v_k : Int := 0
(ah (mS v_c bC) ab v_k).bind fun r8 => match r8 with
| .inr m9 => some (.inr (.inr m9))
| .inl m9 =>
let v_k := m9
let v_i : Int := (i64.wrap (v_i + 1))
some (.inl v_i)
else
some (.inr (.inl v_i))
def CM (v_c : az) : Option (Bool) :=
let v_i : Int := 0
(ah (mU v_c) ab v_i).bind fun r10 => match r10 with
| .inr m11 => some m11
| .inl m11 =>
let v_i := m11
some true
def pg (v_c : az) (st : Int) : Option ((Int) ⊕ ((Int) ⊕ (Int))) :=
let v_i := st
if (decide (v_i < (v_c.ae.length : Int))) = true then
(tR v_c v_i).bind fun c5 => if (c5 != 0) = true then
(tR v_c v_i).bind fun c6 => some (.inr (.inr c6))
else
let v_i : Int := (i64.wrap (v_i + 1))
some (.inl v_i)
else
some (.inr (.inl v_i))
def pf (v_c : az) (st : Int) : Option ((Int) ⊕ ((Int) ⊕ (Int))) :=
let v_k := st
if (decide (v_k < (v_c.ak.length : Int))) = true then
(ax v_c.ae 0).bind fun b9 => (ax b9.bz v_k).bind fun b10 => if (!((b10.jz == (⟨10000, 10000⟩ : dV).jz) && (b10.pY == (⟨10000, 10000⟩ : dV).pY))) = true then
some (.inr (.inr 13))
else
let v_k : Int := (i64.wrap (v_k + 1))
some (.inl v_k)
else
some (.inr (.inl v_k))
def tT (v_c : az) : Option (Int) :=
(rg v_c).bind fun c1 => if (c1 != 0) = true then
(rg v_c).bind fun c2 => some c2
else
(if ((v_c.ae.length : Int) == 0) = true then some true else (ax v_c.ae 0).bind fun b3 => some (!(b3.aI.toList == (⟨#[114, 111, 111, 116]⟩ : ByteArray).toList))).bind fun q4 => if q4 = true then
some 12
else
let v_i : Int := 0
(ah (pg v_c) ab v_i).bind fun r7 => match r7 with
| .inr m8 => some m8
| .inl m8 =>
let v_i := m8
let v_k : Int := 0
(ah (pf v_c) ab v_k).bind fun r11 => match r11 with
| .inr m12 => some m12
| .inl m12 =>
let v_k := m12
(CM v_c).bind fun c13 => if (!c13) = true then
some 13
else
some 0
def k8 (v_s : aa) (af : Int) (st : aw × Int) : Option ((aw × Int) ⊕ ((aw × Int))) :=
let v_v := st.1
let v_i := st.2
if (decide (v_i < (v_s.aq.length : Int))) = true then
(ax v_s.aq v_i).bind fun b1 => (if b1.fUp = true then (ax v_s.aq v_i).bind fun b2 => some (b2.bc == af) else some false).bind fun q3 => if q3 = true then
(ax v_s.aq v_i).bind fun b4 => (de v_v b4.jc).bind fun c5 => let v_v : aw := c5
let v_i : Int := (i64.wrap (v_i + 1))
some (.inl (v_v, v_i))
else
let v_i : Int := (i64.wrap (v_i + 1))
some (.inl (v_v, v_i))
else
some (.inr (v_v, v_i))
def iQ (v_s : aa) (af : Int) : Option (aw) :=
let v_v : aw := (⟨0, 0⟩ : aw)
let v_i : Int := 0
(ah (k8 v_s af) ab (v_v, v_i)).bind fun r6 =>
let v_v := r6.1
let v_i := r6.2
some v_v
def mR (v_s : aa) (af : Int) (st : aw × Int) : Option ((aw × Int) ⊕ ((aw × Int))) :=
let v_v := st.1
let v_i := st.2
if (decide (v_i < (v_s.bw.length : Int))) = true then
(ax v_s.bw v_i).bind fun b1 => let v_p : a6 := b1
(if (v_p.bc == af) = true then some (decide (v_p.o6 ≤ v_s.bR)) else some false).bind fun q2 => (if q2 = true then some (decide (v_s.bR < v_p.kV)) else some false).bind fun q3 => if q3 = true then
(de v_v v_p.kt).bind fun c4 => let v_v : aw := c4
let v_i : Int := (i64.wrap (v_i + 1))
some (.inl (v_v, v_i))
else
let v_i : Int := (i64.wrap (v_i + 1))
some (.inl (v_v, v_i))
else
some (.inr (v_v, v_i))
def sg (v_s : aa) (af : Int) : Option (aw) :=
let v_v : aw := (⟨0, 0⟩ : aw)
let v_i : Int := 0
(ah (mR v_s af) ab (v_v, v_i)).bind fun r5 =>
let v_v := r5.1
let v_i := r5.2
some v_v
def qo (v_s : aa) (iB : (List ByteArray)) (af : Int) (bZ : Bool) (st : aw × Int) : Option ((aw × Int) ⊕ ((aw × Int))) :=
let v_v := st.1
let v_i := st.2
if (decide (v_i ≥ 0)) = true then
(ax iB v_i).bind fun b6 => (jg v_s.bN b6).bind fun c7 => let v_q : aC := c7.1
(ax v_q.bz af).bind fun b8 => let zD : Int := b8.pY
(if bZ = true then
(ax v_q.bz af).bind fun b10 => let zD : Int := b10.jz
some zD
else
some zD).bind fun j9 => let zD := j9
(tV v_v zD).bind fun c11 => let v_v : aw := c11.1
let v_i : Int := (i64.wrap (v_i - 1))
some (.inl (v_v, v_i))
else
some (.inr (v_v, v_i))
def sf (v_s : aa) (av : ByteArray) (af : Int) (bZ : Bool) : Option (aw) :=
(jg v_s.bN av).bind fun c1 => let bS : Bool := c1.2
(if (!bS) = true then some true else some (decide (af < 0))).bind fun q2 => (if q2 = true then some true else some (decide (af ≥ (v_s.bN.ak.length : Int)))).bind fun q3 => if q3 = true then
some (⟨0, 0⟩ : aw)
else
(iQ v_s af).bind fun c4 => let v_v : aw := c4
(yk av).bind fun c5 => let iB : (List ByteArray) := c5
let v_i : Int := (i64.wrap ((iB.length : Int) - 2))
(ah (qo v_s iB af bZ) ab (v_v, v_i)).bind fun r12 =>
let v_v := r12.1
let v_i := r12.2
some v_v
def k9 (v_s : aa) (av : ByteArray) (af : Int) : Option (aw) :=
(sf v_s av af true).bind fun c1 => some c1
def uT (v_s : aa) (av : ByteArray) (af : Int) : Option (aw) :=
(sf v_s av af false).bind fun c1 => some c1
def CL (v_s : aa) (av : ByteArray) (af : Int) : Option (aw) :=
(jg v_s.bN av).bind fun c1 => let v_q : aC := c1.1
let bS : Bool := c1.2
if (!bS) = true then
some (⟨0, 0⟩ : aw)
else
(k9 v_s av af).bind fun c2 => (tV c2 v_q.dw).bind fun c3 => let v_v : aw := c3.1
some v_v
def lL (v_s : aa) (bD : Int) (st : Int) : Option ((Int) ⊕ ((Int) ⊕ (aB × Bool))) :=
let v_i := st
if (decide (v_i < (v_s.ao.length : Int))) = true then
(ax v_s.ao v_i).bind fun b1 => if (b1.fId == bD) = true then
(ax v_s.ao v_i).bind fun b2 => some (.inr (.inr (b2, true)))
else
let v_i : Int := (i64.wrap (v_i + 1))
some (.inl v_i)
else
some (.inr (.inl v_i))
def eF (v_s : aa) (bD : Int) : Option (aB × Bool) :=
let v_i : Int := 0
(ah (lL v_s bD) ab v_i).bind fun r3 => match r3 with
| .inr m4 => some m4
| .inl m4 =>
let v_i := m4
some ((⟨0, 0, ⟨#[]⟩, 0, 0, aw.zero, [], 0, 0, [], [], [], []⟩ : aB), false)
def na (v_s : aa) (v_a : aB) (st : Int) : Option ((Int) ⊕ ((Int))) :=
let v_k := st
(if (decide (v_k < (v_s.ao.length : Int))) = true then (ax v_s.ao v_k).bind fun b1 => some (decide (b1.fId < v_a.fId)) else some false).bind fun q2 => if q2 = true then
let v_k : Int := (i64.wrap (v_k + 1))
some (.inl v_k)
else
some (.inr v_k)
def eH (v_s : aa) (v_a : aB) : Option (aa) :=
let v_k : Int := 0
(ah (na v_s v_a) ab v_k).bind fun r3 =>
let v_k := r3
(hiO v_s.ao v_k).bind fun b4 => (aU ([] : (List aB)) b4).bind fun b5 => let v_l : (List aB) := b5
(aU v_l [v_a]).bind fun b6 => let v_l : (List aB) := b6
(if (decide (v_k < (v_s.ao.length : Int))) = true then (ax v_s.ao v_k).bind fun b7 => some (b7.fId == v_a.fId) else some false).bind fun q8 => (if q8 = true then
let v_k : Int := (i64.wrap (v_k + 1))
some v_k
else
some v_k).bind fun j9 => let v_k := j9
(loO v_s.ao v_k).bind fun b10 => (aU v_l b10).bind fun b11 => let v_s : aa := { v_s with ao := b11 }
some v_s
def dA (v_a : aB) : Option (Bool) :=
(if (v_a.ed == 1) = true then some true else some (v_a.ed == 2)).bind fun q1 => some q1
def ul (v_n : Int) : Option (Bool) :=
(if (decide (v_n ≥ 1)) = true then some (decide (v_n ≤ 1073741824)) else some false).bind fun q1 => some q1
def oL (v_a : aB) : Option ((List aO)) :=
some ([(⟨0, 0, v_a.bU, 1, (-1), (-1), 0⟩ : aO)] : (List aO))
def jr (v_s : aa) (st : Bool × (List aB) × Int) : Option ((Bool × (List aB) × Int) ⊕ ((Bool × (List aB) × Int))) :=
let cy := st.1
let v_l := st.2.1
let v_i := st.2.2
if (decide (v_i < (v_s.ao.length : Int))) = true then
(if (!cy) = true then (ax v_s.ao v_i).bind fun b1 => (dA b1).bind fun c2 => some (!c2) else some false).bind fun q3 => if q3 = true then
let cy : Bool := true
let v_i : Int := (i64.wrap (v_i + 1))
some (.inl (cy, v_l, v_i))
else
(ax v_s.ao v_i).bind fun b4 => (aU v_l [b4]).bind fun b5 => let v_l : (List aB) := b5
let v_i : Int := (i64.wrap (v_i + 1))
some (.inl (cy, v_l, v_i))
else
some (.inr (cy, v_l, v_i))
def ss (v_s : aa) : Option (aa) :=
let v_l : (List aB) := []
let cy : Bool := false
let v_i : Int := 0
(ah (jr v_s) ab (cy, v_l, v_i)).bind fun r6 =>
let cy := r6.1
let v_l := r6.2.1
let v_i := r6.2.2
let v_s : aa := { v_s with ao := v_l }
some v_s
def jt (v_s : aa) (st : Int × Int) : Option ((Int × Int) ⊕ ((Int × Int))) :=
let kG := st.1
let v_i := st.2
if (decide (v_i < (v_s.ao.length : Int))) = true then
(ax v_s.ao v_i).bind fun b11 => (dA b11).bind fun c12 => if c12 = true then
let kG : Int := (i64.wrap (kG + 1))
let v_i : Int := (i64.wrap (v_i + 1))
some (.inl (kG, v_i))
else
let v_i : Int := (i64.wrap (v_i + 1))
some (.inl (kG, v_i))
else
some (.inr (kG, v_i))
def su (v_s : aa) (v_a : aB) : Option (aa × Int) :=
(if (decide (v_a.fId < 0)) = true then some true else some (decide (v_a.fId > 9999))).bind fun q1 => (if q1 = true then some true else some (decide (v_a.dw < 0))).bind fun q2 => (if q2 = true then some true else some (decide (v_a.dw > 99))).bind fun q3 => (if q3 = true then some true else some (decide (v_a.bI < 0))).bind fun q4 => (if q4 = true then some true else some (decide (v_a.bI > 9))).bind fun q5 => (if q5 = true then some true else (ul v_a.bU.bA).bind fun c6 => some (!c6)).bind fun q7 => (if q7 = true then some true else (ul v_a.bU.aZ).bind fun c8 => some (!c8)).bind fun q9 => if q9 = true then
some (v_s, 1)
else
(eF v_s v_a.fId).bind fun c10 => let bS : Bool := c10.2
if bS = true then
some (v_s, 7)
else
let kG : Int := 0
let v_i : Int := 0
(ah (jt v_s) ab (kG, v_i)).bind fun r13 =>
let kG := r13.1
let v_i := r13.2
if (decide (kG ≥ 16)) = true then
some (v_s, 4)
else
(jL v_s.bN v_a.bW).bind fun c14 => if (!c14) = true then
some (v_s, 19)
else
(if (decide ((v_s.ao.length : Int) ≥ 16)) = true then
(ss v_s).bind fun c16 => let v_s : aa := c16
some v_s
else
some v_s).bind fun j15 => let v_s := j15
(oL v_a).bind fun c17 => (eH v_s (⟨v_a.fId, 1, v_a.bW, v_a.dw, v_a.bI, v_a.bU, c17, v_s.bR, 0, [], [], [], []⟩ : aB)).bind fun c18 => some (c18, 0)
def lJ (v_s : aa) (bD : Int) (st : (List Int) × (List al) × Int) : Option (((List Int) × (List al) × Int) ⊕ (((List Int) × (List al) × Int))) :=
let jy := st.1
let v_l := st.2.1
let v_i := st.2.2
if (decide (v_i < (v_s.ac.length : Int))) = true then
(ax v_s.ac v_i).bind fun b1 => if (b1.bE == bD) = true then
(ax v_s.ac v_i).bind fun b2 => (aU jy [b2.fId]).bind fun b3 => let jy : (List Int) := b3
let v_i : Int := (i64.wrap (v_i + 1))
some (.inl (jy, v_l, v_i))
else
(ax v_s.ac v_i).bind fun b4 => (aU v_l [b4]).bind fun b5 => let v_l : (List al) := b5
let v_i : Int := (i64.wrap (v_i + 1))
some (.inl (jy, v_l, v_i))
else
some (.inr (jy, v_l, v_i))
def lI (v_s : aa) (bD : Int) (st : (List bu) × Int) : Option (((List bu) × Int) ⊕ (((List bu) × Int))) :=
let iq := st.1
let aQ := st.2
if (decide (aQ < (v_s.aY.length : Int))) = true then
(ax v_s.aY aQ).bind fun b7 => if (b7.bE != bD) = true then
(ax v_s.aY aQ).bind fun b8 => (aU iq [b8]).bind fun b9 => let iq : (List bu) := b9
let aQ : Int := (i64.wrap (aQ + 1))
some (.inl (iq, aQ))
else
let aQ : Int := (i64.wrap (aQ + 1))
some (.inl (iq, aQ))
else
some (.inr (iq, aQ))
def ru (v_s : aa) (bD : Int) : Option (aa × (List Int)) :=
let v_l : (List al) := []
let iq : (List bu) := []
let jy : (List Int) := []
let v_i : Int := 0
(ah (lJ v_s bD) ab (jy, v_l, v_i)).bind fun r6 =>
let jy := r6.1
let v_l := r6.2.1
let v_i := r6.2.2
let aQ : Int := 0
(ah (lI v_s bD) ab (iq, aQ)).bind fun r10 =>
let iq := r10.1
let aQ := r10.2
let t11 : (List al) := v_l
let t12 : (List bu) := iq
let v_s : aa := { v_s with ac := t11 }
let v_s : aa := { v_s with aY := t12 }
some (v_s, jy)
def JX (v_s : aa) (bD : Int) (H7 : Int) : Option (aa × (List Int)) :=
(eF v_s bD).bind fun c1 => let v_a : aB := c1.1
let bS : Bool := c1.2
(if (!bS) = true then some true else (dA v_a).bind fun c2 => some (!c2)).bind fun q3 => if q3 = true then
some (v_s, [])
else
let v_a : aB := { v_a with ed := H7 }
let t4 : (List aO) := []
let t5 : (List Int) := []
let t6 : (List Int) := []
let t7 : (List Int) := []
let t8 : (List Int) := []
let v_a : aB := { v_a with cf := t4 }
let v_a : aB := { v_a with cA := t5 }
let v_a : aB := { v_a with iK := t6 }
let v_a : aB := { v_a with sI := t7 }
let v_a : aB := { v_a with tG := t8 }
(eH v_s v_a).bind fun c9 => (ru c9 bD).bind fun c10 => some c10
def lM (v_s : aa) (bD : Int) (st : Int) : Option ((Int) ⊕ ((Int) ⊕ (al × Bool))) :=
let v_i := st
if (decide (v_i < (v_s.ac.length : Int))) = true then
(ax v_s.ac v_i).bind fun b1 => if (b1.fId == bD) = true then
(ax v_s.ac v_i).bind fun b2 => some (.inr (.inr (b2, true)))
else
let v_i : Int := (i64.wrap (v_i + 1))
some (.inl v_i)
else
some (.inr (.inl v_i))
def eG (v_s : aa) (bD : Int) : Option (al × Bool) :=
let v_i : Int := 0
(ah (lM v_s bD) ab v_i).bind fun r3 => match r3 with
| .inr m4 => some m4
| .inl m4 =>
let v_i := m4
some ((⟨0, 0, 0, aw.zero, 0, 0, false, 0⟩ : al), false)
def lN (v_s : aa) (bD : Int) (st : (List al) × Int) : Option (((List al) × Int) ⊕ (((List al) × Int))) :=
let v_l := st.1
let v_i := st.2
if (decide (v_i < (v_s.ac.length : Int))) = true then
(ax v_s.ac v_i).bind fun b1 => if (b1.fId != bD) = true then
(ax v_s.ac v_i).bind fun b2 => (aU v_l [b2]).bind fun b3 => let v_l : (List al) := b3
let v_i : Int := (i64.wrap (v_i + 1))
some (.inl (v_l, v_i))
else
let v_i : Int := (i64.wrap (v_i + 1))
some (.inl (v_l, v_i))
else
some (.inr (v_l, v_i))
def pC (v_s : aa) (bD : Int) : Option (aa) :=
let v_l : (List al) := []
let v_i : Int := 0
(ah (lN v_s bD) ab (v_l, v_i)).bind fun r4 =>
let v_l := r4.1
let v_i := r4.2
let v_s : aa := { v_s with ac := v_l }
some v_s
def iz (v_l : (List Int)) (v_n : Int) (st : (List Int) × Int) : Option (((List Int) × Int) ⊕ (((List Int) × Int))) :=
let aj := st.1
let v_i := st.2
if (decide (v_i < (v_l.length : Int))) = true then
(ax v_l v_i).bind fun b1 => if (b1 != v_n) = true then
(ax v_l v_i).bind fun b2 => (aU aj [b2]).bind fun b3 => let aj : (List Int) := b3
let v_i : Int := (i64.wrap (v_i + 1))
some (.inl (aj, v_i))
else
let v_i : Int := (i64.wrap (v_i + 1))
some (.inl (aj, v_i))
else
some (.inr (aj, v_i))
def i6 (v_l : (List Int)) (v_n : Int) : Option ((List Int) × Bool) :=
let aj : (List Int) := []
let v_i : Int := 0
(ah (iz v_l v_n) ab (aj, v_i)).bind fun r4 =>
let aj := r4.1
let v_i := r4.2
some (aj, (decide ((aj.length : Int) < (v_l.length : Int))))
def lK (co : (List Int)) (st : aa × Int) : Option ((aa × Int) ⊕ ((aa × Int))) :=
let v_s := st.1
let v_i := st.2
if (decide (v_i < (co.length : Int))) = true then
(ax co v_i).bind fun b1 => (eG v_s b1).bind fun c2 => let v_c : al := c2.1
let bS : Bool := c2.2
if (!bS) = true then
let v_i : Int := (i64.wrap (v_i + 1))
some (.inl (v_s, v_i))
else
(eF v_s v_c.bE).bind fun c3 => let v_a : aB := c3.1
if v_c.bU = true then
(oL v_a).bind fun c4 => let t5 : Int := 1
let t6 : (List aO) := c4
let v_a : aB := { v_a with ed := t5 }
let v_a : aB := { v_a with cf := t6 }
let t7 : (List Int) := []
let t8 : (List Int) := []
let t9 : (List Int) := []
let t10 : (List Int) := []
let v_a : aB := { v_a with cA := t7 }
let v_a : aB := { v_a with iK := t8 }
let v_a : aB := { v_a with sI := t9 }
let v_a : aB := { v_a with tG := t10 }
let t11 : Int := 0
let t12 : Int := v_s.bR
let v_a : aB := { v_a with cJ := t11 }
let v_a : aB := { v_a with bO := t12 }
(eH v_s v_a).bind fun c13 => (ru c13 v_c.bE).bind fun c14 => let v_s : aa := c14.1
let v_i : Int := (i64.wrap (v_i + 1))
some (.inl (v_s, v_i))
else
(pC v_s v_c.fId).bind fun c15 => let v_s : aa := c15
let s9 : Bool := false
(i6 v_a.cA v_c.fId).bind fun c16 => let v_a : aB := { v_a with cA := c16.1 }
let s9 : Bool := c16.2
(if (!s9) = true then
(aU ([] : (List Int)) v_a.iK).bind fun b18 => (aU b18 [v_c.fId]).bind fun b19 => let v_a : aB := { v_a with iK := b19 }
some v_a
else
some v_a).bind fun j17 => let v_a := j17
(eH v_s v_a).bind fun c20 => let v_s : aa := c20
let v_i : Int := (i64.wrap (v_i + 1))
some (.inl (v_s, v_i))
else
some (.inr (v_s, v_i))
def i7 (v_s : aa) (co : (List Int)) : Option (aa) :=
let v_i : Int := 0
(ah (lK co) ab (v_s, v_i)).bind fun r21 =>
let v_s := r21.1
let v_i := r21.2
some v_s
def ju (v_s : aa) (st : (List Int) × Int) : Option (((List Int) × Int) ⊕ (((List Int) × Int))) :=
let v_l := st.1
let v_i := st.2
if (decide (v_i < (v_s.ao.length : Int))) = true then
(ax v_s.ao v_i).bind fun b1 => (if (b1.ed == 2) = true then (ax v_s.ao v_i).bind fun b2 => some (decide ((i64.wrap (v_s.bR - b2.bO)) ≥ 15)) else some false).bind fun q3 => if q3 = true then
(ax v_s.ao v_i).bind fun b4 => (aU v_l [b4.fId]).bind fun b5 => let v_l : (List Int) := b5
let v_i : Int := (i64.wrap (v_i + 1))
some (.inl (v_l, v_i))
else
let v_i : Int := (i64.wrap (v_i + 1))
some (.inl (v_l, v_i))
else
some (.inr (v_l, v_i))
def sw (v_s : aa) : Option ((List Int)) :=
let v_l : (List Int) := []
let v_i : Int := 0
(ah (ju v_s) ab (v_l, v_i)).bind fun r6 =>
let v_l := r6.1
let v_i := r6.2
some v_l
def ye (v_n : Int) : Option (Bool) :=
(if (decide (v_n ≥ 1)) = true then some (decide (v_n ≤ 1073741824)) else some false).bind fun q1 => some q1
def pb (v_a : aO) (qz : Int) : Option (Int) :=
(if (decide (v_a.bI < 0)) = true then some true else some (decide (v_a.bI > 9))).bind fun q1 => (if q1 = true then some true else some (decide (v_a.bc < 0))).bind fun q2 => (if q2 = true then some true else some (decide (v_a.bc ≥ qz))).bind fun q3 => (if q3 = true then some true else (ye v_a.cT.bA).bind fun c4 => some (!c4)).bind fun q5 => (if q5 = true then some true else (ye v_a.cT.aZ).bind fun c6 => some (!c6)).bind fun q7 => (if q7 = true then some true else some (decide (v_a.bK < (-1)))).bind fun q8 => (if q8 = true then some true else some (decide (v_a.bK > 999))).bind fun q9 => (if q9 = true then some true else some (decide (v_a.fM < (-1)))).bind fun q10 => (if q10 = true then some true else some (decide (v_a.fM > 99))).bind fun q11 => (if q11 = true then some true else (if (decide (v_a.bK ≥ 0)) = true then some (decide (v_a.fM < 0)) else some false).bind fun q12 => some q12).bind fun q13 => if q13 = true then
some 1
else
(if (decide (v_a.iL < 0)) = true then some true else some (decide (v_a.iL > 50))).bind fun q14 => if q14 = true then
some 4
else
some 0
def om (v_l : (List aO)) (v_a : aO) (st : (List aO) × Bool × Int) : Option (((List aO) × Bool × Int) ⊕ (((List aO) × Bool × Int))) :=
let aj := st.1
let cy := st.2.1
let v_i := st.2.2
if (decide (v_i < (v_l.length : Int))) = true then
(if (!cy) = true then (ax v_l v_i).bind fun b1 => some (decide (b1.bI > v_a.bI)) else some false).bind fun q2 => (if q2 = true then
(aU aj [v_a]).bind fun b4 => let aj : (List aO) := b4
let cy : Bool := true
some (aj, cy)
else
some (aj, cy)).bind fun j3 => let aj := j3.1
let cy := j3.2
(ax v_l v_i).bind fun b5 => if (b5.bI != v_a.bI) = true then
(ax v_l v_i).bind fun b6 => (aU aj [b6]).bind fun b7 => let aj : (List aO) := b7
let v_i : Int := (i64.wrap (v_i + 1))
some (.inl (aj, cy, v_i))
else
let v_i : Int := (i64.wrap (v_i + 1))
some (.inl (aj, cy, v_i))
else
some (.inr (aj, cy, v_i))
def EG (v_l : (List aO)) (v_a : aO) : Option ((List aO) × Int) :=
let aj : (List aO) := []
let cy : Bool := (v_a.iL == 0)
let v_a : aO := { v_a with jJ := 0 }
let v_i : Int := 0
(ah (om v_l v_a) ab (aj, cy, v_i)).bind fun r8 =>
let aj := r8.1
let cy := r8.2.1
let v_i := r8.2.2
(if (!cy) = true then
(aU aj [v_a]).bind fun b10 => let aj : (List aO) := b10
some aj
else
some aj).bind fun j9 => let aj := j9
if (decide ((aj.length : Int) > 8)) = true then
some ([], 4)
else
some (aj, 0)
def oq (v_l : (List aO)) (cM : Int) (st : Int) : Option ((Int) ⊕ ((Int) ⊕ (aO × Bool))) :=
let v_i := st
if (decide (v_i < (v_l.length : Int))) = true then
(ax v_l v_i).bind fun b1 => if (b1.bI == cM) = true then
(ax v_l v_i).bind fun b2 => some (.inr (.inr (b2, true)))
else
let v_i : Int := (i64.wrap (v_i + 1))
some (.inl v_i)
else
some (.inr (.inl v_i))
def Jq (v_l : (List aO)) (cM : Int) : Option (aO × Bool) :=
let v_i : Int := 0
(ah (oq v_l cM) ab v_i).bind fun r3 => match r3 with
| .inr m4 => some m4
| .inl m4 =>
let v_i := m4
some ((⟨0, 0, aw.zero, 0, 0, 0, 0⟩ : aO), false)
def mO (v_l : (List aO)) (cM : Int) (st : Bool × (List aO) × Int) : Option ((Bool × (List aO) × Int) ⊕ ((Bool × (List aO) × Int))) :=
let bS := st.1
let aj := st.2.1
let v_i := st.2.2
if (decide (v_i < (v_l.length : Int))) = true then
(ax v_l v_i).bind fun b1 => let v_a : aO := b1
if (v_a.bI == cM) = true then
let bS : Bool := true
let t2 : Int := (i64.wrap (v_a.iL - 1))
let t3 : Int := 0
let v_a : aO := { v_a with iL := t2 }
let v_a : aO := { v_a with jJ := t3 }
if (decide (v_a.iL ≤ 0)) = true then
let v_i : Int := (i64.wrap (v_i + 1))
some (.inl (bS, aj, v_i))
else
(aU aj [v_a]).bind fun b4 => let aj : (List aO) := b4
let v_i : Int := (i64.wrap (v_i + 1))
some (.inl (bS, aj, v_i))
else
(aU aj [v_a]).bind fun b5 => let aj : (List aO) := b5
let v_i : Int := (i64.wrap (v_i + 1))
some (.inl (bS, aj, v_i))
else
some (.inr (bS, aj, v_i))
def CI (v_l : (List aO)) (cM : Int) : Option ((List aO) × Bool) :=
let aj : (List aO) := []
let bS : Bool := false
let v_i : Int := 0
(ah (mO v_l cM) ab (bS, aj, v_i)).bind fun r6 =>
let bS := r6.1
let aj := r6.2.1
let v_i := r6.2.2
some (aj, bS)
def qn (cM : Int) (st : (List aO) × Int) : Option (((List aO) × Int) ⊕ (((List aO) × Int))) :=
let aj := st.1
let v_i := st.2
if (decide (v_i < (aj.length : Int))) = true then
(ax aj v_i).bind fun b2 => if (b2.bI == cM) = true then
(ax aj v_i).bind fun b3 => (ax aj v_i).bind fun b4 => let aj : (List aO) := (List.set aj (Int.toNat v_i) ({ b4 with jJ := (if 100 < (i64.wrap (b3.jJ + 1)) then 100 else (i64.wrap (b3.jJ + 1))) }))
let v_i : Int := (i64.wrap (v_i + 1))
some (.inl (aj, v_i))
else
let v_i : Int := (i64.wrap (v_i + 1))
some (.inl (aj, v_i))
else
some (.inr (aj, v_i))
def CJ (v_l : (List aO)) (cM : Int) : Option ((List aO)) :=
(aU ([] : (List aO)) v_l).bind fun b1 => let aj : (List aO) := b1
let v_i : Int := 0
(ah (qn cM) ab (aj, v_i)).bind fun r5 =>
let aj := r5.1
let v_i := r5.2
some aj
def je (v_l : (List aO)) (af : Int) (st : aw × Int) : Option ((aw × Int) ⊕ ((aw × Int))) :=
let v_v := st.1
let v_i := st.2
if (decide (v_i < (v_l.length : Int))) = true then
(ax v_l v_i).bind fun b1 => if (b1.bc == af) = true then
(ax v_l v_i).bind fun b2 => (ax v_l v_i).bind fun b3 => (ax v_l v_i).bind fun b4 => (ax v_l v_i).bind fun b5 => (de v_v (⟨(i64.wrap (b2.cT.bA * b3.iL)), (i64.wrap (b4.cT.aZ * b5.iL))⟩ : aw)).bind fun c6 => let v_v : aw := c6
let v_i : Int := (i64.wrap (v_i + 1))
some (.inl (v_v, v_i))
else
let v_i : Int := (i64.wrap (v_i + 1))
some (.inl (v_v, v_i))
else
some (.inr (v_v, v_i))
def ka (v_l : (List aO)) (af : Int) : Option (aw) :=
let v_v : aw := (⟨0, 0⟩ : aw)
let v_i : Int := 0
(ah (je v_l af) ab (v_v, v_i)).bind fun r7 =>
let v_v := r7.1
let v_i := r7.2
some v_v
def jT (iB : (List ByteArray)) (av : ByteArray) (st : Int) : Option ((Int) ⊕ ((Int) ⊕ (Bool))) :=
let v_i := st
if (decide (v_i < (iB.length : Int))) = true then
(ax iB v_i).bind fun b2 => if (b2.toList == av.toList) = true then
some (.inr (.inr true))
else
let v_i : Int := (i64.wrap (v_i + 1))
some (.inl v_i)
else
some (.inr (.inl v_i))
def mH (v8 : ByteArray) (av : ByteArray) : Option (Bool) :=
(yk v8).bind fun c1 => let iB : (List ByteArray) := c1
let v_i : Int := 0
(ah (jT iB av) ab v_i).bind fun r3 => match r3 with
| .inr m4 => some m4
| .inl m4 =>
let v_i := m4
some false
def lG (v_s : aa) (af : Int) (av : ByteArray) (xq : Bool) (l7 : Int) (st : aw × Int) : Option ((aw × Int) ⊕ ((aw × Int))) :=
let v_v := st.1
let v_i := st.2
if (decide (v_i < (v_s.ac.length : Int))) = true then
(ax v_s.ac v_i).bind fun b1 => (eF v_s b1.bE).bind fun c2 => let v_a : aB := c2.1
let bS : Bool := c2.2
(if bS = true then (ax v_s.ac v_i).bind fun b3 => some (b3.bc == af) else some false).bind fun q4 => (if q4 = true then (mH v_a.bW av).bind fun c5 => some c5 else some false).bind fun q6 => (if q6 = true then (if xq = true then some true else some (v_a.dw == l7)).bind fun q7 => some q7 else some false).bind fun q8 => if q8 = true then
(ax v_s.ac v_i).bind fun b9 => (de v_v b9.cT).bind fun c10 => let v_v : aw := c10
let v_i : Int := (i64.wrap (v_i + 1))
some (.inl (v_v, v_i))
else
let v_i : Int := (i64.wrap (v_i + 1))
some (.inl (v_v, v_i))
else
some (.inr (v_v, v_i))
def uf (v_s : aa) (av : ByteArray) (af : Int) (xq : Bool) (l7 : Int) : Option (aw) :=
let v_v : aw := (⟨0, 0⟩ : aw)
let v_i : Int := 0
(ah (lG v_s af av xq l7) ab (v_v, v_i)).bind fun r11 =>
let v_v := r11.1
let v_i := r11.2
some v_v
def ez (v_s : aa) (av : ByteArray) (af : Int) : Option (aw) :=
(uf v_s av af true 0).bind fun c1 => some c1
def oz (v_s : aa) (av : ByteArray) (af : Int) (l7 : Int) : Option (aw) :=
(uf v_s av af false l7).bind fun c1 => some c1
def iy (v_s : aa) (af : Int) (av : ByteArray) (st : aw × Int) : Option ((aw × Int) ⊕ ((aw × Int))) :=
let v_v := st.1
let v_i := st.2
if (decide (v_i < (v_s.ao.length : Int))) = true then
(ax v_s.ao v_i).bind fun b1 => (dA b1).bind fun c2 => (if c2 = true then (ax v_s.ao v_i).bind fun b3 => (mH b3.bW av).bind fun c4 => some c4 else some false).bind fun q5 => if q5 = true then
(ax v_s.ao v_i).bind fun b6 => (ka b6.cf af).bind fun c7 => (de v_v c7).bind fun c8 => let v_v : aw := c8
let v_i : Int := (i64.wrap (v_i + 1))
some (.inl (v_v, v_i))
else
let v_i : Int := (i64.wrap (v_i + 1))
some (.inl (v_v, v_i))
else
some (.inr (v_v, v_i))
def nC (v_s : aa) (av : ByteArray) (af : Int) : Option (aw) :=
let v_v : aw := (⟨0, 0⟩ : aw)
let v_i : Int := 0
(ah (iy v_s af av) ab (v_v, v_i)).bind fun r9 =>
let v_v := r9.1
let v_i := r9.2
some v_v
def lH (iB : (List ByteArray)) (v_s : aa) (af : Int) (rB : aw) (st : Int) : Option ((Int) ⊕ ((Int) ⊕ (Bool))) :=
let v_i := st
if (decide (v_i < (iB.length : Int))) = true then
(ax iB v_i).bind fun b2 => (ez v_s b2 af).bind fun c3 => (de c3 rB).bind fun c4 => let v_v : aw := c4
(ax iB v_i).bind fun b5 => (uT v_s b5 af).bind fun c6 => (fy v_v c6).bind fun c7 => if (!c7) = true then
some (.inr (.inr false))
else
(ax iB v_i).bind fun b8 => (if (b8.toList == (⟨#[114, 111, 111, 116]⟩ : ByteArray).toList) = true then (iQ v_s af).bind fun c9 => (sg v_s af).bind fun c10 => (uX c9 c10).bind fun c11 => (fy v_v c11).bind fun c12 => some (!c12) else some false).bind fun q13 => if q13 = true then
some (.inr (.inr false))
else
let v_i : Int := (i64.wrap (v_i + 1))
some (.inl v_i)
else
some (.inr (.inl v_i))
def ug (v_s : aa) (av : ByteArray) (af : Int) (rB : aw) : Option (Bool) :=
(yk av).bind fun c1 => let iB : (List ByteArray) := c1
let v_i : Int := 0
(ah (lH iB v_s af rB) ab v_i).bind fun r14 => match r14 with
| .inr m15 => some m15
| .inl m15 =>
let v_i := m15
some true
def va (v_s : aa) (v_a : ByteArray) (v_b : ByteArray) (af : Int) : Option (Bool) :=
(ez v_s v_a af).bind fun c1 => (k9 v_s v_a af).bind fun c2 => (ez v_s v_b af).bind fun c3 => (k9 v_s v_b af).bind fun c4 => (yx c1 c2 c3 c4).bind fun c5 => let v_o : Int := c5
(if (decide (v_o < 0)) = true then some true else (if (v_o == 0) = true then some (Op.bytesLess v_a.toList v_b.toList) else some false).bind fun q6 => some q6).bind fun q7 => some q7
def iY (aj : (List ByteArray)) (v_s : aa) (v_i : Int) (v_l : (List ByteArray)) (af : Int) (st : Int) : Option ((Int) ⊕ ((Int))) :=
let v_k := st
(if (decide (v_k < (aj.length : Int))) = true then (ax v_l v_i).bind fun b2 => (ax aj v_k).bind fun b3 => (va v_s b2 b3 af).bind fun c4 => some (!c4) else some false).bind fun q5 => if q5 = true then
let v_k : Int := (i64.wrap (v_k + 1))
some (.inl v_k)
else
some (.inr v_k)
def lB (v_l : (List ByteArray)) (v_s : aa) (af : Int) (st : (List ByteArray) × Int) : Option (((List ByteArray) × Int) ⊕ (((List ByteArray) × Int))) :=
let aj := st.1
let v_i := st.2
if (decide (v_i < (v_l.length : Int))) = true then
let v_k : Int := 0
(ah (iY aj v_s v_i v_l af) ab v_k).bind fun r6 =>
let v_k := r6
(hiO aj v_k).bind fun b7 => (aU ([] : (List ByteArray)) b7).bind fun b8 => let v_x : (List ByteArray) := b8
(ax v_l v_i).bind fun b9 => (aU v_x [b9]).bind fun b10 => let v_x : (List ByteArray) := b10
(loO aj v_k).bind fun b11 => (aU v_x b11).bind fun b12 => let aj : (List ByteArray) := b12
let v_i : Int := (i64.wrap (v_i + 1))
some (.inl (aj, v_i))
else
some (.inr (aj, v_i))
def y5 (v_s : aa) (av : ByteArray) (af : Int) : Option ((List ByteArray)) :=
(eW v_s.bN av).bind fun c1 => let v_l : (List ByteArray) := c1
let aj : (List ByteArray) := []
let v_i : Int := 0
(ah (lB v_l v_s af) ab (aj, v_i)).bind fun r13 =>
let aj := r13.1
let v_i := r13.2
some aj
def jq (self : (aa → ByteArray → Int → Option ((List ByteArray)))) (v_l : (List ByteArray)) (v_s : aa) (af : Int) (st : (List ByteArray) × Int) : Option (((List ByteArray) × Int) ⊕ (((List ByteArray) × Int))) :=
let aj := st.1
let v_i := st.2
if (decide (v_i < (v_l.length : Int))) = true then
(ax v_l v_i).bind fun b2 => (self v_s b2 af).bind fun c3 => (aU aj c3).bind fun b4 => let aj : (List ByteArray) := b4
let v_i : Int := (i64.wrap (v_i + 1))
some (.inl (aj, v_i))
else
some (.inr (aj, v_i))
def iX : Nat → aa → ByteArray → Int → Option ((List ByteArray))
| 0 => fun _ _ _ => none
| fuel + 1 => fun v_s av af =>
let self := iX fuel
(y5 v_s av af).bind fun c1 => let v_l : (List ByteArray) := c1
if ((v_l.length : Int) == 0) = true then
some ([av] : (List ByteArray))
else
let aj : (List ByteArray) := []
let v_i : Int := 0
(ah (jq self v_l v_s af) ab (aj, v_i)).bind fun r5 =>
let aj := r5.1
let v_i := r5.2
some aj
def sr (v_s : aa) (af : Int) : Option ((List ByteArray)) :=
(iX ab v_s (⟨#[114, 111, 111, 116]⟩ : ByteArray) af).bind fun c1 => some c1
def iZ (aj : (List aB)) (v_a : aB) (st : Int) : Option ((Int) ⊕ ((Int))) :=
let v_k := st
(if (decide (v_k < (aj.length : Int))) = true then (ax aj v_k).bind fun b4 => some (decide (b4.bI ≥ v_a.bI)) else some false).bind fun q5 => if q5 = true then
let v_k : Int := (i64.wrap (v_k + 1))
some (.inl v_k)
else
some (.inr v_k)
def lD (v_s : aa) (n5 : ByteArray) (st : (List aB) × Int) : Option (((List aB) × Int) ⊕ (((List aB) × Int))) :=
let aj := st.1
let v_i := st.2
if (decide (v_i < (v_s.ao.length : Int))) = true then
(ax v_s.ao v_i).bind fun b1 => let v_a : aB := b1
(dA v_a).bind fun c2 => (if (!c2) = true then some true else some (!(v_a.bW.toList == n5.toList))).bind fun q3 => if q3 = true then
let v_i : Int := (i64.wrap (v_i + 1))
some (.inl (aj, v_i))
else
let v_k : Int := 0
(ah (iZ aj v_a) ab v_k).bind fun r6 =>
let v_k := r6
(hiO aj v_k).bind fun b7 => (aU ([] : (List aB)) b7).bind fun b8 => let v_x : (List aB) := b8
(aU v_x [v_a]).bind fun b9 => let v_x : (List aB) := b9
(loO aj v_k).bind fun b10 => (aU v_x b10).bind fun b11 => let aj : (List aB) := b11
let v_i : Int := (i64.wrap (v_i + 1))
some (.inl (aj, v_i))
else
some (.inr (aj, v_i))
def lC (aj : (List aB)) (st : (List Int) × Int) : Option (((List Int) × Int) ⊕ (((List Int) × Int))) :=
let v_l := st.1
let aQ := st.2
if (decide (aQ < (aj.length : Int))) = true then
(ax aj aQ).bind fun b13 => (aU v_l [b13.fId]).bind fun b14 => let v_l : (List Int) := b14
let aQ : Int := (i64.wrap (aQ + 1))
some (.inl (v_l, aQ))
else
some (.inr (v_l, aQ))
def y8 (v_s : aa) (n5 : ByteArray) : Option ((List Int)) :=
let aj : (List aB) := []
let v_i : Int := 0
(ah (lD v_s n5) ab (aj, v_i)).bind fun r12 =>
let aj := r12.1
let v_i := r12.2
let v_l : (List Int) := []
let aQ : Int := 0
(ah (lC aj) ab (v_l, aQ)).bind fun r15 =>
let v_l := r15.1
let aQ := r15.2
some v_l
def mG (v_a : aO) (v_n : aM) : Option (Int) :=
(if (!v_n.fUp) = true then some true else some (v_n.bc != v_a.bc)).bind fun q1 => if q1 = true then
some 4
else
(if (v_a.fM == (-1)) = true then some true else some (v_a.bK == v_n.fId)).bind fun q2 => (if q2 = true then some true else (if (v_a.bK == (-1)) = true then some (v_a.fM == v_n.fM) else some false).bind fun q3 => some q3).bind fun q4 => if q4 = true then
some 1
else
if (v_a.fM == v_n.fM) = true then
some 2
else
some 3
def sq (v_a : aO) (v_n : aM) : Option (Bool) :=
(mG v_a v_n).bind fun c1 => if (c1 == 1) = true then
some true
else
if (c1 == 2) = true then
some (decide (v_a.jJ ≥ 2))
else
if (c1 == 3) = true then
some (decide (v_a.jJ ≥ 4))
else
some false
def mQ (v_s : aa) (bD : Int) (st : Int) : Option ((Int) ⊕ ((Int) ⊕ (aM × Bool))) :=
let v_i := st
if (decide (v_i < (v_s.aq.length : Int))) = true then
(ax v_s.aq v_i).bind fun b1 => if (b1.fId == bD) = true then
(ax v_s.aq v_i).bind fun b2 => some (.inr (.inr (b2, true)))
else
let v_i : Int := (i64.wrap (v_i + 1))
some (.inl v_i)
else
some (.inr (.inl v_i))
def kZ (v_s : aa) (bD : Int) : Option (aM × Bool) :=
let v_i : Int := 0
(ah (mQ v_s bD) ab v_i).bind fun r3 => match r3 with
| .inr m4 => some m4
| .inl m4 =>
let v_i := m4
some ((⟨0, 0, 0, aw.zero, 0, 0, false⟩ : aM), false)
def yf (v_n : Int) : Option (Bool) :=
(if (decide (v_n ≥ 0)) = true then some (decide (v_n ≤ 1073741824)) else some false).bind fun q1 => some q1
def ot (v_s : aa) (v_n : aM) (st : Int) : Option ((Int) ⊕ ((Int))) :=
let v_k := st
(if (decide (v_k < (v_s.aq.length : Int))) = true then (ax v_s.aq v_k).bind fun b1 => some (decide (b1.fId < v_n.fId)) else some false).bind fun q2 => if q2 = true then
let v_k : Int := (i64.wrap (v_k + 1))
some (.inl v_k)
else
some (.inr v_k)
def Ay (v_s : aa) (v_n : aM) : Option (aa) :=
let v_k : Int := 0
(ah (ot v_s v_n) ab v_k).bind fun r3 =>
let v_k := r3
(hiO v_s.aq v_k).bind fun b4 => (aU ([] : (List aM)) b4).bind fun b5 => let v_l : (List aM) := b5
(aU v_l [v_n]).bind fun b6 => let v_l : (List aM) := b6
(if (decide (v_k < (v_s.aq.length : Int))) = true then (ax v_s.aq v_k).bind fun b7 => some (b7.fId == v_n.fId) else some false).bind fun q8 => (if q8 = true then
let v_k : Int := (i64.wrap (v_k + 1))
some v_k
else
some v_k).bind fun j9 => let v_k := j9
(loO v_s.aq v_k).bind fun b10 => (aU v_l b10).bind fun b11 => let v_s : aa := { v_s with aq := b11 }
some v_s
def p9 (v_s : aa) (v_n : aM) : Option (aa × Int) :=
(if (decide (v_n.fId < 0)) = true then some true else some (decide (v_n.fId > 999))).bind fun q1 => (if q1 = true then some true else some (decide (v_n.bc < 0))).bind fun q2 => (if q2 = true then some true else some (decide (v_n.bc ≥ (v_s.bN.ak.length : Int)))).bind fun q3 => (if q3 = true then some true else some (decide (v_n.fM < 0))).bind fun q4 => (if q4 = true then some true else some (decide (v_n.fM > 99))).bind fun q5 => (if q5 = true then some true else (yf v_n.jc.bA).bind fun c6 => some (!c6)).bind fun q7 => (if q7 = true then some true else (yf v_n.jc.aZ).bind fun c8 => some (!c8)).bind fun q9 => if q9 = true then
some (v_s, 1)
else
(kZ v_s v_n.fId).bind fun c10 => let v_x : aM := c10.1
let bS : Bool := c10.2
(if bS = true then some v_x.fUp else some false).bind fun q11 => if q11 = true then
some (v_s, 7)
else
(if (!bS) = true then some (decide ((v_s.aq.length : Int) ≥ 12)) else some false).bind fun q12 => if q12 = true then
some (v_s, 4)
else
(Ay v_s (⟨v_n.fId, v_n.bc, v_n.fM, v_n.jc, v_s.bR, 0, true⟩ : aM)).bind fun c13 => some (c13, 0)
def CK (v_s : aa) (bD : Int) (H8 : Int) : Option (aa × Int) :=
(kZ v_s bD).bind fun c1 => let v_n : aM := c1.1
let bS : Bool := c1.2
if (!bS) = true then
some (v_s, 2)
else
if (!v_n.fUp) = true then
some (v_s, 18)
else
if (decide (H8 < 0)) = true then
some (v_s, 15)
else
if (decide (H8 < v_n.cJ)) = true then
some (v_s, 15)
else
if (decide ((i64.wrap (H8 - v_n.cJ)) > 1)) = true then
some (v_s, 1)
else
let t2 : Int := v_s.bR
let t3 : Int := H8
let v_n : aM := { v_n with bO := t2 }
let v_n : aM := { v_n with cJ := t3 }
(Ay v_s v_n).bind fun c4 => some (c4, 0)
def yi (v_s : aa) (bD : Int) : Option (aa) :=
(kZ v_s bD).bind fun c1 => let v_n : aM := c1.1
let bS : Bool := c1.2
if (!bS) = true then
some v_s
else
let v_n : aM := { v_n with fUp := false }
(Ay v_s v_n).bind fun c2 => some c2
def mP (v_s : aa) (bD : Int) (st : aw × Int) : Option ((aw × Int) ⊕ ((aw × Int))) :=
let v_v := st.1
let v_i := st.2
if (decide (v_i < (v_s.ac.length : Int))) = true then
(ax v_s.ac v_i).bind fun b1 => if (b1.bK == bD) = true then
(ax v_s.ac v_i).bind fun b2 => (de v_v b2.cT).bind fun c3 => let v_v : aw := c3
let v_i : Int := (i64.wrap (v_i + 1))
some (.inl (v_v, v_i))
else
let v_i : Int := (i64.wrap (v_i + 1))
some (.inl (v_v, v_i))
else
some (.inr (v_v, v_i))
def yg (v_s : aa) (bD : Int) : Option (aw) :=
let v_v : aw := (⟨0, 0⟩ : aw)
let v_i : Int := 0
(ah (mP v_s bD) ab (v_v, v_i)).bind fun r4 =>
let v_v := r4.1
let v_i := r4.2
some v_v
def uS (v_s : aa) (bD : Int) : Option (aw) :=
(kZ v_s bD).bind fun c1 => let v_n : aM := c1.1
let bS : Bool := c1.2
(if (!bS) = true then some true else some (!v_n.fUp)).bind fun q2 => if q2 = true then
some (⟨0, 0⟩ : aw)
else
(yg v_s bD).bind fun c3 => (uX v_n.jc c3).bind fun c4 => some c4
def jK (v_s : aa) (st : (List Int) × Int) : Option (((List Int) × Int) ⊕ (((List Int) × Int))) :=
let v_l := st.1
let v_i := st.2
if (decide (v_i < (v_s.aq.length : Int))) = true then
(ax v_s.aq v_i).bind fun b1 => (if b1.fUp = true then (ax v_s.aq v_i).bind fun b2 => some (decide ((i64.wrap (v_s.bR - b2.bO)) ≥ 10)) else some false).bind fun q3 => if q3 = true then
(ax v_s.aq v_i).bind fun b4 => (aU v_l [b4.fId]).bind fun b5 => let v_l : (List Int) := b5
let v_i : Int := (i64.wrap (v_i + 1))
some (.inl (v_l, v_i))
else
let v_i : Int := (i64.wrap (v_i + 1))
some (.inl (v_l, v_i))
else
some (.inr (v_l, v_i))
def rf (v_s : aa) : Option ((List Int)) :=
let v_l : (List Int) := []
let v_i : Int := 0
(ah (jK v_s) ab (v_l, v_i)).bind fun r6 =>
let v_l := r6.1
let v_i := r6.2
some v_l
def yV (v_s : aa) (v8 : ByteArray) (v_a : aO) : Option (Bool) :=
(ez v_s v8 v_a.bc).bind fun c1 => (de c1 v_a.cT).bind fun c2 => (k9 v_s v8 v_a.bc).bind fun c3 => (fy c2 c3).bind fun c4 => some c4
def ue (v_s : aa) (v8 : ByteArray) (af : Int) (l7 : Int) : Option (Bool) :=
(oz v_s v8 af l7).bind fun c1 => (CL v_s v8 af).bind fun c2 => (fy c1 c2).bind fun c3 => some c3
def g9 (v_s : aa) (v_c : al) (st : Int) : Option ((Int) ⊕ ((Int))) :=
let v_k := st
(if (decide (v_k < (v_s.ac.length : Int))) = true then (ax v_s.ac v_k).bind fun b9 => some (decide (b9.fId < v_c.fId)) else some false).bind fun q10 => if q10 = true then
let v_k : Int := (i64.wrap (v_k + 1))
some (.inl v_k)
else
some (.inr v_k)
def mF (v_s : aa) (v_n : aM) (v_a : aB) (v_x : aO) : Option (aa × al) :=
let v_s : aa := { v_s with rQ := (i64.wrap (v_s.rQ + 1)) }
let v_c : al := (⟨(i64.wrap ((i64.wrap (v_s.ql * 2 ^ (min (Int.toNat 20) (IntKind.i64.bits)))) + v_s.rQ)), v_a.fId, v_n.fId, v_x.cT, v_x.bI, v_n.bc, (v_a.ed == 1), 0⟩ : al)
(CI v_a.cf v_x.bI).bind fun c1 => let v_a : aB := { v_a with cf := c1.1 }
(if v_c.bU = true then
let t3 : Int := 2
let t4 : (List aO) := []
let t5 : Int := v_s.bR
let t6 : Int := 0
let v_a : aB := { v_a with ed := t3 }
let v_a : aB := { v_a with cf := t4 }
let v_a : aB := { v_a with bO := t5 }
let v_a : aB := { v_a with cJ := t6 }
some v_a
else
(aU ([] : (List Int)) v_a.cA).bind fun b7 => (aU b7 [v_c.fId]).bind fun b8 => let v_a : aB := { v_a with cA := b8 }
some v_a).bind fun j2 => let v_a := j2
let v_k : Int := 0
(ah (g9 v_s v_c) ab v_k).bind fun r11 =>
let v_k := r11
(hiO v_s.ac v_k).bind fun b12 => (aU ([] : (List al)) b12).bind fun b13 => let v_l : (List al) := b13
(aU v_l [v_c]).bind fun b14 => let v_l : (List al) := b14
(loO v_s.ac v_k).bind fun b15 => (aU v_l b15).bind fun b16 => let v_s : aa := { v_s with ac := b16 }
(eH v_s v_a).bind fun c17 => some (c17, v_c)
def jp (v_s : aa) (cx : Int) (st : (List bu) × Int) : Option (((List bu) × Int) ⊕ (((List bu) × Int))) :=
let v_l := st.1
let v_i := st.2
if (decide (v_i < (v_s.aY.length : Int))) = true then
(ax v_s.aY v_i).bind fun b1 => if (b1.bK != cx) = true then
(ax v_s.aY v_i).bind fun b2 => (aU v_l [b2]).bind fun b3 => let v_l : (List bu) := b3
let v_i : Int := (i64.wrap (v_i + 1))
some (.inl (v_l, v_i))
else
let v_i : Int := (i64.wrap (v_i + 1))
some (.inl (v_l, v_i))
else
some (.inr (v_l, v_i))
def fu (v_s : aa) (cx : Int) : Option (aa) :=
let v_l : (List bu) := []
let v_i : Int := 0
(ah (jp v_s cx) ab (v_l, v_i)).bind fun r4 =>
let v_l := r4.1
let v_i := r4.2
let v_s : aa := { v_s with aY := v_l }
some v_s
def lz (v_s : aa) (cx : Int) (st : Int) : Option ((Int) ⊕ ((Int) ⊕ (bu × Bool))) :=
let v_i := st
if (decide (v_i < (v_s.aY.length : Int))) = true then
(ax v_s.aY v_i).bind fun b1 => if (b1.bK == cx) = true then
(ax v_s.aY v_i).bind fun b2 => some (.inr (.inr (b2, true)))
else
let v_i : Int := (i64.wrap (v_i + 1))
some (.inl v_i)
else
some (.inr (.inl v_i))
def yS (v_s : aa) (cx : Int) : Option (bu × Bool) :=
let v_i : Int := 0
(ah (lz v_s cx) ab v_i).bind fun r3 => match r3 with
| .inr m4 => some m4
| .inl m4 =>
let v_i := m4
some ((⟨0, 0, 0⟩ : bu), false)
def jS (v_s : aa) (eP : Int) (cM : Int) (st : Int) : Option ((Int) ⊕ ((Int) ⊕ (Bool))) :=
let v_i := st
if (decide (v_i < (v_s.aY.length : Int))) = true then
(ax v_s.aY v_i).bind fun b1 => (if (b1.bE == eP) = true then (ax v_s.aY v_i).bind fun b2 => some (b2.bI == cM) else some false).bind fun q3 => if q3 = true then
some (.inr (.inr true))
else
let v_i : Int := (i64.wrap (v_i + 1))
some (.inl v_i)
else
some (.inr (.inl v_i))
def u6 (v_s : aa) (eP : Int) (cM : Int) : Option (Bool) :=
let v_i : Int := 0
(ah (jS v_s eP cM) ab v_i).bind fun r4 => match r4 with
| .inr m5 => some m5
| .inl m5 =>
let v_i := m5
some false
def lA (v_s : aa) (v_x : bu) (st : Int) : Option ((Int) ⊕ ((Int))) :=
let v_k := st
(if (decide (v_k < (v_s.aY.length : Int))) = true then (ax v_s.aY v_k).bind fun b1 => some (decide (b1.bK < v_x.bK)) else some false).bind fun q2 => if q2 = true then
let v_k : Int := (i64.wrap (v_k + 1))
some (.inl v_k)
else
some (.inr v_k)
def rr (v_s : aa) (v_x : bu) : Option (aa) :=
let v_k : Int := 0
(ah (lA v_s v_x) ab v_k).bind fun r3 =>
let v_k := r3
(hiO v_s.aY v_k).bind fun b4 => (aU ([] : (List bu)) b4).bind fun b5 => let v_l : (List bu) := b5
(aU v_l [v_x]).bind fun b6 => let v_l : (List bu) := b6
(loO v_s.aY v_k).bind fun b7 => (aU v_l b7).bind fun b8 => let v_s : aa := { v_s with aY := b8 }
some v_s
def rq (v_s : aa) (v_n : aM) (v_x : bu) : Option (aa × Int × al × Bool) :=
(eF v_s v_x.bE).bind fun c1 => let v_a : aB := c1.1
let bS : Bool := c1.2
(Jq v_a.cf v_x.bI).bind fun c2 => let v_k : aO := c2.1
let xp : Bool := c2.2
(if (!bS) = true then some true else (dA v_a).bind fun c3 => some (!c3)).bind fun q4 => (if q4 = true then some true else some (!xp)).bind fun q5 => (if q5 = true then some true else (sq v_k v_n).bind fun c6 => some (!c6)).bind fun q7 => (if q7 = true then some true else (fy v_k.cT v_n.jc).bind fun c8 => some (!c8)).bind fun q9 => (if q9 = true then some true else (yV v_s v_a.bW v_k).bind fun c10 => some (!c10)).bind fun q11 => (if q11 = true then some true else (ue v_s v_a.bW v_n.bc v_a.dw).bind fun c12 => some (!c12)).bind fun q13 => if q13 = true then
(fu v_s v_n.fId).bind fun c14 => some (c14, 0, (⟨0, 0, 0, aw.zero, 0, 0, false, 0⟩ : al), false)
else
(uS v_s v_n.fId).bind fun c15 => (fy v_k.cT c15).bind fun c16 => (if (!c16) = true then some true else (ug v_s v_a.bW v_n.bc v_k.cT).bind fun c17 => some (!c17)).bind fun q18 => if q18 = true then
some (v_s, 3, (⟨0, 0, 0, aw.zero, 0, 0, false, 0⟩ : al), true)
else
(fu v_s v_n.fId).bind fun c19 => (mF c19 v_n v_a v_k).bind fun c20 => let v_t : aa := c20.1
let v_c : al := c20.2
some (v_t, 1, v_c, true)
def u7 (v_s : aa) (v_n : aM) (v_a : aB) (v_x : aO) (kI : Bool) : Option (aa × Int × al) :=
(yV v_s v_a.bW v_x).bind fun c1 => let bS : Bool := c1
(mG v_x v_n).bind fun c2 => (if (c2 == 4) = true then some true else (fy v_x.cT v_n.jc).bind fun c3 => some (!c3)).bind fun q4 => (if q4 = true then some true else (if kI = true then some (!bS) else some false).bind fun q5 => some q5).bind fun q6 => if q6 = true then
some (v_s, 0, (⟨0, 0, 0, aw.zero, 0, 0, false, 0⟩ : al))
else
(sq v_x v_n).bind fun c7 => if (!c7) = true then
(if (kI == bS) = true then
(CJ v_a.cf v_x.bI).bind fun c9 => let v_a : aB := { v_a with cf := c9 }
(eH v_s v_a).bind fun c10 => let v_s : aa := c10
some (v_a, v_s)
else
some (v_a, v_s)).bind fun j8 => let v_a := j8.1
let v_s := j8.2
some (v_s, 0, (⟨0, 0, 0, aw.zero, 0, 0, false, 0⟩ : al))
else
(ug v_s v_a.bW v_n.bc v_x.cT).bind fun c11 => if (!c11) = true then
some (v_s, 0, (⟨0, 0, 0, aw.zero, 0, 0, false, 0⟩ : al))
else
(uS v_s v_n.fId).bind fun c12 => (fy v_x.cT c12).bind fun c13 => if c13 = true then
(mF v_s v_n v_a v_x).bind fun c14 => let v_t : aa := c14.1
let v_c : al := c14.2
some (v_t, 1, v_c)
else
(if kI = true then (u6 v_s v_a.fId v_x.bI).bind fun c15 => some (!c15) else some false).bind fun q16 => if q16 = true then
(rr v_s (⟨v_n.fId, v_a.fId, v_x.bI⟩ : bu)).bind fun c17 => some (c17, 2, (⟨0, 0, 0, aw.zero, 0, 0, false, 0⟩ : al))
else
some (v_s, 0, (⟨0, 0, 0, aw.zero, 0, 0, false, 0⟩ : al))
def g6 (v_a : aB) (v_j : Int) (co : (List Int)) (v_n : aM) (kI : Bool) (st : aa × Int) : Option ((aa × Int) ⊕ ((aa × Int) ⊕ (aa × Int × al))) :=
let v_s := st.1
let v_k := st.2
if (decide (v_k < (v_a.cf.length : Int))) = true then
(ax co v_j).bind fun b8 => (eF v_s b8).bind fun c9 => let v_b : aB := c9.1
(ax v_a.cf v_k).bind fun b10 => (u7 v_s v_n v_b b10 kI).bind fun c11 => let v_t : aa := c11.1
let zB : Int := c11.2.1
let v_c : al := c11.2.2
let v_s : aa := v_t
if (zB != 0) = true then
some (.inr (.inr (v_s, zB, v_c)))
else
let v_k : Int := (i64.wrap (v_k + 1))
some (.inl (v_s, v_k))
else
some (.inr (.inl (v_s, v_k)))
def g7 (co : (List Int)) (v_i : Int) (jA : (List ByteArray)) (v_n : aM) (kI : Bool) (st : aa × Int) : Option ((aa × Int) ⊕ ((aa × Int) ⊕ (aa × Int × al))) :=
let v_s := st.1
let v_j := st.2
if (decide (v_j < (co.length : Int))) = true then
(ax co v_j).bind fun b4 => (eF v_s b4).bind fun c5 => let v_a : aB := c5.1
(ax jA v_i).bind fun b6 => (ue v_s b6 v_n.bc v_a.dw).bind fun c7 => if (!c7) = true then
let v_j : Int := (i64.wrap (v_j + 1))
some (.inl (v_s, v_j))
else
let v_k : Int := 0
(ah (g6 v_a v_j co v_n kI) ab (v_s, v_k)).bind fun r12 => match r12 with
| .inr m13 => some (.inr (.inr m13))
| .inl m13 =>
let v_s := m13.1
let v_k := m13.2
let v_j : Int := (i64.wrap (v_j + 1))
some (.inl (v_s, v_j))
else
some (.inr (.inl (v_s, v_j)))
def g8 (jA : (List ByteArray)) (v_n : aM) (kI : Bool) (st : aa × Int) : Option ((aa × Int) ⊕ ((aa × Int) ⊕ (aa × Int × al))) :=
let v_s := st.1
let v_i := st.2
if (decide (v_i < (jA.length : Int))) = true then
(ax jA v_i).bind fun b2 => (y8 v_s b2).bind fun c3 => let co : (List Int) := c3
let v_j : Int := 0
(ah (g7 co v_i jA v_n kI) ab (v_s, v_j)).bind fun r14 => match r14 with
| .inr m15 => some (.inr (.inr m15))
| .inl m15 =>
let v_s := m15.1
let v_j := m15.2
let v_i : Int := (i64.wrap (v_i + 1))
some (.inl (v_s, v_i))
else
some (.inr (.inl (v_s, v_i)))
def eb (v_s : aa) (v_n : aM) (kI : Bool) : Option (aa × Int × al) :=
(sr v_s v_n.bc).bind fun c1 => let jA : (List ByteArray) := c1
let v_i : Int := 0
(ah (g8 jA v_n kI) ab (v_s, v_i)).bind fun r16 => match r16 with
| .inr m17 => some m17
| .inl m17 =>
let v_s := m17.1
let v_i := m17.2
some (v_s, 0, (⟨0, 0, 0, aw.zero, 0, 0, false, 0⟩ : al))
def u9 (v_s : aa) (cx : Int) : Option (aa × Int × al) :=
(kZ v_s cx).bind fun c1 => let v_n : aM := c1.1
let bS : Bool := c1.2
(if (!bS) = true then some true else some (!v_n.fUp)).bind fun q2 => (if q2 = true then some true else some (decide ((v_s.ac.length : Int) ≥ 200))).bind fun q3 => (if q3 = true then some true else some (decide (v_s.rQ ≥ 1048575))).bind fun q4 => if q4 = true then
some (v_s, 0, (⟨0, 0, 0, aw.zero, 0, 0, false, 0⟩ : al))
else
(yS v_s cx).bind fun c5 => let v_x : bu := c5.1
let Xd : Bool := c5.2
if Xd = true then
(rq v_s v_n v_x).bind fun c6 => let v_t : aa := c6.1
let zB : Int := c6.2.1
let v_c : al := c6.2.2.1
let cy : Bool := c6.2.2.2
let v_s : aa := v_t
if cy = true then
some (v_s, zB, v_c)
else
(eb v_s v_n true).bind fun c7 => let v_s : aa := c7.1
let xo : Int := c7.2.1
let wa : al := c7.2.2
if (xo != 0) = true then
some (v_s, xo, wa)
else
(eb v_s v_n false).bind fun c8 => some c8
else
(eb v_s v_n true).bind fun c9 => let v_s : aa := c9.1
let xo : Int := c9.2.1
let wa : al := c9.2.2
if (xo != 0) = true then
some (v_s, xo, wa)
else
(eb v_s v_n false).bind fun c10 => some c10
def iW (cx : Int) (st : aa × (List al) × Int) : Option ((aa × (List al) × Int) ⊕ ((aa × (List al) × Int))) :=
let v_s := st.1
let v_l := st.2.1
let v_k := st.2.2
if (decide (v_k < 3)) = true then
(u9 v_s cx).bind fun c1 => let v_t : aa := c1.1
let zB : Int := c1.2.1
let v_c : al := c1.2.2
let v_s : aa := v_t
if (zB != 1) = true then
some (.inr (v_s, v_l, v_k))
else
(aU v_l [v_c]).bind fun b2 => let v_l : (List al) := b2
let v_k : Int := (i64.wrap (v_k + 1))
some (.inl (v_s, v_l, v_k))
else
some (.inr (v_s, v_l, v_k))
def pB (v_s : aa) (cx : Int) : Option (aa × (List al)) :=
let v_l : (List al) := []
let v_k : Int := 0
(ah (iW cx) ab (v_s, v_l, v_k)).bind fun r3 =>
let v_s := r3.1
let v_l := r3.2.1
let v_k := r3.2.2
some (v_s, v_l)
def lu (v_n : Int) : Option (Int) :=
(if (decide (v_n < 0)) = true then some true else some (decide (v_n > 1125899906842624))).bind fun q1 => if q1 = true then
some 0
else
some v_n
def nW (v_n : Int) (bZ : (List Int)) (gx : (List Int)) (cp : (List Int)) (st : (List Int) × Int × Int) : Option (((List Int) × Int × Int) ⊕ (((List Int) × Int × Int))) :=
let aj := st.1
let cr := st.2.1
let v_i := st.2.2
if (decide (v_i < v_n)) = true then
(ax bZ v_i).bind fun b2 => (lu b2).bind fun c3 => (ax gx v_i).bind fun b4 => (lu b4).bind fun c5 => (ax cp v_i).bind fun b6 => (lu b6).bind fun c7 => let v_x : Int := (if cr < (if c7 < (if c5 < c3 then c5 else c3) then c7 else (if c5 < c3 then c5 else c3)) then cr else (if c7 < (if c5 < c3 then c5 else c3) then c7 else (if c5 < c3 then c5 else c3)))
(aU aj [v_x]).bind fun b8 => let aj : (List Int) := b8
let cr : Int := (i64.wrap (cr - v_x))
let v_i : Int := (i64.wrap (v_i + 1))
some (.inl (aj, cr, v_i))
else
some (.inr (aj, cr, v_i))
def nU (v_n : Int) (gx : (List Int)) (cp : (List Int)) (st : (List Int) × Int × Int) : Option (((List Int) × Int × Int) ⊕ (((List Int) × Int × Int))) :=
let aj := st.1
let cr := st.2.1
let aQ := st.2.2
if (decide (aQ < v_n)) = true then
(ax gx aQ).bind fun b10 => (lu b10).bind fun c11 => (ax cp aQ).bind fun b12 => (lu b12).bind fun c13 => (ax aj aQ).bind fun b14 => let XV : Int := (if cr < (if 0 > (i64.wrap ((if c13 < c11 then c13 else c11) - b14)) then 0 else (i64.wrap ((if c13 < c11 then c13 else c11) - b14))) then cr else (if 0 > (i64.wrap ((if c13 < c11 then c13 else c11) - b14)) then 0 else (i64.wrap ((if c13 < c11 then c13 else c11) - b14))))
(ax aj aQ).bind fun b15 => (ax aj aQ).bind fun b16 => let aj : (List Int) := (List.set aj (Int.toNat aQ) (i64.wrap (b15 + XV)))
let cr : Int := (i64.wrap (cr - XV))
let aQ : Int := (i64.wrap (aQ + 1))
some (.inl (aj, cr, aQ))
else
some (.inr (aj, cr, aQ))
def u4 (fw : Int) (bZ : (List Int)) (gx : (List Int)) (cp : (List Int)) : Option ((List Int)) :=
let v_n : Int := (if (cp.length : Int) < (if (gx.length : Int) < (bZ.length : Int) then (gx.length : Int) else (bZ.length : Int)) then (cp.length : Int) else (if (gx.length : Int) < (bZ.length : Int) then (gx.length : Int) else (bZ.length : Int)))
(lu fw).bind fun c1 => let cr : Int := c1
let aj : (List Int) := []
let v_i : Int := 0
(ah (nW v_n bZ gx cp) ab (aj, cr, v_i)).bind fun r9 =>
let aj := r9.1
let cr := r9.2.1
let v_i := r9.2.2
let aQ : Int := 0
(ah (nU v_n gx cp) ab (aj, cr, aQ)).bind fun r17 =>
let aj := r17.1
let cr := r17.2.1
let aQ := r17.2.2
some aj
def pz (self : (aa → ByteArray → Int → Int → Option ((List ai)))) (bC : (List ByteArray)) (v_s : aa) (af : Int) (st : (List Int) × (List Int) × (List Int) × Int) : Option (((List Int) × (List Int) × (List Int) × Int) ⊕ (((List Int) × (List Int) × (List Int) × Int))) :=
let bZ := st.1
let cp := st.2.1
let gx := st.2.2.1
let v_i := st.2.2.2
if (decide (v_i < (bC.length : Int))) = true then
(ax bC v_i).bind fun b2 => (k9 v_s b2 af).bind fun c3 => (aU bZ [c3.bA]).bind fun b4 => let bZ : (List Int) := b4
(ax bC v_i).bind fun b5 => (uT v_s b5 af).bind fun c6 => (aU cp [c6.bA]).bind fun b7 => let cp : (List Int) := b7
(ax bC v_i).bind fun b8 => (ez v_s b8 af).bind fun c9 => (ax bC v_i).bind fun b10 => (nC v_s b10 af).bind fun c11 => (aU gx [(i64.wrap (c9.bA + c11.bA))]).bind fun b12 => let gx : (List Int) := b12
let v_i : Int := (i64.wrap (v_i + 1))
some (.inl (bZ, cp, gx, v_i))
else
some (.inr (bZ, cp, gx, v_i))
def py (self : (aa → ByteArray → Int → Int → Option ((List ai)))) (bC : (List ByteArray)) (v_s : aa) (af : Int) (v_x : (List Int)) (st : (List ai) × Int) : Option (((List ai) × Int) ⊕ (((List ai) × Int))) :=
let aj := st.1
let aQ := st.2
if (decide (aQ < (bC.length : Int))) = true then
(ax bC aQ).bind fun b15 => (ax v_x aQ).bind fun b16 => (self v_s b15 af b16).bind fun c17 => (aU aj c17).bind fun b18 => let aj : (List ai) := b18
let aQ : Int := (i64.wrap (aQ + 1))
some (.inl (aj, aQ))
else
some (.inr (aj, aQ))
def lw : Nat → aa → ByteArray → Int → Int → Option ((List ai))
| 0 => fun _ _ _ _ => none
| fuel + 1 => fun v_s av af WL =>
let self := lw fuel
(eW v_s.bN av).bind fun c1 => let bC : (List ByteArray) := c1
if ((bC.length : Int) == 0) = true then
some ([(⟨av, WL⟩ : ai)] : (List ai))
else
let bZ : (List Int) := []
let gx : (List Int) := []
let cp : (List Int) := []
let v_i : Int := 0
(ah (pz self bC v_s af) ab (bZ, cp, gx, v_i)).bind fun r13 =>
let bZ := r13.1
let cp := r13.2.1
let gx := r13.2.2.1
let v_i := r13.2.2.2
(u4 WL bZ gx cp).bind fun c14 => let v_x : (List Int) := c14
let aj : (List ai) := []
let aQ : Int := 0
(ah (py self bC v_s af v_x) ab (aj, aQ)).bind fun r19 =>
let aj := r19.1
let aQ := r19.2
some aj
def f8 (aj : (List ai)) (v_i : Int) (v_l : (List ai)) (st : Int) : Option ((Int) ⊕ ((Int))) :=
let v_k := st
(if (decide (v_k < (aj.length : Int))) = true then (ax aj v_k).bind fun b3 => (ax v_l v_i).bind fun b4 => some (Op.bytesLess b3.aI.toList b4.aI.toList) else some false).bind fun q5 => if q5 = true then
let v_k : Int := (i64.wrap (v_k + 1))
some (.inl v_k)
else
some (.inr v_k)
def jn (v_l : (List ai)) (st : (List ai) × Int) : Option (((List ai) × Int) ⊕ (((List ai) × Int))) :=
let aj := st.1
let v_i := st.2
if (decide (v_i < (v_l.length : Int))) = true then
let v_k : Int := 0
(ah (f8 aj v_i v_l) ab v_k).bind fun r6 =>
let v_k := r6
(hiO aj v_k).bind fun b7 => (aU ([] : (List ai)) b7).bind fun b8 => let v_x : (List ai) := b8
(ax v_l v_i).bind fun b9 => (aU v_x [b9]).bind fun b10 => let v_x : (List ai) := b10
(loO aj v_k).bind fun b11 => (aU v_x b11).bind fun b12 => let aj : (List ai) := b12
let v_i : Int := (i64.wrap (v_i + 1))
some (.inl (aj, v_i))
else
some (.inr (aj, v_i))
def pA (v_s : aa) (af : Int) : Option ((List ai)) :=
let aj : (List ai) := []
(iQ v_s af).bind fun c1 => (lw ab v_s (⟨#[114, 111, 111, 116]⟩ : ByteArray) af c1.bA).bind fun c2 => let v_l : (List ai) := c2
let v_i : Int := 0
(ah (jn v_l) ab (aj, v_i)).bind fun r13 =>
let aj := r13.1
let v_i := r13.2
some aj
def mY (v_l : (List ai)) (av : ByteArray) (st : Int) : Option ((Int) ⊕ ((Int) ⊕ (Int))) :=
let v_i := st
if (decide (v_i < (v_l.length : Int))) = true then
(ax v_l v_i).bind fun b2 => if (b2.aI.toList == av.toList) = true then
(ax v_l v_i).bind fun b3 => some (.inr (.inr b3.bA))
else
let v_i : Int := (i64.wrap (v_i + 1))
some (.inl v_i)
else
some (.inr (.inl v_i))
def yM (v_s : aa) (af : Int) (av : ByteArray) : Option (Int) :=
(pA v_s af).bind fun c1 => let v_l : (List ai) := c1
let v_i : Int := 0
(ah (mY v_l av) ab v_i).bind fun r4 => match r4 with
| .inr m5 => some m5
| .inl m5 =>
let v_i := m5
some 0
def iU (v_s : aa) (v_c : al) : Option (ByteArray) :=
(eF v_s v_c.bE).bind fun c1 => let v_a : aB := c1.1
some v_a.bW
def jO (v_a : aB) (av : ByteArray) (v_s : aa) (af : Int) (bZ : Int) (l8 : Int) (st : Int) : Option ((Int) ⊕ ((Int) ⊕ (Int))) :=
let v_k := st
(if (decide (v_k < (v_a.cf.length : Int))) = true then (dA v_a).bind fun c6 => some c6 else some false).bind fun q7 => (if q7 = true then some (v_a.bW.toList == av.toList) else some false).bind fun q8 => if q8 = true then
(ax v_a.cf v_k).bind fun b9 => (if (b9.bc == af) = true then (ax v_a.cf v_k).bind fun b10 => some (decide ((i64.wrap (b10.cT.bA + l8)) ≤ bZ)) else some false).bind fun q11 => if q11 = true then
(nC v_s av af).bind fun c12 => some (.inr (.inr (if (i64.wrap (bZ - l8)) < c12.bA then (i64.wrap (bZ - l8)) else c12.bA)))
else
let v_k : Int := (i64.wrap (v_k + 1))
some (.inl v_k)
else
some (.inr (.inl v_k))
def jP (v_s : aa) (av : ByteArray) (af : Int) (bZ : Int) (l8 : Int) (st : Int) : Option ((Int) ⊕ ((Int) ⊕ (Int))) :=
let v_i := st
if (decide (v_i < (v_s.ao.length : Int))) = true then
(ax v_s.ao v_i).bind fun b5 => let v_a : aB := b5
let v_k : Int := 0
(ah (jO v_a av v_s af bZ l8) ab v_k).bind fun r13 => match r13 with
| .inr m14 => some (.inr (.inr m14))
| .inl m14 =>
let v_k := m14
let v_i : Int := (i64.wrap (v_i + 1))
some (.inl v_i)
else
some (.inr (.inl v_i))
def rn (v_s : aa) (av : ByteArray) (af : Int) : Option (Int) :=
(ez v_s av af).bind fun c1 => (k9 v_s av af).bind fun c2 => let t3 : Int := c1.bA
let t4 : Int := c2.bA
let l8 : Int := t3
let bZ : Int := t4
let v_i : Int := 0
(ah (jP v_s av af bZ l8) ab v_i).bind fun r15 => match r15 with
| .inr m16 => some m16
| .inl m16 =>
let v_i := m16
some 0
def ow (v_l : (List Int)) (v_n : Int) (st : Int) : Option ((Int) ⊕ ((Int) ⊕ (Bool))) :=
let v_i := st
if (decide (v_i < (v_l.length : Int))) = true then
(ax v_l v_i).bind fun b1 => if (b1 == v_n) = true then
some (.inr (.inr true))
else
let v_i : Int := (i64.wrap (v_i + 1))
some (.inl v_i)
else
some (.inr (.inl v_i))
def wY (v_l : (List Int)) (v_n : Int) : Option (Bool) :=
let v_i : Int := 0
(ah (ow v_l v_n) ab v_i).bind fun r2 => match r2 with
| .inr m3 => some m3
| .inl m3 =>
let v_i := m3
some false
def jm (v_s : aa) (af : Int) (av : ByteArray) (v_l : (List Int)) (st : Int × Int) : Option ((Int × Int) ⊕ ((Int × Int))) :=
let v_n := st.1
let v_i := st.2
if (decide (v_i < (v_s.ac.length : Int))) = true then
(ax v_s.ac v_i).bind fun b1 => let v_c : al := b1
(if (v_c.bc == af) = true then (if (av.toList == (⟨#[]⟩ : ByteArray).toList) = true then some true else (iU v_s v_c).bind fun c2 => some (c2.toList == av.toList)).bind fun q3 => some q3 else some false).bind fun q4 => (if q4 = true then (if (v_c.kW != 0) = true then some true else (wY v_l v_c.fId).bind fun c5 => some c5).bind fun q6 => some q6 else some false).bind fun q7 => if q7 = true then
let v_n : Int := (i64.wrap (v_n + v_c.cT.bA))
let v_i : Int := (i64.wrap (v_i + 1))
some (.inl (v_n, v_i))
else
let v_i : Int := (i64.wrap (v_i + 1))
some (.inl (v_n, v_i))
else
some (.inr (v_n, v_i))
def mE (v_s : aa) (av : ByteArray) (af : Int) (v_l : (List Int)) : Option (Int) :=
let v_n : Int := 0
let v_i : Int := 0
(ah (jm v_s af av v_l) ab (v_n, v_i)).bind fun r8 =>
let v_n := r8.1
let v_i := r8.2
some v_n
def jl (v_s : aa) (af : Int) (av : ByteArray) (v_l : (List Int)) (st : al × Bool × Int) : Option ((al × Bool × Int) ⊕ ((al × Bool × Int))) :=
let cQ := st.1
let bS := st.2.1
let v_i := st.2.2
if (decide (v_i < (v_s.ac.length : Int))) = true then
(ax v_s.ac v_i).bind fun b3 => let v_c : al := b3
(if (v_c.bc != af) = true then some true else (iU v_s v_c).bind fun c4 => some (!(c4.toList == av.toList))).bind fun q5 => (if q5 = true then some true else some (v_c.kW != 0)).bind fun q6 => (if q6 = true then some true else (wY v_l v_c.fId).bind fun c7 => some c7).bind fun q8 => if q8 = true then
let v_i : Int := (i64.wrap (v_i + 1))
some (.inl (cQ, bS, v_i))
else
(if (!bS) = true then some true else (if cQ.bU = true then some (!v_c.bU) else some false).bind fun q9 => some q9).bind fun q10 => (if q10 = true then some true else (if (cQ.bU == v_c.bU) = true then some (decide (v_c.fId > cQ.fId)) else some false).bind fun q11 => some q11).bind fun q12 => if q12 = true then
let t13 : al := v_c
let t14 : Bool := true
let cQ : al := t13
let bS : Bool := t14
let v_i : Int := (i64.wrap (v_i + 1))
some (.inl (cQ, bS, v_i))
else
let v_i : Int := (i64.wrap (v_i + 1))
some (.inl (cQ, bS, v_i))
else
some (.inr (cQ, bS, v_i))
def pv (v_s : aa) (av : ByteArray) (af : Int) (v_l : (List Int)) : Option (al × Bool) :=
let t1 : al := (⟨0, 0, 0, aw.zero, 0, 0, false, 0⟩ : al)
let t2 : Bool := false
let cQ : al := t1
let bS : Bool := t2
let v_i : Int := 0
(ah (jl v_s af av v_l) ab (cQ, bS, v_i)).bind fun r15 =>
let cQ := r15.1
let bS := r15.2.1
let v_i := r15.2.2
some (cQ, bS)
def lq (bM : (List ai)) (v_s : aa) (af : Int) (st : Int × Int) : Option ((Int × Int) ⊕ ((Int × Int))) :=
let kF := st.1
let v_i := st.2
if (decide (v_i < (bM.length : Int))) = true then
(ax bM v_i).bind fun b4 => (rn v_s b4.aI af).bind fun c5 => let kF : Int := (i64.wrap (kF + c5))
let v_i : Int := (i64.wrap (v_i + 1))
some (.inl (kF, v_i))
else
some (.inr (kF, v_i))
def ln (bM : (List ai)) (v_s : aa) (af : Int) (v_l : (List Int)) (st : Int × al × Int) : Option ((Int × al × Int) ⊕ ((Int × al × Int))) :=
let cp := st.1
let v_x := st.2.1
let aQ := st.2.2
if (decide (aQ < (bM.length : Int))) = true then
(ax bM aQ).bind fun b10 => let v_p : ByteArray := b10.aI
(ez v_s v_p af).bind fun c11 => (ax bM aQ).bind fun b12 => (mE v_s v_p af v_l).bind fun c13 => let CR : Int := (i64.wrap ((i64.wrap (c11.bA - b12.bA)) - c13))
(pv v_s v_p af v_l).bind fun c14 => let v_c : al := c14.1
let bS : Bool := c14.2
(if bS = true then some (decide (CR > cp)) else some false).bind fun q15 => if q15 = true then
let t16 : Int := CR
let t17 : al := v_c
let cp : Int := t16
let v_x : al := t17
let aQ : Int := (i64.wrap (aQ + 1))
some (.inl (cp, v_x, aQ))
else
let aQ : Int := (i64.wrap (aQ + 1))
some (.inl (cp, v_x, aQ))
else
some (.inr (cp, v_x, aQ))
def px (v_s : aa) (af : Int) (kF : Int) (bM : (List ai)) (st : (List Int)) : Option (((List Int)) ⊕ (((List Int)) ⊕ ((List Int)))) :=
let v_l := st
(mE v_s (⟨#[]⟩ : ByteArray) af v_l).bind fun c7 => if (decide (c7 < kF)) = true then
let t8 : Int := 0
let t9 : al := (⟨0, 0, 0, aw.zero, 0, 0, false, 0⟩ : al)
let cp : Int := t8
let v_x : al := t9
let aQ : Int := 0
(ah (ln bM v_s af v_l) ab (cp, v_x, aQ)).bind fun r18 =>
let cp := r18.1
let v_x := r18.2.1
let aQ := r18.2.2
if (cp == 0) = true then
some (.inr (.inr v_l))
else
(aU v_l [v_x.fId]).bind fun b19 => let v_l : (List Int) := b19
some (.inl v_l)
else
some (.inr (.inl v_l))
def yK (v_s : aa) (af : Int) : Option ((List Int)) :=
(pA v_s af).bind fun c1 => let bM : (List ai) := c1
(iQ v_s af).bind fun c2 => (ez v_s (⟨#[114, 111, 111, 116]⟩ : ByteArray) af).bind fun c3 => let kF : Int := (i64.wrap (0 - (if 0 > (i64.wrap (c2.bA - c3.bA)) then 0 else (i64.wrap (c2.bA - c3.bA)))))
let v_i : Int := 0
(ah (lq bM v_s af) ab (kF, v_i)).bind fun r6 =>
let kF := r6.1
let v_i := r6.2
let v_l : (List Int) := []
(ah (px v_s af kF bM) ab v_l).bind fun r20 => match r20 with
| .inr m21 => some m21
| .inl m21 =>
let v_l := m21
some v_l
def pu (v_t : Int) (bD : Int) (st : (List al) × Int) : Option (((List al) × Int) ⊕ (((List al) × Int))) :=
let v_l := st.1
let v_i := st.2
if (decide (v_i < (v_l.length : Int))) = true then
(ax v_l v_i).bind fun b2 => if (b2.fId == bD) = true then
(ax v_l v_i).bind fun b3 => let v_l : (List al) := (List.set v_l (Int.toNat v_i) ({ b3 with kW := v_t }))
let v_i : Int := (i64.wrap (v_i + 1))
some (.inl (v_l, v_i))
else
let v_i : Int := (i64.wrap (v_i + 1))
some (.inl (v_l, v_i))
else
some (.inr (v_l, v_i))
def nB (v_s : aa) (bD : Int) (v_t : Int) : Option (aa) :=
(aU ([] : (List al)) v_s.ac).bind fun b1 => let v_l : (List al) := b1
let v_i : Int := 0
(ah (pu v_t bD) ab (v_l, v_i)).bind fun r4 =>
let v_l := r4.1
let v_i := r4.2
let v_s : aa := { v_s with ac := v_l }
some v_s
def lr (kE : aa) (xn : aa) (st : (List Int) × Int) : Option (((List Int) × Int) ⊕ (((List Int) × Int))) :=
let v_l := st.1
let v_i := st.2
if (decide (v_i < (kE.ac.length : Int))) = true then
(ax kE.ac v_i).bind fun b1 => (eG xn b1.fId).bind fun c2 => let bS : Bool := c2.2
if (!bS) = true then
(ax kE.ac v_i).bind fun b3 => (aU v_l [b3.fId]).bind fun b4 => let v_l : (List Int) := b4
let v_i : Int := (i64.wrap (v_i + 1))
some (.inl (v_l, v_i))
else
let v_i : Int := (i64.wrap (v_i + 1))
some (.inl (v_l, v_i))
else
some (.inr (v_l, v_i))
def tZ (kE : aa) (xn : aa) : Option ((List Int)) :=
let v_l : (List Int) := []
let v_i : Int := 0
(ah (lr kE xn) ab (v_l, v_i)).bind fun r5 =>
let v_l := r5.1
let v_i := r5.2
some v_l
def mD (v_s : aa) (v_c : al) (st : Int × Int) : Option ((Int × Int) ⊕ ((Int × Int))) :=
let v_n := st.1
let v_i := st.2
(if (decide (v_i < (v_s.ac.length : Int))) = true then some v_c.bU else some false).bind fun q1 => if q1 = true then
(ax v_s.ac v_i).bind fun b2 => (if (b2.bE == v_c.bE) = true then (ax v_s.ac v_i).bind fun b3 => some (b3.fId != v_c.fId) else some false).bind fun q4 => (if q4 = true then (ax v_s.ac v_i).bind fun b5 => some (b5.bc == v_c.bc) else some false).bind fun q6 => if q6 = true then
(ax v_s.ac v_i).bind fun b7 => let v_n : Int := (i64.wrap (v_n + b7.cT.bA))
let v_i : Int := (i64.wrap (v_i + 1))
some (.inl (v_n, v_i))
else
let v_i : Int := (i64.wrap (v_i + 1))
some (.inl (v_n, v_i))
else
some (.inr (v_n, v_i))
def pq (v_s : aa) (v_c : al) : Option (Int) :=
let v_n : Int := 0
let v_i : Int := 0
(ah (mD v_s v_c) ab (v_n, v_i)).bind fun r8 =>
let v_n := r8.1
let v_i := r8.2
some v_n
def pw (v_s : aa) (af : Int) (st : (List al) × Int) : Option (((List al) × Int) ⊕ (((List al) × Int))) :=
let v_l := st.1
let v_i := st.2
if (decide (v_i ≥ 0)) = true then
(ax v_s.ac v_i).bind fun b1 => let v_c : al := b1
(if (v_c.bc == af) = true then some (v_c.kW != 0) else some false).bind fun q2 => (if q2 = true then some (decide ((i64.wrap (v_c.kW + 3)) ≤ v_s.bR)) else some false).bind fun q3 => if q3 = true then
(aU v_l [v_c]).bind fun b4 => let v_l : (List al) := b4
let v_i : Int := (i64.wrap (v_i - 1))
some (.inl (v_l, v_i))
else
let v_i : Int := (i64.wrap (v_i - 1))
some (.inl (v_l, v_i))
else
some (.inr (v_l, v_i))
def lj (v_l : (List al)) (af : Int) (st : aa × Int) : Option ((aa × Int) ⊕ ((aa × Int))) :=
let v_s := st.1
let aQ := st.2
if (decide (aQ < (v_l.length : Int))) = true then
(ax v_l aQ).bind fun b6 => (eG v_s b6.fId).bind fun c7 => let wa : al := c7.1
let bS : Bool := c7.2
if (!bS) = true then
let aQ : Int := (i64.wrap (aQ + 1))
some (.inl (v_s, aQ))
else
(iU v_s wa).bind fun c8 => (ez v_s c8 af).bind fun c9 => (pq v_s wa).bind fun c10 => (iU v_s wa).bind fun c11 => (yM v_s af c11).bind fun c12 => if (decide ((i64.wrap (c9.bA - c10)) > c12)) = true then
(i7 v_s ([wa.fId] : (List Int))).bind fun c13 => let v_s : aa := c13
let aQ : Int := (i64.wrap (aQ + 1))
some (.inl (v_s, aQ))
else
(nB v_s wa.fId 0).bind fun c14 => let v_s : aa := c14
let aQ : Int := (i64.wrap (aQ + 1))
some (.inl (v_s, aQ))
else
some (.inr (v_s, aQ))
def yH (v_s : aa) (af : Int) : Option (aa) :=
let v_l : (List al) := []
let v_i : Int := (i64.wrap ((v_s.ac.length : Int) - 1))
(ah (pw v_s af) ab (v_l, v_i)).bind fun r5 =>
let v_l := r5.1
let v_i := r5.2
let aQ : Int := 0
(ah (lj v_l af) ab (v_s, aQ)).bind fun r15 =>
let v_s := r15.1
let aQ := r15.2
some v_s
def jQ (v_l : (List Int)) (st : aa × Int) : Option ((aa × Int) ⊕ ((aa × Int))) :=
let v_s := st.1
let v_i := st.2
if (decide (v_i < (v_l.length : Int))) = true then
(ax v_l v_i).bind fun b3 => (nB v_s b3 (if 1 > v_s.bR then 1 else v_s.bR)).bind fun c4 => let v_s : aa := c4
let v_i : Int := (i64.wrap (v_i + 1))
some (.inl (v_s, v_i))
else
some (.inr (v_s, v_i))
def nT (st : aa × Int) : Option ((aa × Int) ⊕ ((aa × Int))) :=
let v_s := st.1
let af := st.2
if (decide (af < (v_s.bN.ak.length : Int))) = true then
(yH v_s af).bind fun c1 => let v_s : aa := c1
(yK v_s af).bind fun c2 => let v_l : (List Int) := c2
let v_i : Int := 0
(ah (jQ v_l) ab (v_s, v_i)).bind fun r5 =>
let v_s := r5.1
let v_i := r5.2
let af : Int := (i64.wrap (af + 1))
some (.inl (v_s, af))
else
some (.inr (v_s, af))
def uZ (v_s : aa) : Option (aa × (List Int)) :=
let kE : aa := v_s
let af : Int := 0
(ah (nT) ab (v_s, af)).bind fun r6 =>
let v_s := r6.1
let af := r6.2
(tZ kE v_s).bind fun c7 => some (v_s, c7)
def oy (v_l : (List a6)) (af : Int) (v_t : Int) (st : aw × Int) : Option ((aw × Int) ⊕ ((aw × Int))) :=
let v_v := st.1
let v_i := st.2
if (decide (v_i < (v_l.length : Int))) = true then
(ax v_l v_i).bind fun b1 => (if (b1.bc == af) = true then (ax v_l v_i).bind fun b2 => some (decide (b2.o6 ≤ v_t)) else some false).bind fun q3 => (if q3 = true then (ax v_l v_i).bind fun b4 => some (decide (v_t < b4.kV)) else some false).bind fun q5 => if q5 = true then
(ax v_l v_i).bind fun b6 => (de v_v b6.kt).bind fun c7 => let v_v : aw := c7
let v_i : Int := (i64.wrap (v_i + 1))
some (.inl (v_v, v_i))
else
let v_i : Int := (i64.wrap (v_i + 1))
some (.inl (v_v, v_i))
else
some (.inr (v_v, v_i))
def ud (v_l : (List a6)) (af : Int) (v_t : Int) : Option (aw) :=
let v_v : aw := (⟨0, 0⟩ : aw)
let v_i : Int := 0
(ah (oy v_l af v_t) ab (v_v, v_i)).bind fun r8 =>
let v_v := r8.1
let v_i := r8.2
some v_v
def ub (v_n : Int) : Option (Bool) :=
(if (decide (v_n ≥ 0)) = true then some (decide (v_n ≤ 1073741824)) else some false).bind fun q1 => some q1
def lx (v_l : (List a6)) (v_t : Int) (gy : Int) (v_p : a6) (fw : aw) (st : Int) : Option ((Int) ⊕ ((Int) ⊕ (Bool))) :=
let v_i := st
if (decide (v_i < (v_l.length : Int))) = true then
(ax v_l v_i).bind fun b4 => let v_u : Int := b4.o6
(if (decide (v_u > v_t)) = true then some (decide ((i64.wrap (v_u - v_t)) < gy)) else some false).bind fun q5 => (if q5 = true then (ud v_l v_p.bc v_u).bind fun c6 => (de c6 v_p.kt).bind fun c7 => (fy c7 fw).bind fun c8 => some (!c8) else some false).bind fun q9 => if q9 = true then
some (.inr (.inr false))
else
let v_i : Int := (i64.wrap (v_i + 1))
some (.inl v_i)
else
some (.inr (.inl v_i))
def rp (v_l : (List a6)) (fw : aw) (v_p : a6) (v_t : Int) (gy : Int) : Option (Bool) :=
(ud v_l v_p.bc v_t).bind fun c1 => (de c1 v_p.kt).bind fun c2 => (fy c2 fw).bind fun c3 => if (!c3) = true then
some false
else
let v_i : Int := 0
(ah (lx v_l v_t gy v_p fw) ab v_i).bind fun r10 => match r10 with
| .inr m11 => some m11
| .inl m11 =>
let v_i := m11
some true
def nX (v_l : (List a6)) (v_p : a6) (gy : Int) (fw : aw) (st : Int × Int) : Option ((Int × Int) ⊕ ((Int × Int))) :=
let cQ := st.1
let v_i := st.2
if (decide (v_i < (v_l.length : Int))) = true then
let v_t : Int := v_p.o6
(if (decide (v_i ≥ 0)) = true then
(ax v_l v_i).bind fun b11 => let v_t : Int := b11.kV
some v_t
else
some v_t).bind fun j10 => let v_t := j10
(if (decide (v_t ≥ v_p.o6)) = true then some (decide (v_t ≤ 1000000)) else some false).bind fun q12 => (if q12 = true then some (decide ((i64.wrap (v_t + gy)) ≤ v_p.kV)) else some false).bind fun q13 => (if q13 = true then (if (decide (cQ < 0)) = true then some true else some (decide (v_t < cQ))).bind fun q14 => some q14 else some false).bind fun q15 => (if q15 = true then (rp v_l fw v_p v_t gy).bind fun c16 => some c16 else some false).bind fun q17 => if q17 = true then
let cQ : Int := v_t
let v_i : Int := (i64.wrap (v_i + 1))
some (.inl (cQ, v_i))
else
let v_i : Int := (i64.wrap (v_i + 1))
some (.inl (cQ, v_i))
else
some (.inr (cQ, v_i))
def u5 (v_l : (List a6)) (fw : aw) (v_p : a6) (gy : Int) : Option (Int × Int) :=
(if (decide (gy < 1)) = true then some true else some (decide (gy > 1000))).bind fun q1 => (if q1 = true then some true else some (decide (v_p.o6 < 0))).bind fun q2 => (if q2 = true then some true else some (decide (v_p.o6 > 1000000))).bind fun q3 => (if q3 = true then some true else some (decide (v_p.kV < 0))).bind fun q4 => (if q4 = true then some true else some (decide (v_p.kV > 1000000))).bind fun q5 => (if q5 = true then some true else (ub v_p.kt.bA).bind fun c6 => some (!c6)).bind fun q7 => (if q7 = true then some true else (ub v_p.kt.aZ).bind fun c8 => some (!c8)).bind fun q9 => if q9 = true then
some (0, 1)
else
let cQ : Int := (-1)
let v_i : Int := (-1)
(ah (nX v_l v_p gy fw) ab (cQ, v_i)).bind fun r18 =>
let cQ := r18.1
let v_i := r18.2
if (decide (cQ < 0)) = true then
some (0, 16)
else
some (cQ, 0)
def mZ (v_s : aa) (v_p : a6) (st : Int × Int) : Option ((Int × Int) ⊕ ((Int × Int) ⊕ (aa × Int × Int))) :=
let v_k := st.1
let v_i := st.2
if (decide (v_i < (v_s.bw.length : Int))) = true then
(ax v_s.bw v_i).bind fun b5 => if (b5.fId == v_p.fId) = true then
some (.inr (.inr (v_s, 0, 7)))
else
(ax v_s.bw v_i).bind fun b6 => if (decide (b6.fId < v_p.fId)) = true then
let v_k : Int := (i64.wrap (v_i + 1))
let v_i : Int := (i64.wrap (v_i + 1))
some (.inl (v_k, v_i))
else
let v_i : Int := (i64.wrap (v_i + 1))
some (.inl (v_k, v_i))
else
some (.inr (.inl (v_k, v_i)))
def yQ (v_s : aa) (v_p : a6) (gy : Int) : Option (aa × Int × Int) :=
(if (decide (v_p.fId < 0)) = true then some true else some (decide (v_p.fId > 999))).bind fun q1 => (if q1 = true then some true else some (decide (v_p.bc < 0))).bind fun q2 => (if q2 = true then some true else some (decide (v_p.bc ≥ (v_s.bN.ak.length : Int)))).bind fun q3 => (if q3 = true then some true else some ((v_p.kt.bA == (⟨0, 0⟩ : aw).bA) && (v_p.kt.aZ == (⟨0, 0⟩ : aw).aZ))).bind fun q4 => if q4 = true then
some (v_s, 0, 1)
else
let v_k : Int := 0
let v_i : Int := 0
(ah (mZ v_s v_p) ab (v_k, v_i)).bind fun r7 => match r7 with
| .inr m8 => some m8
| .inl m8 =>
let v_k := m8.1
let v_i := m8.2
if (decide ((v_s.bw.length : Int) ≥ 12)) = true then
some (v_s, 0, 4)
else
if (decide (v_p.o6 < v_s.bR)) = true then
some (v_s, 0, 15)
else
(iQ v_s v_p.bc).bind fun c9 => (u5 v_s.bw c9 v_p gy).bind fun c10 => let v_t : Int := c10.1
let v_e : Int := c10.2
if (v_e != 0) = true then
some (v_s, 0, v_e)
else
(hiO v_s.bw v_k).bind fun b11 => (aU ([] : (List a6)) b11).bind fun b12 => let v_l : (List a6) := b12
(aU v_l [(⟨v_p.fId, v_p.bc, v_t, (i64.wrap (v_t + gy)), v_p.kt⟩ : a6)]).bind fun b13 => let v_l : (List a6) := b13
(loO v_s.bw v_k).bind fun b14 => (aU v_l b14).bind fun b15 => let v_s : aa := { v_s with bw := b15 }
some (v_s, v_t, 0)
def ly (v_s : aa) (bD : Int) (st : (List a6) × Int) : Option (((List a6) × Int) ⊕ (((List a6) × Int))) :=
let v_l := st.1
let v_i := st.2
if (decide (v_i < (v_s.bw.length : Int))) = true then
(ax v_s.bw v_i).bind fun b1 => if (b1.fId != bD) = true then
(ax v_s.bw v_i).bind fun b2 => (aU v_l [b2]).bind fun b3 => let v_l : (List a6) := b3
let v_i : Int := (i64.wrap (v_i + 1))
some (.inl (v_l, v_i))
else
let v_i : Int := (i64.wrap (v_i + 1))
some (.inl (v_l, v_i))
else
some (.inr (v_l, v_i))
def uc (v_s : aa) (bD : Int) : Option (aa × Int) :=
let v_l : (List a6) := []
let v_i : Int := 0
(ah (ly v_s bD) ab (v_l, v_i)).bind fun r4 =>
let v_l := r4.1
let v_i := r4.2
if ((v_l.length : Int) == (v_s.bw.length : Int)) = true then
some (v_s, 2)
else
let v_s : aa := { v_s with bw := v_l }
some (v_s, 0)
end Go.Proofs.YtchddofjajgopaaGreat
