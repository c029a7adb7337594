/- Texts Plife, in one. -/
import Derived.Test.YtjeeclabnimbbaaME
/- The law AppsLife: plain mathematics on what its code is. -/
namespace Go.Proofs.Ytjeeclabnimbbaa
open Go.RowKit
set_option maxRecDepth 100000
noncomputable def within10 (a n : Int) : Option Int := L10_within_f (a, (n, ()))
noncomputable def passed (f t : Int) : Option Int := P_apps_passed_f (f, (t, ()))
noncomputable def silent (s : GState) : Option (List Int) := P_apps_Silent_f (s, ())
noncomputable def newS : Option GState := R_New_f ()
noncomputable def known10 : Option Bool := L10_known_f ()
theorem known10_is : known10 = some true := by kernel_rfl
theorem within10_n (a n : Int) : within10 a n = Option.bind (remO a n) fun q => if decide (q < 0) = true then some (IntKind.i64.wrap (q + n)) else some q := by kernel_rfl
theorem within10_is {a n : Int} (h0 : 0 < n) (h1 : n ≤ 1000000) : ∃ r : Int, within10 a n = some r ∧ 0 ≤ r ∧ r < n := by
  have hlt := Int.tmod_lt_of_pos a h0
  have hgt := Int.lt_tmod_of_pos a h0
  rw [within10_n]
  unfold remO
  rw [if_neg (by omega)]
  simp only [Option.bind_some]
  split
  · rename_i h
    have h := of_decide_eq_true h
    exact ⟨_, rfl, by rw [IntKind.wrap_i64]; omega, by rw [IntKind.wrap_i64]; omega⟩
  · rename_i h
    have h : ¬ Int.tmod a n < 0 := fun e => h (by simpa using e)
    exact ⟨_, rfl, by omega, by omega⟩
theorem passed_n (f t : Int) : passed f t = if decide (t < f) = true then some 0 else some (IntKind.u64.wrap (IntKind.u64.wrap t - IntKind.u64.wrap f)) := by kernel_rfl
theorem silent_n (s : GState) : silent s = Option.bind (loopO (fun st : List Int × Int => if decide (st.2 < (s.fApps.length : Int)) = true then Option.bind (idxO s.fApps st.2) fun a => Option.bind (if (a.fState == 2) = true then Option.bind (passed a.fSeen s.fNow) fun r => some (if true = true then decide (r ≥ 15) else false) else some false) fun qb => if qb = true then Option.bind (appO st.1 [a.fId]) fun zs => some (Sum.inl (zs, IntKind.i64.wrap (st.2 + 1))) else some (Sum.inl (st.1, IntKind.i64.wrap (st.2 + 1))) else some (Sum.inr (st.1, st.2))) rounds (([] : List Int), (0 : Int))) fun st => some st.1 := by kernel_rfl
theorem loopO_twoN {σ τ : Type} (f : σ → Option (σ ⊕ τ)) (s : σ) (n : Nat) : loopO f (n + 1 + 1) s = match f s with | none => none | some (.inr r) => some r | some (.inl s') => match f s' with | none => none | some (.inr r) => some r | some (.inl s2) => loopO f n s2 := by
  simp only [loopO]
  cases f s with
  | none => rfl
  | some r => cases r with
    | inr r => rfl
    | inl s' =>
      dsimp only
      cases f s' with
      | none => rfl
      | some r => cases r <;> rfl
theorem loopO_two {σ τ : Type} (f : σ → Option (σ ⊕ τ)) (s : σ) : loopO f rounds s = match f s with | none => none | some (.inr r) => some r | some (.inl s') => match f s' with | none => none | some (.inr r) => some r | some (.inl s2) => loopO f 999999998 s2 := loopO_twoN f s 999999998
theorem silent_one (s : GState) (a : GApp) (h : s.fApps = [a]) (p : Int) (hp : passed a.fSeen s.fNow = some p) : silent s = some (if (a.fState == 2 && decide (p ≥ 15)) = true then [a.fId] else []) := by
  rw [silent_n, loopO_two]
  have i0 : idxO [a] 0 = some a := rfl
  have w0 : IntKind.i64.wrap (0 + 1) = 1 := by decide
  have d0 : decide ((0 : Int) < (([a] : List GApp).length : Int)) = true := rfl
  have d1 : decide ((1 : Int) < (([a] : List GApp).length : Int)) = false := rfl
  simp only [h, d0, i0, hp, w0, if_true, Option.bind_some]
  cases h2 : (a.fState == 2) with
  | false => simp only [Bool.false_eq_true, if_false, Option.bind_some, d1, Bool.false_and]
  | true =>
    cases h3 : decide (p ≥ 15) with
    | false => simp only [if_true, Bool.false_eq_true, if_false, Option.bind_some, d1, Bool.and_false]
    | true =>
      have ha : appO ([] : List Int) [a.fId] = some [a.fId] := rfl
      simp only [if_true, Option.bind_some, ha, d1, Bool.false_eq_true, if_false, Bool.and_true]
def lifeS (now seen state : Int) (c : List GCont) : GState := ⟨⟨[⟨#[]⟩], [⟨⟨#[114, 111, 111, 116]⟩, [⟨10000, 10000⟩], 10000⟩]⟩, [⟨1, 0, 0, ⟨5, 5⟩, 0, 0, true⟩], [⟨7, state, ⟨#[114, 111, 111, 116]⟩, 0, 0, ⟨1, 1⟩, [], seen, 0, [], [], [], []⟩], c, [], [], now, 0, 0⟩
theorem life_n (a b c : Int) : L10_AppsLife_f (a, (b, (c, ()))) = Option.bind (known10) fun r => if (!r) = true then some false else Option.bind (within10 a 1000) fun r => Option.bind (within10 b 30) fun r1 => Option.bind (within10 c 4) fun r2 => Option.bind (newS) fun r3 => if (IntKind.i64.wrap (1 + r2) == 2) = true then
    (Option.bind (silent ({ r3 with fNodes := [⟨1, 0, 0, ⟨5, 5⟩, 0, 0, true⟩], fApps := [⟨7, IntKind.i64.wrap (1 + r2), ⟨#[114, 111, 111, 116]⟩, 0, 0, ⟨1, 1⟩, [], IntKind.i64.wrap (r - r1), 0, [], [], [], []⟩], fConts := [⟨1, 7, 1, ⟨1, 1⟩, 0, 0, true, 0⟩], fNow := r } : GState)) fun r4 => Option.bind (if (IntKind.i64.wrap (1 + r2) == 2) = true then some (if true = true then decide (IntKind.i64.wrap (r - IntKind.i64.wrap (r - r1)) ≥ 15) else false) else some false) fun qb => if qb = true then Option.bind (if ((r4.length : Int) == 1) = true then Option.bind (idxO r4 0) fun x => some (if true = true then (x == 7) else false) else some false) fun qb => some qb else some ((r4.length : Int) == 0))
  else (Option.bind (silent ({ r3 with fNodes := [⟨1, 0, 0, ⟨5, 5⟩, 0, 0, true⟩], fApps := [⟨7, IntKind.i64.wrap (1 + r2), ⟨#[114, 111, 111, 116]⟩, 0, 0, ⟨1, 1⟩, [], IntKind.i64.wrap (r - r1), 0, [], [], [], []⟩], fNow := r } : GState)) fun r4 => Option.bind (if (IntKind.i64.wrap (1 + r2) == 2) = true then some (if true = true then decide (IntKind.i64.wrap (r - IntKind.i64.wrap (r - r1)) ≥ 15) else false) else some false) fun qb => if qb = true then Option.bind (if ((r4.length : Int) == 1) = true then Option.bind (idxO r4 0) fun x => some (if true = true then (x == 7) else false) else some false) fun qb => some qb else some ((r4.length : Int) == 0)) := by kernel_rfl
theorem AppsLife.plain (a0 : Int) (_k0 : wfI a0) (a1 : Int) (_k1 : wfI a1) (a2 : Int) (_k2 : wfI a2) : L10_AppsLife_f (a0, (a1, (a2, ()))) = some true := by
  obtain ⟨w, w1, w2, w3⟩ := within10_is (a := a0) (n := 1000) (by omega) (by omega)
  obtain ⟨v, v1, v2, v3⟩ := within10_is (a := a1) (n := 30) (by omega) (by omega)
  obtain ⟨u, u1, u2, u3⟩ := within10_is (a := a2) (n := 4) (by omega) (by omega)
  have hS : newS = some ⟨⟨[⟨#[]⟩], [⟨⟨#[114, 111, 111, 116]⟩, [⟨10000, 10000⟩], 10000⟩]⟩, [], [], [], [], [], 0, 0, 0⟩ := by kernel_rfl
  rw [life_n, known10_is]
  simp only [Option.bind_some, Bool.not_true, Bool.false_eq_true, if_false, w1, v1, u1, hS]
  have e1 : IntKind.i64.wrap (w - v) = w - v := by rw [IntKind.wrap_i64]; omega
  have e2 : IntKind.i64.wrap (w - (w - v)) = v := by rw [IntKind.wrap_i64]; omega
  have hp : passed (w - v) w = some v := by
    rw [passed_n]
    have : decide (w < w - v) = false := by simp; omega
    rw [this]
    simp only [Bool.false_eq_true, if_false]
    congr 1
    rw [IntKind.wrap_u64, IntKind.wrap_u64, IntKind.wrap_u64]
    omega
  have hs : ∀ (x : Int) (c : List GCont), silent ⟨⟨[⟨#[]⟩], [⟨⟨#[114, 111, 111, 116]⟩, [⟨10000, 10000⟩], 10000⟩]⟩, [⟨1, 0, 0, ⟨5, 5⟩, 0, 0, true⟩], [⟨7, x, ⟨#[114, 111, 111, 116]⟩, 0, 0, ⟨1, 1⟩, [], w - v, 0, [], [], [], []⟩], c, [], [], w, 0, 0⟩ = some (if (x == 2 && decide (v ≥ 15)) = true then [7] else []) := fun x c => silent_one _ ⟨7, x, ⟨#[114, 111, 111, 116]⟩, 0, 0, ⟨1, 1⟩, [], w - v, 0, [], [], [], []⟩ rfl v hp
  have l0 : (((([] : List Int).length : Nat) : Int) == 0) = true := by decide
  have l1 : (((([7] : List Int).length : Nat) : Int) == 1) = true := by decide
  have i7 : idxO ([7] : List Int) 0 = some 7 := rfl
  have b7 : ((7 : Int) == 7) = true := by decide
  simp only [e1, e2]
  generalize IntKind.i64.wrap (1 + u) = x
  cases hb : (x == 2) with
  | false => simp only [Bool.false_eq_true, if_false, hs, hb, Bool.false_and, Option.bind_some, l0]; rfl
  | true =>
    cases hd : decide (v ≥ 15) with
    | true => simp only [if_true, hs, hb, hd, Bool.true_and, Option.bind_some, l1, i7, b7]; rfl
    | false => simp only [if_true, hs, hb, hd, Bool.true_and, Option.bind_some, Bool.false_eq_true, if_false, l0]; rfl
end Go.Proofs.Ytjeeclabnimbbaa
