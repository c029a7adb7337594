/- My texts, in one. -/
import Derived.Test.YtmjkjaahbgikjaaGreatZE
set_option linter.all false
set_option maxRecDepth 100000
set_option maxHeartbeats 4000000
namespace Go.Proofs.YtmjkjaahbgikjaaGreat
open Go.RowKit
open IntKind (i64)
open Go.Proofs.Tryz (prog)
theorem uV (s : aa) (c : am) (hl : s.ai.length ≤ 1000000) : i7 s c = some (bQ s c.bC).bF := by
 unfold i7
 simp only [dy s c.bC hl, zb]
def inL (l : List Int) (n : Int) : Bool := l.any fun x => x == n
theorem I0 (l : List Int) (n : Int) (hl : l.length ≤ 1000000) : xN l n = some (inL l n) := by
 unfold xN inL
 dsimp only
 rw [CO l n () hl, show lB l n = fun (_ : Unit) x => if (x == n) = true then some (.inr (.inr true)) else some (.inl ()) from rfl,
  kA (fun x : Int => x == n) (fun _ => (Sum.inr true : Int ⊕ Bool)) (.inl (l.length : Int)) l]
 simp only [zb]
 cases hf : l.find? fun x => x == n with
 | none =>
  have : (l.any fun x => x == n) = false := by
   rw [List.any_eq_false]; intro x hx; have := List.find?_eq_none.1 hf x hx; simpa using this
  rw [this]
 | some q =>
  have : (l.any fun x => x == n) = true := by rw [List.any_eq_true]; exact ⟨q, List.mem_of_find?_eq_some hf, List.find?_some (p := fun x : Int => x == n) hf⟩
  rw [this]
theorem Ic {α : Type} {p q : α → Bool} (hpq : ∀ x, q x = true → p x = true) : ∀ l : List α, (∃ x ∈ l, p x = true ∧ q x = false) → (l.filter q).length < (l.filter p).length
 | [], ⟨x, hx, _⟩ => by cases hx
 | y :: l, ⟨x, hx, h1, h2⟩ => by
  have le : ∀ l : List α, (l.filter q).length ≤ (l.filter p).length := fun l => by
   induction l with
   | nil => exact Nat.le_refl _
   | cons z l ih =>
    simp only [List.filter_cons]
    cases hq : q z with
    | true => rw [hpq z hq]; simpa using ih
    | false =>
     cases p z with
     | true => simp; omega
     | false => simpa using ih
  simp only [List.filter_cons]
  rcases List.mem_cons.1 hx with rfl | hx
  ·rw [h1, h2]
   have := le l
   simp; omega
  ·have ih := Ic hpq l ⟨x, hx, h1, h2⟩
   cases hq : q y with
   | true => rw [hpq y hq]; simpa using ih
   | false =>
    cases p y with
    | true => simp; omega
    | false => simpa using ih
theorem KA {B : Nat} {s : aa} (h : SzS B s) (hB : B ≤ 1000000) (p : ByteArray) (k : Int) : ∃ r, se s p k = some r := by
 obtain ⟨u, hu⟩ := fp h hB p k
 obtain ⟨v, hv⟩ := u9 h hB p k
 have k1 := h.apps; have k2 := h.nodes.1
 unfold se
 simp only [hu, nL s p k h.conf (Nat.le_trans k2 hB), zb]
 rw [xL s p k (BH s p k).bD u.bD () (by omega)]
 obtain ⟨r, e1, _⟩ := aR (g := fj s p k (BH s p k).bD u.bD) (fin := fun _ => (.inl (s.ai.length : Int))) (fun _ _ => True) (fun _ => True) s.ai 0 () (fun j b x hx _ => by
  have hm := h.app x (List.mem_of_getElem? hx)
  have ha := hm.asks
  have ha2 : x.bE.length ≤ 1000000 := by omega
  obtain ⟨r, r1, _⟩ := aM (f := jY x p s k (BH s p k).bD u.bD) (fun st => ∃ i : Nat, st = (i : Int) ∧ i ≤ x.bE.length) (fun st => x.bE.length - st.toNat) (fun _ => True) (fun st ⟨i, h1, h2⟩ => by
   subst h1
   unfold jY
   by_cases hlt : i < x.bE.length
   ·have g1 : x.bE[i]? = some x.bE[i] := zq hlt
    simp only [bJ g1, if_true, aC g1, ec, hv, dH, zb, a6 hlt ha2]
    split
    ·split
     ·exact .inr ⟨_, rfl, trivial⟩
     ·exact .inl ⟨_, rfl, ⟨i + 1, rfl, hlt⟩, by simp only [zt]; omega⟩
    ·exact .inr ⟨_, rfl, trivial⟩
   ·have : i = x.bE.length := by omega
    subst this
    simp only [bz, zf, if_false, zb]
    exact .inr ⟨_, rfl, trivial⟩) ab 0 ⟨0, rfl, Nat.zero_le _⟩ (by have := an ha2; omega)
  unfold fj
  dsimp only
  rw [r1]
  simp only [zb]
  cases r <;> exact ⟨_, rfl, fun _ _ => trivial, fun _ _ => trivial⟩) (fun _ _ => trivial) trivial
 rw [e1]
 simp only [zb]
 cases r <;> exact ⟨_, rfl⟩
theorem wD {B : Nat} {s : aa} (h : SzS B s) (hB : B ≤ 1000000) (p : ByteArray) (k : Int) (l : List Int) (hl : l.length ≤ 1000000) : ∃ r, mN s p k l = some r := by
 have k1 := h.apps; have k2 := h.conts
 unfold mN
 dsimp only
 rw [wh s k p l 0 (by omega)]
 obtain ⟨r, e1, _⟩ := aR (g := eD s k p l) (fin := fun b => (b, (s.ac.length : Int))) (fun _ _ => True) (fun _ => True) s.ac 0 0 (fun j b x hx _ => by
  unfold eD
  simp only [uV s x (show s.ai.length ≤ 1000000 by omega), I0 l x.fId hl, dH, orB, zb]
  split <;> exact ⟨_, rfl, fun _ _ => trivial, fun _ _ => trivial⟩) (fun _ _ => trivial) trivial
 rw [e1]
 exact ⟨_, rfl⟩
theorem G8 {B : Nat} {s : aa} (h : SzS B s) (hB : B ≤ 1000000) (p : ByteArray) (k : Int) (l : List Int) (hl : l.length ≤ 1000000) : ∃ r, pX s p k l = some r ∧ (r.2 = true → r.1 ∈ s.ac ∧ inL l r.1.fId = false) := by
 have k1 := h.apps; have k2 := h.conts
 unfold pX
 dsimp only
 rw [wg s k p l ((⟨0, 0, 0, ax.zero, 0, 0, false, 0⟩ : am), false) (by omega)]
 obtain ⟨r, e1, e2⟩ := aR (g := eB s k p l) (fin := fun b => (b.1, b.2, (s.ac.length : Int))) (fun _ b => b.2 = true → b.1 ∈ s.ac ∧ inL l b.1.fId = false) (fun r => r.2.1 = true → r.1 ∈ s.ac ∧ inL l r.1.fId = false) s.ac 0 ((⟨0, 0, 0, ax.zero, 0, 0, false, 0⟩ : am), false) (fun j b x hx hb => by
  unfold eB
  simp only [uV s x (show s.ai.length ≤ 1000000 by omega), I0 l x.fId hl, dH, orB, zb]
  split
  ·exact ⟨_, rfl, fun a e => (by injection e with e; subst e; exact hb), fun r e => (by cases e)⟩
  ·rename_i hn
   split
   ·refine ⟨_, rfl, fun a e => ?_, fun r e => (by cases e)⟩
    injection e with e
    subst e
    refine fun _ => ⟨List.mem_of_getElem? hx, ?_⟩
    simp only [Bool.or_eq_true, not_or, Bool.not_eq_true] at hn
    exact hn.2
   ·exact ⟨_, rfl, fun a e => (by injection e with e; subst e; exact hb), fun r e => (by cases e)⟩) (fun b hb => hb) (fun e => by cases e)
 rw [e1]
 exact ⟨_, rfl, e2⟩
def XN (s : aa) (l : List Int) : Nat := (s.ac.filter fun c => !inL l c.fId).length
theorem Nn {B : Nat} {s : aa} (h : SzS B s) (hB : B ≤ 1000000) (k : Int) : ∃ r, zD s k = some r ∧ r.length ≤ s.ac.length := by
 have k1 := h.apps; have k2 := h.conts; have k3 := h.nodes.1
 obtain ⟨sh, h1, h2⟩ := wE h h.conf.deep hB k
 obtain ⟨u, hu⟩ := fp h hB ⟨#[114, 111, 111, 116]⟩ k
 unfold zD
 simp only [h1, nK s k (Nat.le_trans k3 hB), hu, zb]
 rw [zC sh s k _ (by omega)]
 obtain ⟨r, e1, _⟩ := aR (g := gm sh s k) (fin := fun b => (b, (sh.length : Int))) (fun _ _ => True) (fun _ => True) sh 0 (i64.wrap (0 - (if 0 > (i64.wrap ((uM s k).bD - u.bD)) then 0 else (i64.wrap ((uM s k).bD - u.bD))))) (fun j b x hx _ => by
  obtain ⟨n, hn⟩ := KA h hB x.aF k
  unfold gm
  simp only [hn, zb]
  exact ⟨_, rfl, fun _ _ => trivial, fun _ _ => trivial⟩) (fun _ _ => trivial) trivial
 rw [e1]
 simp only [zb]
 obtain ⟨q, f1, f2⟩ := aM (f := pZ s k r.1 sh) (fun l => l.length + XN s l ≤ s.ac.length) (fun l => XN s l) (fun r => match r with | .inl m => m.length ≤ s.ac.length | .inr m => m.length ≤ s.ac.length) (fun l hl => by
  have hl2 : l.length ≤ s.ac.length := by omega
  obtain ⟨m, hm⟩ := wD h hB ⟨#[]⟩ k l (by omega)
  unfold pZ
  simp only [hm, zb]
  split
  ·rw [zB sh s k l (0, (⟨0, 0, 0, ax.zero, 0, 0, false, 0⟩ : am)) (by omega)]
   obtain ⟨t, t1, t2⟩ := aR (g := gj sh s k l) (fin := fun b => (b.1, b.2, (sh.length : Int))) (fun _ b => b.1 ≠ 0 → b.2 ∈ s.ac ∧ inL l b.2.fId = false) (fun r => r.1 ≠ 0 → r.2.1 ∈ s.ac ∧ inL l r.2.1.fId = false) sh 0 (0, (⟨0, 0, 0, ax.zero, 0, 0, false, 0⟩ : am)) (fun j b x hx hb => by
    obtain ⟨u, hu⟩ := fp h hB x.aF k
    obtain ⟨m, hm⟩ := wD h hB x.aF k l (by omega)
    obtain ⟨n, hn, hn2⟩ := G8 h hB x.aF k l (by omega)
    unfold gj
    simp only [hu, hm, hn, dH, zb]
    split
    ·rename_i hc
     rw [Bool.and_eq_true] at hc
     exact ⟨_, rfl, fun a e => (by injection e with e; subst e; exact fun _ => hn2 hc.1), fun r e => (by cases e)⟩
    ·exact ⟨_, rfl, fun a e => (by injection e with e; subst e; exact hb), fun r e => (by cases e)⟩) (fun b hb => hb) (fun e => absurd rfl e)
   rw [t1]
   simp only [zb]
   split
   ·exact .inr ⟨_, rfl, hl2⟩
   ·rename_i hne
    obtain ⟨c1, c2⟩ := t2 (by simpa using hne)
    have hlt : XN s (l ++ [t.2.1.fId]) < XN s l := Ic (fun x hx => by
     unfold inL at hx ⊢
     simp only [List.any_append, Bool.not_or, Bool.and_eq_true] at hx
     exact hx.1) s.ac ⟨t.2.1, c1, by rw [c2]; rfl, by unfold inL; simp⟩
    rw [aD (by simp; omega)]
    exact .inl ⟨_, rfl, by rw [List.length_append, List.length_singleton]; omega, hlt⟩
  ·exact .inr ⟨_, rfl, hl2⟩) ab [] (by show 0 + (List.filter _ _).length ≤ _; rw [Nat.zero_add]; exact List.length_filter_le _ _) (by have := List.length_filter_le (fun c : am => !inL [] c.fId) s.ac; have h3 := an (show s.ac.length ≤ 1000000 by omega); show (s.ac.filter fun c => !inL [] c.fId).length < ab; omega)
 rw [f1]
 simp only [zb]
 cases q with
 | inl m => exact ⟨_, rfl, f2⟩
 | inr m => exact ⟨_, rfl, f2⟩
theorem Cl (s t : aa) (hl : s.ac.length ≤ 1000000) (ht : t.ac.length ≤ 1000000) : uW s t = some ((s.ac.filter fun c => !LZ t c.fId).map am.fId) := by
 unfold uW
 dsimp only
 have e : gp s t = fun acc x => if (!LZ t x.fId) = true then (aU acc [x.fId]).map (fun a => (.inl a : List Int ⊕ (List Int × Int))) else some (.inl acc) := by
  funext acc x
  unfold gp
  simp only [kH t x.fId ht, zb]
  split
  ·cases aU acc [x.fId] <;> rfl
  ·rfl
 rw [zE s t [] hl, e, cr (fun c : am => !LZ t c.fId) am.fId _ s.ac [] (by simpa using hl)]
 simp
theorem Ng {B : Nat} {s : aa} (h : SzS B s) (hB : B ≤ 1000000) (id t : Int) : ∃ r, nQ s id t = some r ∧ SzS B r ∧ r.ai = s.ai ∧ r.ac.length = s.ac.length := by
 have k2 := h.conts
 have hl : s.ac.length ≤ 1000000 := by omega
 unfold nQ
 rw [aD (by simp; omega)]
 simp only [zb, List.nil_append]
 obtain ⟨r, r1, r2⟩ := aM (f := pW t id) (fun st => ∃ i : Nat, st.2 = (i : Int) ∧ i ≤ s.ac.length ∧ st.1.length = s.ac.length) (fun st => s.ac.length - st.2.toNat) (fun r => r.1.length = s.ac.length) (fun st ⟨i, h1, h2, h3⟩ => by
  unfold pW
  simp only [h1]
  by_cases hlt : i < st.1.length
  ·have g1 : st.1[i]? = some st.1[i] := zq hlt
   simp only [bJ g1, if_true, aC g1, zt, zb, a6 hlt (show st.1.length ≤ 1000000 by omega)]
   split
   ·exact .inl ⟨_, rfl, ⟨i + 1, rfl, by omega, by simp; omega⟩, by simp only [zt]; omega⟩
   ·exact .inl ⟨_, rfl, ⟨i + 1, rfl, by omega, h3⟩, by simp only [zt]; omega⟩
  ·have : i = st.1.length := by omega
   subst this
   simp only [bz, zf, if_false]
   exact .inr ⟨_, rfl, h3⟩) ab (s.ac, 0) ⟨0, rfl, Nat.zero_le _, rfl⟩ (by have := an hl; omega)
 rw [r1]
 exact ⟨_, rfl, h.cont (by omega), rfl, r2⟩
structure OkS (M : Nat) (s : aa) : Prop where
 m : SzM M s
 srt : jK aq.fId s.ai
theorem OkS.mono {M N : Nat} {s : aa} (h : OkS M s) (hn : M ≤ N) : OkS N s := ⟨h.m.mono hn, h.srt⟩
theorem OkS.sz {M : Nat} {s : aa} (h : OkS M s) : SzS M s := h.m.sz
theorem G7 (s : aa) (c : am) (hl : s.ac.length ≤ 1000000) : ∃ r, pV s c = some r := by
 unfold pV
 dsimp only
 obtain ⟨r, r1, _⟩ := aM (f := mM s c) (fun st => ∃ i : Nat, st.2 = (i : Int) ∧ i ≤ s.ac.length) (fun st => s.ac.length - st.2.toNat) (fun _ => True) (fun st ⟨i, h1, h2⟩ => by
  unfold mM
  simp only [h1]
  by_cases hlt : i < s.ac.length
  ·have g1 : s.ac[i]? = some s.ac[i] := zq hlt
   simp only [bJ g1, if_true, aC g1, dH, zb, a6 hlt hl]
   split
   ·split
    ·exact .inl ⟨_, rfl, ⟨i + 1, rfl, hlt⟩, by simp only [zt]; omega⟩
    ·exact .inl ⟨_, rfl, ⟨i + 1, rfl, hlt⟩, by simp only [zt]; omega⟩
   ·exact .inr ⟨_, rfl, trivial⟩
  ·have : i = s.ac.length := by omega
   subst this
   simp only [bz, zf, if_false, zb]
   exact .inr ⟨_, rfl, trivial⟩) ab (0, 0) ⟨0, rfl, Nat.zero_le _⟩ (by have := an hl; show s.ac.length - (0 : Int).toNat < ab; omega)
 rw [r1]
 exact ⟨_, rfl⟩
theorem I8 {k : Nat} (hk : k ≤ 1000000) : i64.wrap ((k : Int) - 1) = (k : Int) - 1 := by rw [IntKind.wrap_i64]; omega
theorem OkS.note {M : Nat} {s : aa} (h : OkS M s) (hM : M ≤ 1000000) (id t : Int) : ∃ r, nQ s id t = some r ∧ OkS M r ∧ r.ac.length = s.ac.length := by
 obtain ⟨⟨B, h1, h2⟩, h3⟩ := h
 obtain ⟨r, r1, r2, r3, r4⟩ := Ng h1 (by omega) id t
 exact ⟨r, r1, ⟨⟨B, r2, by rw [r4]; exact h2⟩, by rw [r3]; exact h3⟩, r4⟩
theorem Nj {M : Nat} {s : aa} (h : OkS M s) (hM : M + 1 ≤ 1000000) (k : Int) : ∃ r, zA s k = some r ∧ OkS M r ∧ r.ac.length ≤ s.ac.length := by
 have hc := h.sz.conts
 have hl : s.ac.length ≤ 1000000 := by omega
 unfold zA
 dsimp only
 rw [I8 hl]
 obtain ⟨r, r1, r2⟩ := aM (f := pY s k) (fun st => ∃ i : Nat, st.2 = (i : Int) - 1 ∧ i ≤ s.ac.length ∧ st.1.length + i ≤ s.ac.length) (fun st => (st.2 + 1).toNat) (fun r => r.1.length ≤ s.ac.length) (fun st ⟨i, h1, h2, h3⟩ => by
  unfold pY
  simp only [h1]
  by_cases hlt : 0 < i
  ·obtain ⟨j, rfl⟩ : ∃ j, i = j + 1 := ⟨i - 1, by omega⟩
   have hj : ((j + 1 : Nat) : Int) - 1 = (j : Int) := by omega
   have g1 : s.ac[j]? = some s.ac[j] := zq (by omega)
   have hd : decide ((j : Int) ≥ 0) = true := by simp
   simp only [hj, hd, if_true, aC g1, dH, zb, I8 (show j ≤ 1000000 by omega)]
   split
   ·rw [aD (by simp; omega)]
    exact .inl ⟨_, rfl, ⟨j, rfl, by omega, by simp; omega⟩, by show ((j : Int) - 1 + 1).toNat < ((j : Int) + 1).toNat; omega⟩
   ·exact .inl ⟨_, rfl, ⟨j, rfl, by omega, by show st.1.length + j ≤ _; omega⟩, by show ((j : Int) - 1 + 1).toNat < ((j : Int) + 1).toNat; omega⟩
  ·have : i = 0 := by omega
   subst this
   have hd : decide (((0 : Nat) : Int) - 1 ≥ 0) = false := by simp
   simp only [hd, zf, if_false]
   exact .inr ⟨_, rfl, by show st.1.length ≤ _; omega⟩) ab ([], (s.ac.length : Int) - 1) ⟨s.ac.length, rfl, Nat.le_refl _, by simp⟩ (by have := an hl; show ((s.ac.length : Int) - 1 + 1).toNat < ab; omega)
 rw [r1]
 simp only [zb]
 rw [zy r.1 k s (by omega)]
 obtain ⟨q, q1, q2⟩ := aR (g := gh r.1 k) (fin := fun b => (b, (r.1.length : Int))) (fun _ b => OkS M b ∧ b.ac.length ≤ s.ac.length) (fun r => OkS M r.1 ∧ r.1.ac.length ≤ s.ac.length) r.1 0 s (fun j t x hx ⟨ht, hle⟩ => by
  have hz := ht.sz
  have k1 := hz.apps; have k2 := hz.conts
  unfold gh
  dsimp only
  rw [kH t _ (by omega)]
  simp only [zb]
  split
  ·exact ⟨_, rfl, fun a' e => (by injection e with e; subst e; exact ⟨ht, hle⟩), fun r e => (by cases e)⟩
  obtain ⟨u, hu⟩ := fp hz (by omega) (bQ t (mf t x.fId).bC).bF k
  obtain ⟨o, ho⟩ := G7 t (mf t x.fId) (by omega)
  obtain ⟨mm, hmm⟩ := Qi hz hz.conf.deep (by omega) k (bQ t (mf t x.fId).bC).bF
  obtain ⟨ls, l1, l2, l3, l4⟩ := Gj ht.m ht.srt [(mf t x.fId).fId] (by simp) (by omega)
  obtain ⟨nt, n1, n2, n3⟩ := ht.note (by omega) (mf t x.fId).fId 0
  simp only [uV t _ (show t.ai.length ≤ 1000000 by omega), hu, ho, hmm, l1, n1, zb]
  split
  ·exact ⟨_, rfl, fun a' e => (by injection e with e; subst e; exact ⟨⟨l2, l3⟩, by omega⟩), fun r e => (by cases e)⟩
  ·exact ⟨_, rfl, fun a' e => (by injection e with e; subst e; exact ⟨n2, by omega⟩), fun r e => (by cases e)⟩) (fun b hb => hb) ⟨h, Nat.le_refl _⟩
 rw [q1]
 exact ⟨_, rfl, q2⟩
theorem KD {M : Nat} {s : aa} (h : OkS M s) (hM : M + 1 ≤ 1000000) : ∃ r, vN s = some r ∧ OkS M r.1 ∧ r.1.ac.length ≤ s.ac.length := by
 have hc := h.sz.conts
 unfold vN
 dsimp only
 obtain ⟨r, r1, r2⟩ := aM (f := oa) (fun st => ∃ i : Nat, st.2 = (i : Int) ∧ i ≤ 1000 ∧ OkS M st.1 ∧ st.1.ac.length ≤ s.ac.length) (fun st => 1000 - st.2.toNat) (fun r => OkS M r.1 ∧ r.1.ac.length ≤ s.ac.length) (fun st ⟨i, h1, h2, h3, h4⟩ => by
  unfold oa
  simp only [h1]
  split
  ·rename_i hlt
   have hlab := h3.sz.conf.sz.labels
   have hlt : i < st.1.bN.ak.length := by have := zd hlt; omega
   obtain ⟨a, a1, a2, a3⟩ := Nj h3 hM (i : Int)
   have hac := a2.sz.conts
   obtain ⟨p, p1, p2⟩ := Nn a2.sz (by omega) (i : Int)
   have hp : p.length ≤ 1000000 := by omega
   simp only [a1, p1, zb]
   rw [xO p a hp]
   obtain ⟨q, q1, q2⟩ := aR (g := fm p) (fin := fun b => (b, (p.length : Int))) (fun _ b => OkS M b ∧ b.ac.length ≤ s.ac.length) (fun r => OkS M r.1 ∧ r.1.ac.length ≤ s.ac.length) p 0 a (fun j t x hx ⟨ht, hle⟩ => by
    obtain ⟨nt, n1, n2, n3⟩ := ht.note (by omega) x (if 1 > t.bW then 1 else t.bW)
    unfold fm
    simp only [n1, zb]
    exact ⟨_, rfl, fun a' e => (by injection e with e; subst e; exact ⟨n2, by omega⟩), fun r e => (by cases e)⟩) (fun b hb => hb) ⟨a2, by omega⟩
   rw [q1]
   simp only [zb, a6 (show i < 1000 by omega) (show 1000 ≤ 1000000 by omega)]
   exact .inl ⟨_, rfl, ⟨i + 1, rfl, by omega, q2.1, q2.2⟩, by simp only [zt]; omega⟩
  ·exact .inr ⟨_, rfl, h3, h4⟩) ab (s, 0) ⟨0, rfl, by omega, h, Nat.le_refl _⟩ (by show 1000 - (0 : Int).toNat < ab; unfold ab; omega)
 rw [r1]
 simp only [zb]
 have hrc := r2.1.sz.conts
 rw [Cl s r.1 (by omega) (by omega)]
 exact ⟨_, rfl, r2⟩
theorem Q5 {s : ByteArray} {a b : Nat} (h1 : a ≤ b) (h2 : b ≤ s.size) : Jl s (a : Int) (b : Int) = some (s.extract a b) := by
 unfold Jl
 rw [if_pos ⟨by omega, by omega, by simpa using h1, by simpa using h2⟩]
 simp
theorem Q4 {s : ByteArray} {a : Nat} (h1 : a ≤ s.size) : Su s (a : Int) = some (s.extract a s.size) := by
 unfold Su
 rw [if_pos ⟨by omega, by simpa using h1⟩]
 simp
theorem Q6 {s : ByteArray} {a : Nat} (h1 : a ≤ s.size) : Oe s (a : Int) = some (s.extract 0 a) := by
 unfold Oe
 rw [if_pos ⟨by omega, by simpa using h1⟩]
 simp
theorem yL (s : ByteArray) (a b : Nat) : (s.extract a b).size ≤ s.size := by simp only [ByteArray.size_extract]; omega
theorem wo {k : Nat} (hk : k ≤ 1000000) : i64.wrap ((k : Int) + 1) = ((k + 1 : Nat) : Int) := by rw [IntKind.wrap_i64]; omega
theorem ltS {k n : Nat} (h : k < n) : decide ((k : Int) < (n : Int)) = true := by simpa using h
theorem geS {k : Nat} : decide ((k : Int) < (k : Int)) = false := by simp
theorem IW (s : ByteArray) (c : Int) (hs : s.size ≤ 100000) : ∃ r, FP s c = some r ∧ r.length ≤ s.size + 1 ∧ ∀ x ∈ r, x.size ≤ s.size := by
 unfold FP
 dsimp only
 obtain ⟨r, r1, r2⟩ := aM (f := te s c) (fun st => ∃ i a : Nat, st.2.2 = (i : Int) ∧ st.2.1 = (a : Int) ∧ i ≤ s.size ∧ a ≤ i ∧ st.1.length ≤ i ∧ ∀ x ∈ st.1, x.size ≤ s.size) (fun st => s.size - st.2.2.toNat) (fun r => ∃ a : Nat, r.2.1 = (a : Int) ∧ a ≤ s.size ∧ r.1.length ≤ s.size ∧ ∀ x ∈ r.1, x.size ≤ s.size) (fun st ⟨i, a, h1, h2, h3, h4, h5, h6⟩ => by
  unfold te
  simp only [h1, h2]
  by_cases hlt : i < s.size
  ·obtain ⟨b, hb⟩ := pg (s := s) (k := (i : Int)) (by omega) (by simpa using hlt)
   simp only [ltS hlt, if_true, hb, zb, wo (show i ≤ 1000000 by omega)]
   split
   ·rw [Q5 h4 h3]
    simp only [zb]
    rw [aD (by simp; omega)]
    refine .inl ⟨_, rfl, ⟨i + 1, i + 1, rfl, rfl, hlt, Nat.le_refl _, by simp; omega, fun x hx => ?_⟩, by simp only [zt]; omega⟩
    simp only [List.mem_append, List.mem_singleton] at hx
    rcases hx with hx | rfl
    ·exact h6 x hx
    ·exact yL _ _ _
   ·exact .inl ⟨_, rfl, ⟨i + 1, a, rfl, rfl, hlt, by omega, by show st.1.length ≤ i + 1; omega, h6⟩, by simp only [zt]; omega⟩
  ·have : i = s.size := by omega
   subst this
   simp only [geS, zf, if_false]
   exact .inr ⟨_, rfl, a, rfl, h4, h5, h6⟩) ab ([], 0, 0) ⟨0, 0, rfl, rfl, Nat.zero_le _, Nat.le_refl _, Nat.le_refl _, fun x hx => by cases hx⟩ (by show s.size - (0 : Int).toNat < ab; unfold ab; omega)
 rw [r1]
 obtain ⟨a, k1, k2, k3, k4⟩ := r2
 simp only [zb, k1]
 split
 ·rw [Q4 k2]
  simp only [zb]
  rw [aD (by simp; omega)]
  refine ⟨_, rfl, by simp; omega, fun x hx => ?_⟩
  simp only [List.mem_append, List.mem_singleton] at hx
  rcases hx with hx | rfl
  ·exact k4 x hx
  ·exact yL _ _ _
 ·exact ⟨_, rfl, by show r.1.length ≤ _; omega, k4⟩
theorem M1 (s : ByteArray) (hs : s.size ≤ 100000) : ∃ r, y7 s = some r ∧ r.length ≤ s.size + 1 ∧ ∀ x ∈ r, x.size ≤ s.size := by
 obtain ⟨l, l1, l2, l3⟩ := IW s 32 hs
 have hl : l.length ≤ 1000000 := by omega
 unfold y7
 simp only [l1, zb]
 obtain ⟨r, r1, r2⟩ := aM (f := pG l) (fun st => ∃ i : Nat, st.2 = (i : Int) ∧ i ≤ l.length ∧ st.1.length ≤ i ∧ ∀ x ∈ st.1, x.size ≤ s.size) (fun st => l.length - st.2.toNat) (fun r => r.1.length ≤ s.size + 1 ∧ ∀ x ∈ r.1, x.size ≤ s.size) (fun st ⟨i, h1, h2, h3, h4⟩ => by
  unfold pG
  simp only [h1]
  by_cases hlt : i < l.length
  ·have g1 : l[i]? = some l[i] := zq hlt
   simp only [bJ g1, if_true, aC g1, zb, a6 hlt hl]
   split
   ·rw [aD (by simp; omega)]
    refine .inl ⟨_, rfl, ⟨i + 1, rfl, hlt, by simp; omega, fun x hx => ?_⟩, by simp only [zt]; omega⟩
    simp only [List.mem_append, List.mem_singleton] at hx
    rcases hx with hx | rfl
    ·exact h4 x hx
    ·exact l3 _ (List.getElem_mem _)
   ·exact .inl ⟨_, rfl, ⟨i + 1, rfl, hlt, by show st.1.length ≤ i + 1; omega, h4⟩, by simp only [zt]; omega⟩
  ·have : i = l.length := by omega
   subst this
   simp only [bz, zf, if_false]
   exact .inr ⟨_, rfl, by show st.1.length ≤ _; omega, h4⟩) ab ([], 0) ⟨0, rfl, Nat.zero_le _, Nat.le_refl _, fun x hx => by cases hx⟩ (by have := an hl; show l.length - (0 : Int).toNat < ab; omega)
 rw [r1]
 exact ⟨_, rfl, r2⟩
theorem td (s : ByteArray) (hs : s.size ≤ 100000) : ∃ r, o7 s = some r := by
 unfold o7
 simp only [orB, zb]
 by_cases h0 : s.size < 1 ∨ s.size > 7
 ·have : (decide ((s.size : Int) < 1) || decide ((s.size : Int) > 7)) = true := by
   rcases h0 with h | h
   ·have : decide ((s.size : Int) < 1) = true := by simp; omega
    rw [this]; rfl
   ·have : decide ((s.size : Int) > 7) = true := by simp; omega
    rw [this]; simp
  simp only [this, if_true, zb]
  exact ⟨_, rfl⟩
 ·have : (decide ((s.size : Int) < 1) || decide ((s.size : Int) > 7)) = false := by
   have h1 : decide ((s.size : Int) < 1) = false := by simp; omega
   have h2 : decide ((s.size : Int) > 7) = false := by simp; omega
   rw [h1, h2]; rfl
  obtain ⟨b, hb⟩ := pg (s := s) (k := 0) (by omega) (by simp; omega)
  simp only [this, zf, if_false, hb, dH, zb]
  split
  ·exact ⟨_, rfl⟩
  ·obtain ⟨r, r1, _⟩ := aM (f := n9 s) (fun st => ∃ i : Nat, st.2 = (i : Int) ∧ i ≤ s.size) (fun st => s.size - st.2.toNat) (fun _ => True) (fun st ⟨i, h1, h2⟩ => by
    unfold n9
    simp only [h1]
    by_cases hlt : i < s.size
    ·obtain ⟨b, hb⟩ := pg (s := s) (k := (i : Int)) (by omega) (by simpa using hlt)
     simp only [ltS hlt, if_true, hb, orB, zb, wo (show i ≤ 1000000 by omega)]
     split
     ·exact .inr ⟨_, rfl, trivial⟩
     ·exact .inl ⟨_, rfl, ⟨i + 1, rfl, hlt⟩, by simp only [zt]; omega⟩
    ·have : i = s.size := by omega
     subst this
     simp only [geS, zf, if_false]
     exact .inr ⟨_, rfl, trivial⟩) ab (0, 0) ⟨0, rfl, Nat.zero_le _⟩ (by show s.size - (0 : Int).toNat < ab; unfold ab; omega)
   rw [r1]
   simp only [zb]
   cases r <;> exact ⟨_, rfl⟩
theorem M2 (s : ByteArray) (hs : s.size ≤ 100000) : ∃ r, y8 s = some r := by
 unfold y8
 dsimp only
 obtain ⟨r, r1, i, r2, r3⟩ := aM (f := pH s) (fun st => ∃ i : Nat, st = (i : Int) ∧ i ≤ s.size) (fun st => s.size - st.toNat) (fun st => ∃ i : Nat, st = (i : Int) ∧ i ≤ s.size) (fun st ⟨i, h1, h2⟩ => by
  unfold pH
  simp only [h1]
  by_cases hlt : i < s.size
  ·obtain ⟨b, hb⟩ := pg (s := s) (k := (i : Int)) (by omega) (by simpa using hlt)
   simp only [ltS hlt, if_true, hb, zb, wo (show i ≤ 1000000 by omega)]
   split
   ·exact .inl ⟨_, rfl, ⟨i + 1, rfl, hlt⟩, by simp only [zt]; omega⟩
   ·exact .inr ⟨_, rfl, i, rfl, h2⟩
  ·have : i = s.size := by omega
   subst this
   simp only [geS, zf, if_false, zb]
   exact .inr ⟨_, rfl, _, rfl, Nat.le_refl _⟩) ab 0 ⟨0, rfl, Nat.zero_le _⟩ (by show s.size - (0 : Int).toNat < ab; unfold ab; omega)
 rw [r1]
 subst r2
 simp only [zb]
 split
 ·exact ⟨_, rfl⟩
 ·rename_i hne
  have hlt : i < s.size := by
   have : i ≠ s.size := fun e => hne (by rw [e]; simp)
   omega
  obtain ⟨a, ha⟩ := td (s.extract 0 i) (Nat.le_trans (yL _ _ _) hs)
  obtain ⟨b, hb⟩ := td (s.extract (i + 1) s.size) (Nat.le_trans (yL _ _ _) hs)
  rw [Q6 (Nat.le_of_lt hlt)]
  simp only [zb, ha, wo (show i ≤ 1000000 by omega)]
  rw [Q4 hlt]
  simp only [zb, hb, dH]
  exact ⟨_, rfl⟩
theorem M3 (w : List ByteArray) (n : Nat) (hn : n ≤ 1000) (hw : w.length ≤ 100001) (hs : ∀ x ∈ w, x.size ≤ 100000) : ∃ r, y9 w (n : Int) = some r ∧ r.1.bl.length ≤ 100001 ∧ r.1.aF.size ≤ 100000 := by
 have hwr : i64.wrap (3 + (n : Int)) = ((3 + n : Nat) : Int) := by rw [IntKind.wrap_i64]; omega
 unfold y9
 simp only [hwr]
 by_cases hl : w.length = 3 + n
 ·have hl' : ((w.length : Int) != ((3 + n : Nat) : Int)) = false := by rw [hl]; simp
  have g0 : w[0]? = some w[0] := zq (by omega)
  have g1 : w[1]? = some w[1] := zq (by omega)
  have g2 : w[2]? = some w[2] := zq (by omega)
  have i0 := aC g0
  have i1 := aC g1
  have i2 := aC g2
  obtain ⟨m, hm⟩ := td w[2] (hs _ (List.getElem_mem _))
  have i0' : av w 0 = some w[0] := i0
  have i1' : av w 1 = some w[1] := i1
  have i2' : av w 2 = some w[2] := i2
  simp only [hl', zf, if_false, i0', zb]
  split
  ·exact ⟨_, rfl, by simp, Nat.zero_le _⟩
  ·simp only [i2', hm, i1', zb]
   obtain ⟨r, r1, r2⟩ := aM (f := pI w) (fun st => ∃ i : Nat, st.2.2 = (i : Int) ∧ i ≤ w.length ∧ st.2.1.bl.length ≤ i ∧ st.2.1.aF.size ≤ 100000) (fun st => w.length - st.2.2.toNat) (fun r => r.2.1.bl.length ≤ 100001 ∧ r.2.1.aF.size ≤ 100000) (fun st ⟨i, h1, h2, h3, h4⟩ => by
    unfold pI
    simp only [h1]
    by_cases hlt : i < w.length
    ·have g1 : w[i]? = some w[i] := zq hlt
     obtain ⟨c, hc⟩ := M2 w[i] (hs _ (List.getElem_mem _))
     simp only [bJ g1, if_true, aC g1, hc, zb, a6 hlt (show w.length ≤ 1000000 by omega)]
     split
     ·rw [aD (by simp; omega)]
      exact .inl ⟨_, rfl, ⟨i + 1, rfl, hlt, by simp; omega, h4⟩, by simp only [zt]; omega⟩
     ·exact .inr ⟨_, rfl, by show st.2.1.bl.length ≤ _; omega, h4⟩
    ·have : i = w.length := by omega
     subst this
     simp only [bz, zf, if_false, zb]
     exact .inr ⟨_, rfl, by show st.2.1.bl.length ≤ _; omega, h4⟩) ab (m.2, (⟨w[1], [], m.1⟩ : az), 3) ⟨3, rfl, by omega, by simp, hs _ (List.getElem_mem _)⟩ (by show w.length - (3 : Int).toNat < ab; unfold ab; omega)
   rw [r1]
   exact ⟨_, rfl, r2⟩
 ·have hl' : ((w.length : Int) != ((3 + n : Nat) : Int)) = true := by simp; omega
  simp only [hl', if_true, zb]
  exact ⟨_, rfl, by simp, Nat.zero_le _⟩
structure mU (c : aw) : Prop where
 labels : c.ak.length ≤ 3
 label : ∀ x ∈ c.ak, x.size ≤ 100000
 queues : c.ae.length ≤ 2001
 paths : ∀ q ∈ c.ae, q.aF.size ≤ 100000
 caps : ∀ q ∈ c.ae, q.bl.length ≤ 100001
theorem mU.nil : mU ⟨[], []⟩ := ⟨by simp, fun x hx => (by cases hx), by simp, fun x hx => (by cases hx), fun x hx => (by cases hx)⟩
theorem M6 (s : ByteArray) : ∃ r, zc s = some r ∧ mU r.1 := by
 unfold zc
 by_cases h0 : s.size > 2000
 ·have : decide ((s.size : Int) > 2000) = true := by simp; omega
  simp only [this, if_true]
  exact ⟨_, rfl, .nil⟩
 have hd : decide ((s.size : Int) > 2000) = false := by simp; omega
 simp only [hd, zf, if_false]
 obtain ⟨l, l1, l2, l3⟩ := IW s 10 (by omega)
 have hl : l.length ≤ 1000000 := by omega
 simp only [l1, zb]
 obtain ⟨r, r1, r2⟩ := aM (f := pK l) (fun st => ∃ i : Nat, st.2.2 = (i : Int) ∧ i ≤ l.length ∧ st.1.ae.length ≤ i ∧ mU st.1) (fun st => l.length - st.2.2.toNat) (fun r => match r with | .inl m => mU m.1 | .inr m => mU m.1) (fun st ⟨i, h1, h2, hq, hp⟩ => by
  unfold pK
  simp only [h1]
  by_cases hlt : i < l.length
  ·have g1 : l[i]? = some l[i] := zq hlt
   have hls := l3 _ (List.getElem_mem hlt)
   obtain ⟨w, w1, w2, w3⟩ := M1 l[i] (by omega)
   simp only [bJ g1, if_true, aC g1, w1, zb, a6 hlt hl]
   split
   ·exact .inl ⟨_, rfl, ⟨i + 1, rfl, hlt, by show st.1.ae.length ≤ i + 1; omega, hp⟩, by simp only [zt]; omega⟩
   rename_i hw0
   have hw : 0 < w.length := by
    rcases Nat.eq_zero_or_pos w.length with e | e
    ·rw [e] at hw0; simp at hw0
    ·exact e
   have i0' : av w 0 = some w[0] := aC (zq hw)
   split
   ·simp only [i0', zb]
    split
    ·exact .inr ⟨_, rfl, .nil⟩
    split
    ·exact .inr ⟨_, rfl, .nil⟩
    rename_i h3
    have h3 : w.length ≤ 3 := by have : ¬ ((w.length : Int) > 3) := fun e => h3 (by simpa using e); omega
    have hlo : loO w 1 = some (w.drop 1) := ko (l := w) (k := 1) hw
    simp only [hlo, zb]
    rw [aD (by simp; omega)]
    simp only [zb]
    refine .inl ⟨_, rfl, ⟨i + 1, rfl, hlt, by show st.1.ae.length ≤ i + 1; omega, ⟨by simp; omega, fun x hx => ?_, hp.queues, hp.paths, hp.caps⟩⟩, by simp only [zt]; omega⟩
    simp only [List.singleton_append, List.mem_cons] at hx
    rcases hx with rfl | hx
    ·exact Nat.zero_le _
    ·have := w3 x (List.mem_of_mem_drop hx); omega
   ·simp only [i0', dH, zb]
    split
    ·exact .inr ⟨_, rfl, .nil⟩
    obtain ⟨q, q1, q2, q3⟩ := M3 w st.1.ak.length (by have := hp.labels; omega) (by omega) (fun x hx => by have := w3 x hx; omega)
    simp only [q1, zb]
    split
    ·exact .inr ⟨_, rfl, .nil⟩
    obtain ⟨K, k1, k2, k3, k4⟩ := aM (f := pJ st.1 q.1) (fun st2 => ∃ j : Nat, st2 = (j : Int) ∧ j ≤ st.1.ae.length) (fun st2 => st.1.ae.length - st2.toNat) (fun st2 => ∃ j : Nat, st2 = (j : Int) ∧ j ≤ st.1.ae.length) (fun st2 ⟨j, e1, e2⟩ => by
     unfold pJ
     simp only [e1]
     by_cases hj : j < st.1.ae.length
     ·have g2 : st.1.ae[j]? = some st.1.ae[j] := zq hj
      simp only [bJ g2, if_true, aC g2, zb, a6 hj (show st.1.ae.length ≤ 1000000 by omega)]
      split
      ·exact .inl ⟨_, rfl, ⟨j + 1, rfl, hj⟩, by simp only [zt]; omega⟩
      ·exact .inr ⟨_, rfl, j, rfl, e2⟩
     ·have : j = st.1.ae.length := by omega
      subst this
      simp only [bz, zf, if_false, zb]
      exact .inr ⟨_, rfl, _, rfl, Nat.le_refl _⟩) ab 0 ⟨0, rfl, Nat.zero_le _⟩ (by have := an (show st.1.ae.length ≤ 1000000 by omega); show st.1.ae.length - (0 : Int).toNat < ab; omega)
    subst k3
    have fin : ∀ tw : Bool, (∃ s', (Option.bind (hiO st.1.ae ((k2 : Nat) : Int)) fun b16 => Option.bind (aU ([] : (List az)) b16) fun b17 => Option.bind (aU b17 [q.1]) fun b18 => Option.bind (loO st.1.ae ((k2 : Nat) : Int)) fun b19 => Option.bind (aU b18 b19) fun b20 => some (Sum.inl ({ st.1 with ae := b20 }, tw, ((i + 1 : Nat) : Int)) : (aw × Bool × Int) ⊕ ((aw × Bool × Int) ⊕ (aw × Int)))) = some (.inl s') ∧ (∃ i : Nat, s'.2.2 = (i : Int) ∧ i ≤ l.length ∧ s'.1.ae.length ≤ i ∧ mU s'.1) ∧ l.length - s'.2.2.toNat < l.length - ((i : Nat) : Int).toNat) := by
     intro tw
     rw [nZ k4]
     simp only [zb]
     rw [aD (by simp; omega)]
     simp only [zb]
     rw [aD (by simp; omega)]
     simp only [zb]
     rw [ko k4]
     simp only [zb]
     rw [aD (by simp; omega)]
     simp only [zb]
     have mem : ∀ x ∈ ([] ++ st.1.ae.take k2 ++ [q.1]) ++ st.1.ae.drop k2, x ∈ st.1.ae ∨ x = q.1 := by
      intro x hx
      simp only [List.nil_append, List.mem_append, List.mem_singleton] at hx
      rcases hx with (hx | hx) | hx
      ·exact .inl (List.mem_of_mem_take hx)
      ·exact .inr hx
      ·exact .inl (List.mem_of_mem_drop hx)
     refine ⟨_, rfl, ⟨i + 1, rfl, hlt, by simp; omega, ⟨hp.labels, hp.label, by simp; omega, fun x hx => ?_, fun x hx => ?_⟩⟩, by simp only [zt]; omega⟩
     ·rcases mem x hx with hx | rfl
      ·exact hp.paths x hx
      ·exact q3
     ·rcases mem x hx with hx | rfl
      ·exact hp.caps x hx
      ·exact q2
    simp only [k1, orB, zb]
    by_cases hj : k2 < st.1.ae.length
    ·have g2 : st.1.ae[k2]? = some st.1.ae[k2] := zq hj
     simp only [bJ g2, if_true, aC g2, zb]
     by_cases ht : st.2.1 = true
     ·simp only [ht, if_true, zb]
      exact .inl (fin _)
     ·simp only [ht, zf, if_false, zb]
      exact .inl (fin _)
    ·have : k2 = st.1.ae.length := by omega
     subst this
     simp only [bz, zf, if_false, zb]
     by_cases ht : st.2.1 = true
     ·simp only [ht, if_true, zb]
      exact .inl (fin _)
     ·simp only [ht, zf, if_false, zb]
      exact .inl (fin _)
  ·have : i = l.length := by omega
   subst this
   simp only [bz, zf, if_false]
   exact .inr ⟨_, rfl, hp⟩) ab ((⟨[], []⟩ : aw), false, 0) ⟨0, rfl, Nat.zero_le _, by simp, .nil⟩ (by have := an hl; show l.length - (0 : Int).toNat < ab; omega)
 rw [r1]
 simp only [zb]
 cases r with
 | inr m => exact ⟨_, rfl, r2⟩
 | inl m =>
  dsimp only
  split
  ·exact ⟨_, rfl, .nil⟩
  split
  ·exact ⟨_, rfl, .nil⟩
  ·exact ⟨_, rfl, r2⟩
def inI (n : Int) : Prop := -9223372036854775808 ≤ n ∧ n ≤ 9223372036854775807
theorem eX {s t : ByteArray} (h : s.size + t.size ≤ 9223372036854775807) : me s t = some (s ++ t) := by unfold me; rw [if_pos h]
theorem Va (n : Int) : ∃ r, Xy [n] = some r ∧ r.size = 1 := ⟨_, rfl, by simp [ByteArray.size_push]⟩
theorem O5 : ∀ (d : Nat) (n : Int), 0 ≤ n → n < 10 ^ (d + 1) → d ≤ 30 → n ≤ 9223372036854775807 → ∀ f, d < f → ∃ r, dn f n = some r ∧ r.size ≤ d + 1
 | d, n, h0, h1, hd, h2, 0, hf => by omega
 | d, n, h0, h1, hd, h2, f + 1, hf => by
  unfold dn
  have e1 : decide (n < 0) = false := by simp; omega
  simp only [e1, zf, if_false]
  by_cases hn : n ≥ 10
  ·have e2 : decide (n ≥ 10) = true := by simpa using hn
   match d, h1, hd, hf with
   | 0, h1, _, _ => simp at h1; omega
   | d + 1, h1, hd, hf =>
   have hq : n.tdiv 10 = n / 10 := Int.tdiv_eq_ediv_of_nonneg h0
   have hm : n.tmod 10 = n % 10 := Int.tmod_eq_emod_of_nonneg h0
   have hw : i64.wrap (n / 10) = n / 10 := by rw [IntKind.wrap_i64]; omega
   have hlt : n / 10 < 10 ^ (d + 1) := by
    have e : (10 : Int) ^ (d + 1 + 1) = 10 ^ (d + 1) * 10 := by rw [Int.pow_succ]
    rw [e] at h1
    generalize (10 : Int) ^ (d + 1) = P at h1 ⊢
    omega
   obtain ⟨a, a1, a2⟩ := O5 d (n / 10) (by omega) hlt (by omega) (by omega) f (by omega)
   obtain ⟨b, b1, b2⟩ := O5 0 (n % 10) (by omega) (by simp; omega) (by omega) (by omega) f (by omega)
   simp only [e2, if_true, hq, hm, hw, a1, b1, zb]
   rw [eX (by omega)]
   exact ⟨_, rfl, by simp only [ByteArray.size_append]; omega⟩
  ·have e2 : decide (n ≥ 10) = false := by simp; omega
   obtain ⟨r, r1, r2⟩ := Va (IntKind.u8.wrap (i64.wrap (48 + n)))
   simp only [e2, zf, if_false, r1, zb]
   exact ⟨_, rfl, by omega⟩
theorem RY {n : Int} (h0 : 0 ≤ n) (h : n ≤ 9223372036854775807) {f : Nat} (hf : 18 < f) : ∃ r, dn f n = some r ∧ r.size ≤ 19 := O5 18 n h0 (Int.lt_of_le_of_lt h (by decide)) (by omega) h f hf
theorem qY {n : Int} (h : inI n) : ∃ r, dn ab n = some r ∧ r.size ≤ 30 := by
 by_cases h0 : 0 ≤ n
 ·obtain ⟨r, r1, r2⟩ := RY h0 h.2 (f := ab) (by unfold ab; omega)
  exact ⟨r, r1, by omega⟩
 ·have hr : ab = 999999999 + 1 := rfl
  rw [hr]
  have hneg : ∀ f, 18 < f → ∃ r, dn (f + 1) n = some r ∧ r.size ≤ 30 := fun f hf => by
   unfold dn
   have e1 : decide (n < 0) = true := by simp; omega
   simp only [e1, if_true]
   split
   ·exact ⟨_, rfl, by decide⟩
   ·rename_i hne
    have hne : n ≠ -9223372036854775808 := by simpa using hne
    have hw : i64.wrap (0 - n) = 0 - n := by rw [IntKind.wrap_i64]; have := h.1; omega
    obtain ⟨a, a1, a2⟩ := RY (n := 0 - n) (by omega) (by have := h.1; omega) (f := f) hf
    simp only [hw, a1, zb]
    have e3 : (⟨#[45]⟩ : ByteArray).size = 1 := rfl
    rw [eX (by rw [e3]; omega)]
    exact ⟨_, rfl, by simp only [ByteArray.size_append, e3]; omega⟩
  exact hneg 999999999 (by omega)
structure WH (c : aw) : Prop where
 labels : c.ak.length ≤ 1000
 label : ∀ x ∈ c.ak, x.size ≤ 100000
 queues : c.ae.length ≤ 1000
 paths : ∀ q ∈ c.ae, q.aF.size ≤ 100000
 caps : ∀ q ∈ c.ae, q.bl.length ≤ 1000
 user : ∀ q ∈ c.ae, inI q.cW
 nums : ∀ q ∈ c.ae, ∀ x ∈ q.bl, inI x.kt ∧ inI x.rN
theorem FQ {c : aw} (h : WH c) : ∃ r, za c = some r := by
 have s1 : (⟨#[32]⟩ : ByteArray).size = 1 := rfl
 have s2 : (⟨#[10]⟩ : ByteArray).size = 1 := rfl
 have s3 : (⟨#[47]⟩ : ByteArray).size = 1 := rfl
 have s4 : (⟨#[113, 117, 101, 117, 101, 32]⟩ : ByteArray).size = 6 := rfl
 have s5 : (⟨#[108, 97, 98, 101, 108, 115]⟩ : ByteArray).size = 6 := rfl
 have hl := h.labels
 have hq := h.queues
 unfold za
 dsimp only
 obtain ⟨r, r1, r2⟩ := aM (f := qU c) (fun st => ∃ i : Nat, st.2 = (i : Int) ∧ i ≤ 1001 ∧ st.1.size ≤ 10 + i * 200000) (fun st => c.ak.length - st.2.toNat) (fun r => r.1.size ≤ 300000000) (fun st ⟨i, h1, h2, h3⟩ => by
  unfold qU
  simp only [h1]
  by_cases hlt : i < c.ak.length
  ·have g1 : c.ak[i]? = some c.ak[i] := zq hlt
   have hs := h.label _ (List.getElem_mem hlt)
   simp only [bJ g1, if_true, aC g1, zb, a6 hlt (show c.ak.length ≤ 1000000 by omega)]
   rw [eX (by rw [s1]; omega)]
   simp only [zb]
   rw [eX (by simp only [ByteArray.size_append, s1]; omega)]
   exact .inl ⟨_, rfl, ⟨i + 1, rfl, by omega, by simp only [ByteArray.size_append, s1]; omega⟩, by simp only [zt]; omega⟩
  ·have : decide ((i : Int) < (c.ak.length : Int)) = false := by simp; omega
   simp only [this, zf, if_false]
   exact .inr ⟨_, rfl, by show st.1.size ≤ _; omega⟩) ab ((⟨#[108, 97, 98, 101, 108, 115]⟩ : ByteArray), 1) ⟨1, rfl, by omega, by rw [s5]; omega⟩ (by show c.ak.length - (1 : Int).toNat < ab; unfold ab; omega)
 rw [r1]
 simp only [zb]
 rw [eX (by rw [s2]; omega)]
 simp only [zb]
 obtain ⟨q, q1, _⟩ := aM (f := qT c) (fun st => ∃ i : Nat, st.2 = (i : Int) ∧ i ≤ c.ae.length ∧ st.1.size ≤ 400000000 + i * 1000000) (fun st => c.ae.length - st.2.toNat) (fun _ => True) (fun st ⟨i, h1, h2, h3⟩ => by
  unfold qT
  simp only [h1]
  by_cases hlt : i < c.ae.length
  ·have g1 : c.ae[i]? = some c.ae[i] := zq hlt
   have hm := List.getElem_mem hlt
   generalize c.ae[i] = Q at g1 hm
   have hp := h.paths _ hm
   have hc := h.caps _ hm
   have hn := h.nums _ hm
   obtain ⟨u, u1, u2⟩ := qY (h.user _ hm)
   simp only [bJ g1, if_true, aC g1, u1, zb, a6 hlt (show c.ae.length ≤ 1000000 by omega)]
   rw [eX (by rw [s4]; omega)]
   simp only [zb]
   rw [eX (by simp only [ByteArray.size_append, s4]; omega)]
   simp only [zb]
   rw [eX (by simp only [ByteArray.size_append, s4, s1]; omega)]
   simp only [zb]
   rw [eX (by simp only [ByteArray.size_append, s4, s1]; omega)]
   simp only [zb]
   generalize hX : st.1 ++ (⟨#[113, 117, 101, 117, 101, 32]⟩ : ByteArray) ++ Q.aF ++ (⟨#[32]⟩ : ByteArray) ++ u = X
   have hXs : X.size ≤ 400000000 + i * 1000000 + 200000 := by rw [← hX]; simp only [ByteArray.size_append, s4, s1]; omega
   obtain ⟨w, w1, w2⟩ := aM (f := qS Q) (fun st2 => ∃ j : Nat, st2.2 = (j : Int) ∧ j ≤ Q.bl.length ∧ st2.1.size ≤ X.size + j * 100) (fun st2 => Q.bl.length - st2.2.toNat) (fun r => r.1.size ≤ X.size + 100000) (fun st2 ⟨j, e1, e2, e3⟩ => by
    unfold qS
    simp only [e1]
    by_cases hj : j < Q.bl.length
    ·have g2 : Q.bl[j]? = some Q.bl[j] := zq hj
     obtain ⟨n1, n2⟩ := hn _ (List.getElem_mem hj)
     obtain ⟨a, a1, a2⟩ := qY n1
     obtain ⟨b, b1, b2⟩ := qY n2
     simp only [bJ g2, if_true, aC g2, a1, b1, zb, a6 hj (show Q.bl.length ≤ 1000000 by omega)]
     rw [eX (by rw [s1]; omega)]
     simp only [zb]
     rw [eX (by simp only [ByteArray.size_append, s1]; omega)]
     simp only [zb]
     rw [eX (by simp only [ByteArray.size_append, s1, s3]; omega)]
     simp only [zb]
     rw [eX (by simp only [ByteArray.size_append, s1, s3]; omega)]
     exact .inl ⟨_, rfl, ⟨j + 1, rfl, hj, by simp only [ByteArray.size_append, s1, s3]; omega⟩, by simp only [zt]; omega⟩
    ·have : j = Q.bl.length := by omega
     subst this
     simp only [bz, zf, if_false]
     exact .inr ⟨_, rfl, by show st2.1.size ≤ _; omega⟩) ab (X, 0) ⟨0, rfl, Nat.zero_le _, by simp⟩ (by show Q.bl.length - (0 : Int).toNat < ab; unfold ab; omega)
   rw [w1]
   simp only [zb]
   rw [eX (by rw [s2]; omega)]
   exact .inl ⟨_, rfl, ⟨i + 1, rfl, hlt, by simp only [ByteArray.size_append, s2]; omega⟩, by simp only [zt]; omega⟩
  ·have : i = c.ae.length := by omega
   subst this
   simp only [bz, zf, if_false]
   exact .inr ⟨_, rfl, trivial⟩) ab (r.1 ++ (⟨#[10]⟩ : ByteArray), 0) ⟨0, rfl, Nat.zero_le _, by simp only [ByteArray.size_append, s2]; omega⟩ (by show c.ae.length - (0 : Int).toNat < ab; unfold ab; omega)
 rw [q1]
 exact ⟨_, rfl⟩
def cnt (s : ByteArray) (k : Nat) : Nat := ((s.data.toList.take k).filter (fun c => c == 46)).length
def dots (s : ByteArray) : Nat := cnt s s.size
theorem Ht {s : ByteArray} {i : Nat} {b : Int} (h : kW s (i : Int) = some b) : ∃ c : UInt8, s.data.toList[i]? = some c ∧ b = (c.toNat : Int) := by
 unfold kW at h
 rw [if_pos (by omega)] at h
 rw [zt, zm] at h
 obtain ⟨c, h1, h2⟩ := h
 exact ⟨c, h1, h2.symm⟩
theorem Fq {s : ByteArray} {i : Nat} {c : UInt8} (h : s.data.toList[i]? = some c) : cnt s (i + 1) = cnt s i + (if c = 46 then 1 else 0) := by
 unfold cnt
 rw [List.take_add_one, h, List.filter_append, List.length_append]
 by_cases hc : c = 46
 ·subst hc; simp
 ·have : (c == 46) = false := by simpa using hc
  simp [hc, this]
theorem Wq (s : ByteArray) {i j : Nat} (h : i ≤ j) : cnt s i ≤ cnt s j := by
 unfold cnt
 exact (List.Sublist.filter _ ((List.take_prefix_take_left h).sublist)).length_le
theorem Wg {c : UInt8} (h : ((c.toNat : Int) != 46) = false) : c = 46 := by
 have h : (c.toNat : Int) = 46 := by simpa using h
 have h : c.toNat = 46 := by omega
 exact UInt8.toNat_inj.1 (by rw [h]; rfl)
theorem Vx {c : UInt8} (h : ((c.toNat : Int) != 46) = true) : c ≠ 46 := by
 intro e
 subst e
 simp at h
theorem Wf {s : ByteArray} {k : Nat} (hk : k ≤ s.size) : dots (s.extract 0 k) = cnt s k := by
 unfold dots cnt
 have e1 : (s.extract 0 k).data.toList = s.data.toList.take k := by
  simp [ByteArray.data_extract]
 have e2 : (s.extract 0 k).size = k := by simp only [ByteArray.size_extract]; omega
 rw [e1, e2, List.take_take, Nat.min_self]
theorem Pg {p r : ByteArray} (hp : p.size ≤ 1000000) (h : dQ p = some r) : r.size = 0 ∨ dots r + 1 ≤ dots p := by
 unfold dQ at h
 dsimp only at h
 obtain ⟨k, hk, h⟩ := bq h
 have hq : k < 0 ∨ kW p k = some 46 := by
  refine mC (f := iZ p) (fun _ => True) (fun k => k < 0 ∨ kW p k = some 46) (fun st r _ h => ?_) _ _ k trivial hk
  unfold iZ at h
  dsimp only at h
  obtain ⟨q, hq, h⟩ := bq h
  split at h
  ·injection h with h; subst h; trivial
  ·rename_i hf
   injection h with h
   subst h
   show st < 0 ∨ kW p st = some 46
   split at hq
   ·obtain ⟨b, hb, hq⟩ := bq hq
    injection hq with hq
    have : b = 46 := by rw [← hq] at hf; simpa using hf
    exact .inr (by rw [hb, this])
   ·rename_i hge
    exact .inl (by have : ¬ (st ≥ 0) := fun e => hge (by simpa using e); omega)
 split at h
 ·injection h with h; subst h; exact .inl rfl
 ·rename_i hge
  have hge : ¬ k < 0 := fun e => hge (by simpa using e)
  obtain ⟨b, hb, h⟩ := bq h
  injection h with h
  subst h
  rcases hq with hq | hq
  ·exact absurd hq hge
  ·obtain ⟨n, rfl⟩ : ∃ n : Nat, k = (n : Int) := ⟨k.toNat, by omega⟩
   obtain ⟨c, hc, e⟩ := Ht hq
   have hlt : n < p.size := by have := (zg.1 hc).1; simpa using this
   rw [Q6 (Nat.le_of_lt hlt)] at hb
   injection hb with hb
   subst hb
   refine .inr ?_
   rw [Wf (Nat.le_of_lt hlt)]
   have hc46 : c = 46 := Wg (by rw [← e]; rfl)
   have h1 := Fq hc
   rw [if_pos hc46] at h1
   have h2 := Wq p (i := n + 1) (j := p.size) hlt
   unfold dots
   omega
theorem rV {p : ByteArray} (hp : p.size ≤ 1000000) : dQ p = some (eT p) ∧ ((eT p).size < p.size ∨ (eT p).size = 0) := by
 obtain ⟨r, h1, h2⟩ := nM p hp
 unfold eT
 rw [h1]
 exact ⟨rfl, h2⟩
theorem Fi : ∀ (n : Nat) (p : ByteArray), p.size ≤ 1000000 → dv n p ≤ dots p + 1
 | 0, p, _ => Nat.zero_le _
 | n + 1, p, hp => by
  unfold dv
  split
  ·exact Nat.zero_le _
  ·obtain ⟨h1, h2⟩ := rV hp
   have ih := Fi n (eT p) (by omega)
   rcases Pg hp h1 with h | h
   ·have : dv n (eT p) = 0 := by
     cases n with
     | zero => rfl
     | succ n => unfold dv; rw [if_pos h]
    omega
   ·omega
theorem FO (s : ByteArray) : ∃ r, vI s = some r := by
 unfold vI
 simp only [orB, zb]
 by_cases h0 : s.size < 1 ∨ s.size > 12
 ·have : (decide ((s.size : Int) < 1) || decide ((s.size : Int) > 12)) = true := by
   rcases h0 with h | h
   ·have : decide ((s.size : Int) < 1) = true := by simp; omega
    rw [this]; rfl
   ·have : decide ((s.size : Int) > 12) = true := by simp; omega
    rw [this]; simp
  simp only [this, if_true]
  exact ⟨_, rfl⟩
 ·have : (decide ((s.size : Int) < 1) || decide ((s.size : Int) > 12)) = false := by
   have h1 : decide ((s.size : Int) < 1) = false := by simp; omega
   have h2 : decide ((s.size : Int) > 12) = false := by simp; omega
   rw [h1, h2]; rfl
  simp only [this, zf, if_false]
  obtain ⟨r, r1, _⟩ := aM (f := qR s) (fun st => ∃ i : Nat, st = (i : Int) ∧ i ≤ s.size) (fun st => s.size - st.toNat) (fun _ => True) (fun st ⟨i, h1, h2⟩ => by
   unfold qR
   simp only [h1]
   by_cases hlt : i < s.size
   ·obtain ⟨b, hb⟩ := pg (s := s) (k := (i : Int)) (by omega) (by simpa using hlt)
    simp only [ltS hlt, if_true, hb, orB, dH, zb, wo (show i ≤ 1000000 by omega)]
    split
    ·exact .inr ⟨_, rfl, trivial⟩
    ·exact .inl ⟨_, rfl, ⟨i + 1, rfl, hlt⟩, by simp only [zt]; omega⟩
   ·have : i = s.size := by omega
    subst this
    simp only [geS, zf, if_false]
    exact .inr ⟨_, rfl, trivial⟩) ab 0 ⟨0, rfl, Nat.zero_le _⟩ (by show s.size - (0 : Int).toNat < ab; unfold ab; omega)
  rw [r1]
  simp only [zb]
  cases r <;> exact ⟨_, rfl⟩
theorem Kp (s : ByteArray) (hs : s.size ≤ 100000) : ∃ r, vH s = some r ∧ (r = true → dots s ≤ 3) := by
 unfold vH
 dsimp only
 have hcn : ∀ k, cnt s k ≤ 100000 := fun k => by
  unfold cnt
  refine Nat.le_trans (List.length_filter_le _ _) (Nat.le_trans (List.length_take_le' _ _) ?_)
  simpa using hs
 obtain ⟨r, r1, r2⟩ := aM (f := n8 s) (fun st => ∃ i a n : Nat, st.2.2 = (i : Int) ∧ st.1 = (a : Int) ∧ st.2.1 = (n : Int) ∧ a ≤ i ∧ ((i ≤ s.size ∧ n = cnt s i) ∨ (i = s.size + 1 ∧ n = cnt s s.size + 1))) (fun st => s.size + 1 - st.2.2.toNat) (fun r => match r with | .inl m => m.2.1 = ((cnt s s.size + 1 : Nat) : Int) | .inr b => b = false) (fun st ⟨i, a, n, h1, h2, h3, h4, h5⟩ => by
  unfold n8
  simp only [h1, h2, h3]
  rcases h5 with ⟨h5, h6⟩ | ⟨h5, h6⟩
  ·have hle : decide ((i : Int) ≤ (s.size : Int)) = true := by simp; omega
   have hn : n ≤ 100000 := by rw [h6]; exact hcn i
   obtain ⟨nm, hnm⟩ := FO (s.extract a i)
   simp only [hle, if_true]
   have body : ∀ n', (n' = n + 1) → (i = s.size ∨ cnt s (i + 1) = n + 1) → ∃ o, (Option.bind (Jl s (a : Int) (i : Int)) fun b5 => Option.bind (vI b5) fun c6 => Option.bind (if (!c6) = true then some true else Option.bind (if ((n : Int) == 0) = true then Option.bind (Jl s (a : Int) (i : Int)) fun b7 => some (!(b7.toList == (⟨#[114, 111, 111, 116]⟩ : ByteArray).toList)) else some false) fun q8 => some q8) fun q9 => if q9 = true then some (Sum.inr (Sum.inr false) : (Int × Int × Int) ⊕ ((Int × Int × Int) ⊕ Bool)) else some (.inl (i64.wrap ((i : Int) + 1), i64.wrap ((n : Int) + 1), i64.wrap ((i : Int) + 1)))) = some o ∧ (o = .inr (.inr false) ∨ o = .inl (((i + 1 : Nat) : Int), ((n + 1 : Nat) : Int), ((i + 1 : Nat) : Int))) := by
    intro n' _ _
    simp only [Q5 h4 h5, hnm, zb, wo (show i ≤ 1000000 by omega), wo (show n ≤ 1000000 by omega)]
    have : ∀ q : Bool, ∃ o, (if q = true then some (Sum.inr (Sum.inr false) : (Int × Int × Int) ⊕ ((Int × Int × Int) ⊕ Bool)) else some (.inl (((i + 1 : Nat) : Int), ((n + 1 : Nat) : Int), ((i + 1 : Nat) : Int)))) = some o ∧ (o = .inr (.inr false) ∨ o = .inl (((i + 1 : Nat) : Int), ((n + 1 : Nat) : Int), ((i + 1 : Nat) : Int))) := fun q => by
     cases q
     ·exact ⟨_, rfl, .inr rfl⟩
     ·exact ⟨_, rfl, .inl rfl⟩
    cases nm with
    | false => simp only [Bool.not_false, if_true, zb]; exact ⟨_, rfl, .inl rfl⟩
    | true =>
     simp only [Bool.not_true, zf, if_false]
     split
     ·simp only [zb]; exact this _
     ·simp only [zb]; exact this _
   by_cases hlt : i < s.size
   ·obtain ⟨b, hb⟩ := pg (s := s) (k := (i : Int)) (by omega) (by simpa using hlt)
    obtain ⟨c, hc, e⟩ := Ht hb
    simp only [ltS hlt, if_true, hb, zb]
    cases hbd : (b != 46) with
    | true =>
     simp only [if_true, wo (show i ≤ 1000000 by omega)]
     have hnd := Vx (c := c) (by rw [← e]; exact hbd)
     exact .inl ⟨_, rfl, ⟨i + 1, a, n, rfl, rfl, rfl, by omega, .inl ⟨hlt, by rw [Fq hc, if_neg hnd]; exact h6⟩⟩, by simp only [zt]; omega⟩
    | false =>
     simp only [zf, if_false]
     have hdt := Wg (c := c) (by rw [← e]; exact hbd)
     have hcs : cnt s (i + 1) = n + 1 := by rw [Fq hc, if_pos hdt, h6]
     obtain ⟨o, o1, o2⟩ := body (n + 1) rfl (.inr hcs)
     rw [o1]
     rcases o2 with rfl | rfl
     ·exact .inr ⟨_, rfl, rfl⟩
     ·exact .inl ⟨_, rfl, ⟨i + 1, i + 1, n + 1, rfl, rfl, rfl, Nat.le_refl _, .inl ⟨hlt, hcs.symm⟩⟩, by simp only [zt]; omega⟩
   ·have hi : i = s.size := by omega
    subst hi
    simp only [geS, zf, if_false, zb]
    obtain ⟨o, o1, o2⟩ := body (n + 1) rfl (.inl rfl)
    rw [o1]
    rcases o2 with rfl | rfl
    ·exact .inr ⟨_, rfl, rfl⟩
    ·exact .inl ⟨_, rfl, ⟨s.size + 1, s.size + 1, n + 1, rfl, rfl, rfl, Nat.le_refl _, .inr ⟨rfl, by rw [h6]⟩⟩, by simp only [zt]; omega⟩
  ·have hle : decide ((i : Int) ≤ (s.size : Int)) = false := by simp; omega
   simp only [hle, zf, if_false]
   exact .inr ⟨_, rfl, by show (n : Int) = _; rw [h6]⟩) ab (0, 0, 0) ⟨0, 0, 0, rfl, rfl, rfl, Nat.le_refl _, .inl ⟨Nat.zero_le _, by simp [cnt]⟩⟩ (by show s.size + 1 - (0 : Int).toNat < ab; unfold ab; omega)
 rw [r1]
 simp only [zb]
 cases r with
 | inr m => exact ⟨_, rfl, fun e => by rw [show m = false from r2] at e; cases e⟩
 | inl m =>
  refine ⟨_, rfl, fun e => ?_⟩
  have r2 : m.2.1 = ((cnt s s.size + 1 : Nat) : Int) := r2
  rw [r2] at e
  have := zd e
  unfold dots
  omega
theorem Ko {c : aw} (h : mU c) : ∃ r, rX c = some r ∧ (r = 0 → 1 ≤ c.ak.length ∧ c.ak.length ≤ 3 ∧ c.ae.length ≤ 16) := by
 have hl := h.labels
 have hq := h.queues
 unfold rX
 simp only [orB, zb]
 cases hb : (decide ((c.ak.length : Int) < 1) || decide ((c.ak.length : Int) > 3) || decide ((c.ae.length : Int) > 16)) with
 | true => simp only [if_true]; exact ⟨_, rfl, fun e => by cases e⟩
 | false =>
  simp only [Bool.or_eq_false_iff, decide_eq_false_iff_not] at hb
  obtain ⟨⟨b1, b2⟩, b3⟩ := hb
  have good : 1 ≤ c.ak.length ∧ c.ak.length ≤ 3 ∧ c.ae.length ≤ 16 := ⟨by omega, by omega, by omega⟩
  have hpos : 0 < c.ak.length := by omega
  have i0 : av c.ak 0 = some c.ak[0] := aC (zq hpos)
  simp only [zf, if_false, i0, zb]
  split
  ·exact ⟨_, rfl, fun _ => good⟩
  obtain ⟨r, r1, _⟩ := aM (f := n7 c) (fun st => ∃ i : Nat, st = (i : Int)) (fun st => c.ak.length - st.toNat) (fun _ => True) (fun st ⟨i, h1⟩ => by
   unfold n7
   simp only [h1]
   by_cases hlt : i < c.ak.length
   ·have g1 : c.ak[i]? = some c.ak[i] := zq hlt
    obtain ⟨n, hn⟩ := FO c.ak[i]
    simp only [bJ g1, if_true, aC g1, hn, zb, a6 hlt (show c.ak.length ≤ 1000000 by omega)]
    split
    ·exact .inr ⟨_, rfl, trivial⟩
    ·exact .inl ⟨_, rfl, ⟨i + 1, rfl⟩, by simp only [zt]; omega⟩
   ·have : decide ((i : Int) < (c.ak.length : Int)) = false := by simp; omega
    simp only [this, zf, if_false]
    exact .inr ⟨_, rfl, trivial⟩) ab 1 ⟨1, rfl⟩ (by show c.ak.length - (1 : Int).toNat < ab; unfold ab; omega)
  rw [r1]
  simp only [zb]
  cases r with
  | inr m => exact ⟨_, rfl, fun _ => good⟩
  | inl m =>
   dsimp only
   obtain ⟨q, q1, _⟩ := aM (f := n6 c) (fun st => ∃ i : Nat, st = (i : Int)) (fun st => c.ak.length - st.toNat) (fun _ => True) (fun st ⟨i, h1⟩ => by
    unfold n6
    simp only [h1]
    by_cases hlt : i < c.ak.length
    ·have g1 : c.ak[i]? = some c.ak[i] := zq hlt
     obtain ⟨w, w1, _⟩ := aM (f := n5 (i : Int) c) (fun st => ∃ j : Nat, st = (j : Int)) (fun st => i - st.toNat) (fun _ => True) (fun st ⟨j, e1⟩ => by
      unfold n5
      simp only [e1]
      by_cases hj : j < i
      ·have g2 : c.ak[j]? = some c.ak[j] := zq (by omega)
       have hd : decide ((j : Int) < (i : Int)) = true := by simpa using hj
       simp only [hd, if_true, aC g1, aC g2, zb, wo (show j ≤ 1000000 by omega)]
       split
       ·exact .inr ⟨_, rfl, trivial⟩
       ·exact .inl ⟨_, rfl, ⟨j + 1, rfl⟩, by simp only [zt]; omega⟩
      ·have hd : decide ((j : Int) < (i : Int)) = false := by simp; omega
       simp only [hd, zf, if_false]
       exact .inr ⟨_, rfl, trivial⟩) ab 1 ⟨1, rfl⟩ (by show i - (1 : Int).toNat < ab; unfold ab; omega)
     simp only [bJ g1, if_true, w1, zb]
     cases w with
     | inr m => exact .inr ⟨_, rfl, trivial⟩
     | inl m =>
      simp only [a6 hlt (show c.ak.length ≤ 1000000 by omega)]
      exact .inl ⟨_, rfl, ⟨i + 1, rfl⟩, by simp only [zt]; omega⟩
    ·have : decide ((i : Int) < (c.ak.length : Int)) = false := by simp; omega
     simp only [this, zf, if_false]
     exact .inr ⟨_, rfl, trivial⟩) ab 1 ⟨1, rfl⟩ (by show c.ak.length - (1 : Int).toNat < ab; unfold ab; omega)
   rw [q1]
   simp only [zb]
   cases q with
   | inr m => exact ⟨_, rfl, fun _ => good⟩
   | inl m => exact ⟨_, rfl, fun _ => good⟩
structure vf (c : aw) (i : Nat) (q : az) : Prop where
 dots : dots q.aF ≤ 3
 above : 0 < i → isQ c (eT q.aF) = true
 caps : q.bl.length = c.ak.length
theorem mU.sz {c : aw} (h : mU c) (hc : ∀ q ∈ c.ae, q.bl.length ≤ 1000) (hq : c.ae.length ≤ 16) : SzC c :=
 ⟨Nat.le_trans h.labels (by decide), Nat.le_trans hq (by decide), hc, fun q hq => Nat.le_trans (h.paths q hq) (by decide)⟩
theorem T6 (c : aw) (p : ByteArray) (hq : c.ae.length ≤ 1000000) (hc : ∀ q ∈ c.ae, q.bl.length ≤ 1000000) : jq c p = some (EI c p, isQ c p) := by
 unfold jq EI isQ
 dsimp only
 rw [rY c p () hq]
 have hg : dI c p = fun (_ : Unit) q => if (q.aF.toList == p.toList) = true then Option.bind (aU [] q.bl) fun b => some (.inr (.inr ({ q with bl := b }, true))) else some (.inl ()) := rfl
 obtain ⟨r, h1, h2⟩ : ∃ r, bk (dI c p) (fun _ => (.inl (c.ae.length : Int) : Int ⊕ (az × Bool))) () c.ae = some r ∧ r = (match c.ae.find? fun q => q.aF.toList == p.toList with | some q => .inr (q, true) | none => .inl (c.ae.length : Int)) := by
  rw [hg]
  have : ∀ l : List az, (∀ q ∈ l, q.bl.length ≤ 1000000) → bk (fun (_ : Unit) q => if (q.aF.toList == p.toList) = true then Option.bind (aU [] q.bl) fun b => some (.inr (.inr ({ q with bl := b }, true))) else some (.inl ())) (fun _ => (.inl (c.ae.length : Int) : Int ⊕ (az × Bool))) () l = some (match l.find? fun q => q.aF.toList == p.toList with | some q => .inr (q, true) | none => .inl (c.ae.length : Int)) := by
   intro l
   induction l with
   | nil => intro _; rfl
   | cons q l ih =>
    intro hl
    simp only [bk, List.find?_cons]
    cases hb : (q.aF.toList == p.toList) with
    | true =>
     simp only [if_true]
     rw [aD (by have := hl q List.mem_cons_self; simp; omega)]
     simp
    | false =>
     simp only [zf, if_false]
     exact ih (fun x hx => hl x (List.mem_cons_of_mem _ hx))
  exact ⟨_, this _ hc, rfl⟩
 rw [h1, h2]
 cases hf : c.ae.find? fun q => q.aF.toList == p.toList with
 | none =>
  have : (c.ae.any fun q => q.aF.toList == p.toList) = false := by
   rw [List.any_eq_false]; intro x hx; have := List.find?_eq_none.1 hf x hx; simpa using this
  rw [this]; rfl
 | some q =>
  have : (c.ae.any fun q => q.aF.toList == p.toList) = true := by rw [List.any_eq_true]; exact ⟨q, List.mem_of_find?_eq_some hf, List.find?_some (p := fun q : az => q.aF.toList == p.toList) hf⟩
  rw [this]; rfl
theorem MT {c : aw} (h : mU c) (i : Nat) (hi : i < c.ae.length) : ∃ r, uN c (i : Int) = some r ∧ (r = 0 → vf c i c.ae[i]) := by
 have hq := h.queues
 have g1 : c.ae[i]? = some c.ae[i] := zq hi
 have hm := List.getElem_mem hi
 have hps := h.paths _ hm
 have hcs := h.caps _ hm
 obtain ⟨b, b1, b2⟩ := Kp c.ae[i].aF hps
 obtain ⟨a1, a2⟩ := rV (p := c.ae[i].aF) (by omega)
 have hfind := T6 c (eT c.ae[i].aF) (by omega) (fun q hq => Nat.le_trans (h.caps q hq) (by decide))
 unfold uN
 simp only [aC g1, b1, zb]
 cases b with
 | false => simp only [Bool.not_false, if_true]; exact ⟨_, rfl, fun e => by cases e⟩
 | true =>
  have hd := b2 rfl
  simp only [Bool.not_true, zf, if_false]
  have step : ∀ q4 : Bool, ∃ r, (if q4 = true then some 7 else Option.bind (dQ c.ae[i].aF) fun c5 => Option.bind (jq c c5) fun c6 => Option.bind (if decide ((i : Int) > 0) = true then some (!c6.2) else some false) fun q7 => if q7 = true then some 12 else Option.bind (if decide (c.ae[i].cW < 1) = true then some true else some (decide (c.ae[i].cW > 1000000))) fun q8 => Option.bind (if q8 = true then some true else some ((c.ae[i].bl.length : Int) != (c.ak.length : Int))) fun q9 => if q9 = true then some 1 else Option.bind (ah (lr c.ae[i]) ab 0) fun r15 => match r15 with | .inr m16 => some m16 | .inl m16 => some (0 : Int)) = some r ∧ (r = 0 → vf c i c.ae[i]) := by
   intro q4
   cases q4 with
   | true => simp only [if_true]; exact ⟨_, rfl, fun e => by cases e⟩
   | false =>
    simp only [zf, if_false, a1, hfind, zb, orB, dH]
    split
    ·exact ⟨_, rfl, fun e => by cases e⟩
    rename_i h7
    split
    ·exact ⟨_, rfl, fun e => by cases e⟩
    rename_i h9
    have good : vf c i c.ae[i] := ⟨hd, fun h0 => by
     have hdd : decide ((i : Int) > 0) = true := by simpa using h0
     rw [hdd] at h7
     simpa using h7, by
     have : ¬ ((c.ae[i].bl.length : Int) != (c.ak.length : Int)) = true := fun e => h9 (by rw [e]; simp)
     have : (c.ae[i].bl.length : Int) = (c.ak.length : Int) := by simpa using this
     omega⟩
    obtain ⟨w, w1, _⟩ := aM (f := lr c.ae[i]) (fun st => ∃ j : Nat, st = (j : Int)) (fun st => c.ae[i].bl.length - st.toNat) (fun _ => True) (fun st ⟨j, e1⟩ => by
     unfold lr
     simp only [e1]
     by_cases hj : j < c.ae[i].bl.length
     ·have g2 : c.ae[i].bl[j]? = some c.ae[i].bl[j] := zq hj
      simp only [bJ g2, if_true, aC g2, orB, zb, a6 hj (show c.ae[i].bl.length ≤ 1000000 by omega)]
      split
      ·exact .inr ⟨_, rfl, trivial⟩
      ·exact .inl ⟨_, rfl, ⟨j + 1, rfl⟩, by simp only [zt]; omega⟩
     ·have hd : decide ((j : Int) < (c.ae[i].bl.length : Int)) = false := by simp; omega
      simp only [hd, zf, if_false]
      exact .inr ⟨_, rfl, trivial⟩) ab 0 ⟨0, rfl⟩ (by show c.ae[i].bl.length - (0 : Int).toNat < ab; unfold ab; omega)
    rw [w1]
    simp only [zb]
    cases w with
    | inr m => exact ⟨_, rfl, fun _ => good⟩
    | inl m => exact ⟨_, rfl, fun _ => good⟩
  by_cases h0 : 0 < i
  ·have hdd : decide ((i : Int) > 0) = true := by simpa using h0
   obtain ⟨k, rfl⟩ : ∃ k, i = k + 1 := ⟨i - 1, by omega⟩
   have hk : i64.wrap (((k + 1 : Nat) : Int) - 1) = (k : Int) := by rw [I8 (by omega)]; omega
   have g2 : c.ae[k]? = some c.ae[k] := zq (by omega)
   simp only [hdd, if_true, hk, aC g2, zb]
   have := step (Op.bytesLess c.ae[k + 1].aF.toList c.ae[k].aF.toList || c.ae[k + 1].aF.toList == c.ae[k].aF.toList)
   simp only [hdd, if_true] at this
   exact this
  ·have hdd : decide ((i : Int) > 0) = false := by simp; omega
   simp only [hdd, zf, if_false, zb]
   have := step false
   simp only [hdd, zf, if_false] at this
   exact this
theorem uO (c : aw) (p : ByteArray) (h : SzC c) : ∃ r, ff c p = some r ∧ r.length ≤ c.ae.length ∧ ∀ x ∈ r, ∃ q ∈ c.ae, q.aF = x ∧ (!(p.toList == (⟨#[]⟩ : ByteArray).toList)) = true ∧ eT x = p := by
 unfold ff
 have hs := jp c p [] (by have := h.queues; omega)
 dsimp only
 rw [hs]
 obtain ⟨r, h1, h2⟩ := aR (g := cA c p) (fin := fun a => (a, (c.ae.length : Int))) (fun k a => a.length ≤ k ∧ ∀ x ∈ a, ∃ q ∈ c.ae, q.aF = x ∧ (!(p.toList == (⟨#[]⟩ : ByteArray).toList)) = true ∧ eT x = p) (fun r => r.1.length ≤ c.ae.length ∧ ∀ x ∈ r.1, ∃ q ∈ c.ae, q.aF = x ∧ (!(p.toList == (⟨#[]⟩ : ByteArray).toList)) = true ∧ eT x = p) c.ae 0 [] (fun j a x hx ⟨h1, h2⟩ => by
  have hm := List.mem_of_getElem? hx
  have hj := (zg.1 hx).1
  obtain ⟨hr, _⟩ := rV (h.paths x hm)
  have hqs := h.queues
  unfold cA
  simp only [hr, zb, dH]
  split
  ·rename_i hc
   rw [Bool.and_eq_true] at hc
   rw [aD (by simp; omega)]
   refine ⟨_, rfl, fun a' e => ?_, fun r e => by cases e⟩
   injection e with e
   subst e
   refine ⟨by simp; omega, fun y hy => ?_⟩
   simp only [List.mem_append, List.mem_singleton] at hy
   rcases hy with hy | rfl
   ·exact h2 y hy
   ·exact ⟨x, hm, rfl, hc.1, rQ hc.2⟩
  ·refine ⟨_, rfl, fun a' e => ?_, fun r e => by cases e⟩
   injection e with e
   subst e
   exact ⟨by omega, h2⟩) (fun a ⟨h1, h2⟩ => ⟨by simpa using h1, h2⟩) ⟨by simp, by simp⟩
 rw [h1]
 exact ⟨_, rfl, h2⟩
theorem Dq {c : aw} {q : az} (h : q ∈ c.ae) : isQ c q.aF = true := by
 unfold isQ
 rw [List.any_eq_true]
 exact ⟨q, h, by simp⟩
theorem MP : eT ⟨#[114, 111, 111, 116]⟩ = ⟨#[]⟩ := by kernel_rfl
theorem Px {c : aw} (h : SzC c) (hc : ∀ q ∈ c.ae, q.bl.length = c.ak.length) : ∃ r, DC c = some r := by
 have hq := h.queues
 have hl := h.labels
 unfold DC
 dsimp only
 rw [Bv c () (by omega)]
 obtain ⟨r, r1, _⟩ := aR (g := ia c) (fin := fun _ => (.inl (c.ae.length : Int) : Int ⊕ Bool)) (fun _ _ => True) (fun _ => True) c.ae 0 () (fun j a x hx _ => by
  obtain ⟨ks, k1, k2, k3⟩ := uO c x.aF h
  have hkl : ks.length ≤ 1000000 := by omega
  unfold ia
  simp only [k1, zb]
  obtain ⟨w, w1, _⟩ := aM (f := ng c ks) (fun st => ∃ i : Nat, st = (i : Int)) (fun st => c.ak.length - st.toNat) (fun _ => True) (fun st ⟨i, h1⟩ => by
   unfold ng
   simp only [h1, dH]
   by_cases hlt : i < c.ak.length
   ·obtain ⟨v, v1, _⟩ : ∃ v, ah (jR ks c (i : Int)) ab (0, 0) = some v ∧ True := by
     rw [Bu ks c (i : Int) 0 hkl]
     exact aR (g := hZ ks c (i : Int)) (fin := fun a => (a, (ks.length : Int))) (fun _ _ => True) (fun _ => True) ks 0 0 (fun j2 a y hy _ => by
      obtain ⟨q, q1, q2, _⟩ := k3 y (List.mem_of_getElem? hy)
      have hqq : isQ c y = true := by rw [← q2]; exact Dq q1
      have hcl := hc _ (yJ hqq).1
      have g2 : (EI c y).bl[i]? = some (EI c y).bl[i] := zq (by omega)
      unfold hZ
      simp only [mL c y h, zb, aC g2]
      exact ⟨_, rfl, fun _ _ => trivial, fun _ _ => trivial⟩) (fun _ _ => trivial) trivial
    simp only [v1, zb, wo (show i ≤ 1000000 by omega)]
    split
    ·split
     ·exact .inr ⟨_, rfl, trivial⟩
     ·exact .inl ⟨_, rfl, ⟨i + 1, rfl⟩, by simp only [zt]; omega⟩
    ·exact .inr ⟨_, rfl, trivial⟩
   ·have hd : decide ((i : Int) < (c.ak.length : Int)) = false := by simp; omega
    simp only [hd, Bool.false_and, zf, if_false]
    exact .inr ⟨_, rfl, trivial⟩) ab 0 ⟨0, rfl⟩ (by show c.ak.length - (0 : Int).toNat < ab; unfold ab; omega)
  rw [w1]
  simp only [zb]
  cases w <;> exact ⟨_, rfl, fun _ _ => trivial, fun _ _ => trivial⟩) (fun _ _ => trivial) trivial
 rw [r1]
 simp only [zb]
 cases r <;> exact ⟨_, rfl⟩
structure YX (c : aw) : Prop where
 form : Au c
 lab1 : 1 ≤ c.ak.length
 lab3 : c.ak.length ≤ 3
 leaf : ∃ q ∈ c.ae, B3 c q.aF = true
theorem EU {α : Type} (f : α → Nat) : ∀ (l : List α), l ≠ [] → ∃ x ∈ l, ∀ y ∈ l, f y ≤ f x
 | [], h => absurd rfl h
 | [x], _ => ⟨x, List.mem_cons_self, fun y hy => by simp at hy; subst hy; exact Nat.le_refl _⟩
 | x :: z :: l, _ => by
  obtain ⟨m, hm, hmax⟩ := EU f (z :: l) (by simp)
  by_cases h : f m ≤ f x
  ·refine ⟨x, List.mem_cons_self, fun y hy => ?_⟩
   rcases List.mem_cons.1 hy with rfl | hy
   ·exact Nat.le_refl _
   ·exact Nat.le_trans (hmax y hy) h
  ·refine ⟨m, List.mem_cons_of_mem _ hm, fun y hy => ?_⟩
   rcases List.mem_cons.1 hy with rfl | hy
   ·omega
   ·exact hmax y hy
theorem Ry {c : aw} (h : SzC c) (hne : c.ae ≠ []) : ∃ q ∈ c.ae, B3 c q.aF = true := by
 obtain ⟨q, hq, hmax⟩ := EU (fun q : az => q.aF.size) c.ae hne
 refine ⟨q, hq, ?_⟩
 obtain ⟨ks, k1, k2, k3⟩ := uO c q.aF h
 have hnil : ks = [] := by
  cases ks with
  | nil => rfl
  | cons x ks =>
   exfalso
   obtain ⟨q2, m1, m2, m3, m4⟩ := k3 x List.mem_cons_self
   have h0 := qw m3
   subst m2
   rcases (rV (h.paths q2 m1)).2 with e | e
   ·have := hmax q2 m1
    rw [m4] at e
    omega
   ·rw [m4] at e; omega
 have : jV c q.aF = some true := by
  unfold jV
  simp only [mL c _ h, Dq hq, if_true, k1, hnil, zb]
  rfl
 unfold B3
 rw [this]; rfl
theorem X8 {c : aw} (h : mU c) (hl : 1 ≤ c.ak.length ∧ c.ak.length ≤ 3 ∧ c.ae.length ≤ 16) (hroot : ∃ q, c.ae[0]? = some q ∧ q.aF = ⟨#[114, 111, 111, 116]⟩) (hq : ∀ i (hi : i < c.ae.length), vf c i c.ae[i]) : YX c := by
 have hmem : ∀ q ∈ c.ae, ∃ i, vf c i q ∧ (i = 0 → q.aF = ⟨#[114, 111, 111, 116]⟩) := fun q hm => by
  obtain ⟨i, hi, rfl⟩ := List.getElem_of_mem hm
  refine ⟨i, hq i hi, fun e => ?_⟩
  subst e
  obtain ⟨q0, e1, e2⟩ := hroot
  rw [zq hi] at e1
  injection e1 with e1
  rw [e1]; exact e2
 have hcap : ∀ q ∈ c.ae, q.bl.length = c.ak.length := fun q hm => by
  obtain ⟨i, hp, _⟩ := hmem q hm
  exact hp.caps
 have hsz : SzC c := h.sz (fun q hm => by rw [hcap q hm]; omega) hl.2.2
 have hne : c.ae ≠ [] := by
  obtain ⟨q0, e1, _⟩ := hroot
  intro e
  rw [e] at e1
  cases e1
 refine ⟨⟨hsz, hcap, fun q hm r hr => ?_, ⟨hl.2.2, fun q hm => ?_⟩, hl.1, Ry hsz hne, fun x hx => Nat.le_trans (h.label x hx) (by decide)⟩, hl.1, hl.2.1, Ry hsz hne⟩
 ·unfold y6 at hr
  dsimp only at hr
  obtain ⟨st, hst, hr⟩ := bq hr
  injection hr with hr
  subst hr
  refine mC (f := nN) (fun st => (∀ x ∈ st.1, isQ c x = true) ∧ (0 < st.2.size → isQ c st.2 = true)) (fun t => ∀ x ∈ t.1, isQ c x = true) (fun st r ⟨i1, i2⟩ h1 => ?_) _ ([], q.aF) st ⟨fun x hx => (by cases hx), fun _ => Dq hm⟩ hst
  unfold nN at h1
  dsimp only at h1
  split at h1
  ·rename_i hne2
   have h0 := qw hne2
   have hq2 := i2 h0
   obtain ⟨b, hb, h1⟩ := bq h1
   obtain ⟨a, ha, h1⟩ := bq h1
   injection h1 with h1
   subst h1
   obtain ⟨g1, g2⟩ := yJ hq2
   have ge := rQ g2
   obtain ⟨i, hp, hrt⟩ := hmem _ g1
   rw [ge] at hrt
   have hav : a = eT st.2 := by
    unfold eT
    rw [ha]; rfl
   refine ⟨fun x hx => ?_, fun ha0 => ?_⟩
   ·have hb2 := (yV hb).2
    subst hb2
    simp only [List.mem_append, List.mem_singleton] at hx
    rcases hx with hx | rfl
    ·exact i1 x hx
    ·exact hq2
   ·show isQ c a = true
    rcases Nat.eq_zero_or_pos i with e | e
    ·have := hrt e
     exfalso
     have : a = ⟨#[]⟩ := by rw [hav, this]; exact MP
     rw [show (((b, a) : List ByteArray × ByteArray).2) = a from rfl, this] at ha0
     exact absurd ha0 (by decide)
    ·have := hp.above e
     rw [ge] at this
     rw [hav]; exact this
  ·injection h1 with h1
   subst h1
   exact i1
 ·obtain ⟨i, hp, _⟩ := hmem q hm
  have := Fi 6 q.aF (by have := h.paths q hm; omega)
  have := hp.dots
  omega
theorem M0 {c : aw} (h : mU c) : ∃ r, uP c = some r ∧ (r = 0 → YX c) := by
 obtain ⟨e, e1, e2⟩ := Ko h
 have hqs := h.queues
 unfold uP
 simp only [e1, zb]
 by_cases he : e = 0
 ·subst he
  have hl := e2 rfl
  have n0 : ((0 : Int) != 0) = false := by decide
  simp only [n0, zf, if_false]
  by_cases hq0 : c.ae.length = 0
  ·have : ((c.ae.length : Int) == 0) = true := by simp [hq0]
   simp only [this, if_true, zb]
   exact ⟨_, rfl, fun e => by cases e⟩
  ·have hb : ((c.ae.length : Int) == 0) = false := by simp; intro e; exact hq0 (by rw [e]; rfl)
   have hpos : 0 < c.ae.length := by omega
   have i0 : av c.ae 0 = some c.ae[0] := aC (zq hpos)
   simp only [hb, zf, if_false, i0, zb]
   cases hr : (!(c.ae[0].aF.toList == (⟨#[114, 111, 111, 116]⟩ : ByteArray).toList)) with
   | true => simp only [if_true]; exact ⟨_, rfl, fun e => by cases e⟩
   | false =>
    have hrt : c.ae[0].aF = ⟨#[114, 111, 111, 116]⟩ := rQ (by simpa using hr)
    simp only [zf, if_false]
    obtain ⟨w, w1, w2⟩ := aM (f := pF c) (fun st => ∃ i : Nat, st = (i : Int) ∧ i ≤ c.ae.length ∧ ∀ j (hj : j < c.ae.length), j < i → vf c j c.ae[j]) (fun st => c.ae.length - st.toNat) (fun r => match r with | .inl _ => ∀ j (hj : j < c.ae.length), vf c j c.ae[j] | .inr m => m ≠ 0) (fun st ⟨i, h1, h2, h3⟩ => by
     unfold pF
     simp only [h1]
     by_cases hlt : i < c.ae.length
     ·have g1 : c.ae[i]? = some c.ae[i] := zq hlt
      obtain ⟨b, b1, b2⟩ := MT h i hlt
      simp only [bJ g1, if_true, b1, zb, a6 hlt (show c.ae.length ≤ 1000000 by omega)]
      split
      ·rename_i hne
       exact .inr ⟨_, rfl, by simpa using hne⟩
      ·rename_i hz
       have hz : b = 0 := by simpa using hz
       refine .inl ⟨_, rfl, ⟨i + 1, rfl, hlt, fun j hj hji => ?_⟩, by simp only [zt]; omega⟩
       rcases Nat.lt_or_ge j i with h4 | h4
       ·exact h3 j hj h4
       ·have : j = i := by omega
        subst this
        exact b2 hz
     ·have : i = c.ae.length := by omega
      subst this
      simp only [bz, zf, if_false]
      exact .inr ⟨_, rfl, fun j hj => h3 j hj hj⟩) ab 0 ⟨0, rfl, Nat.zero_le _, fun j _ hj => by omega⟩ (by show c.ae.length - (0 : Int).toNat < ab; unfold ab; omega)
    rw [w1]
    simp only [zb]
    cases w with
    | inr m => exact ⟨_, rfl, fun e => absurd e w2⟩
    | inl m =>
     dsimp only
     have w2 : ∀ j (hj : j < c.ae.length), vf c j c.ae[j] := w2
     have hform := X8 h hl ⟨_, zq hpos, hrt⟩ w2
     have hcap0 := (w2 0 hpos).caps
     obtain ⟨v, v1, v2⟩ := aM (f := pE c) (fun st => ∃ i : Nat, st = (i : Int)) (fun st => c.ak.length - st.toNat) (fun _ => True) (fun st ⟨i, h1⟩ => by
      unfold pE
      simp only [h1]
      by_cases hlt : i < c.ak.length
      ·have g1 : c.ak[i]? = some c.ak[i] := zq hlt
       have g2 : c.ae[0].bl[i]? = some c.ae[0].bl[i] := zq (by omega)
       simp only [bJ g1, if_true, i0, aC g2, zb, a6 hlt (show c.ak.length ≤ 1000000 by omega)]
       split
       ·exact .inr ⟨_, rfl, trivial⟩
       ·exact .inl ⟨_, rfl, ⟨i + 1, rfl⟩, by simp only [zt]; omega⟩
      ·have hd : decide ((i : Int) < (c.ak.length : Int)) = false := by simp; omega
       simp only [hd, zf, if_false]
       exact .inr ⟨_, rfl, trivial⟩) ab 0 ⟨0, rfl⟩ (by show c.ak.length - (0 : Int).toNat < ab; unfold ab; omega)
     rw [v1]
     simp only [zb]
     cases v with
     | inr m => exact ⟨_, rfl, fun _ => hform⟩
     | inl m =>
      dsimp only
      obtain ⟨s, s1⟩ := Px hform.form.sz hform.form.each
      rw [s1]
      simp only [zb]
      cases s <;> exact ⟨_, rfl, fun _ => hform⟩
 ·have : (e != 0) = true := by simpa using he
  simp only [this, if_true]
  exact ⟨_, rfl, fun e0 => absurd e0 he⟩
def da (oC : Int) (v_n : Int) : Option (Int) :=
 (CC oC v_n).bind fun b1 => let v_k : Int := b1
 (if (decide (v_k < 0)) = true then
 let v_k : Int := (i64.wrap (v_k + v_n))
 some v_k
 else
 some v_k).bind fun j2 => let v_k := j2
 some v_k
def ki (fI : (List Int)) (v_i : Int) : Option (Int) :=
 if ((fI.length : Int) == 0) = true then
 some v_i
 else
 (CC v_i (fI.length : Int)).bind fun b1 => (av fI b1).bind fun b2 => some b2
def ef (v_c : aw) (st : az × Int) : Option ((az × Int) ⊕ ((az × Int))) :=
 let v_q := st.1
 let v_k := st.2
 if (decide (v_k < (v_c.ak.length : Int))) = true then
 (aU v_q.bl [(⟨10000, 10000⟩ : ei)]).bind fun b11 => let v_q : az := { v_q with bl := b11 }
 let v_k : Int := (i64.wrap (v_k + 1))
 some (.inl (v_q, v_k))
 else
 some (.inr (v_q, v_k))
def du (v_l : (List ByteArray)) (fI : (List Int)) (st : aw × Int) : Option ((aw × Int) ⊕ ((aw × Int))) :=
 let v_c := st.1
 let v_i := st.2
 if (decide (v_i < (v_l.length : Int))) = true then
 (av v_l v_i).bind fun b5 => let v_q : az := (⟨b5, [], 1000000⟩ : az)
 (if (decide (v_i < (fI.length : Int))) = true then (av fI v_i).bind fun b6 => some ((Int.tmod b6 3) == 0) else some false).bind fun q7 => (if q7 = true then
 (av fI v_i).bind fun b9 => (da b9 20000).bind fun c10 => let v_q : az := { v_q with cW := (i64.wrap (1 + c10)) }
 some v_q
 else
 some v_q).bind fun j8 => let v_q := j8
 let v_k : Int := 0
 (ah (ef v_c) ab (v_q, v_k)).bind fun r12 =>
 let v_q := r12.1
 let v_k := r12.2
 (aU v_c.ae [v_q]).bind fun b13 => let v_c : aw := { v_c with ae := b13 }
 let v_i : Int := (i64.wrap (v_i + 1))
 some (.inl (v_c, v_i))
 else
 some (.inr (v_c, v_i))
def ed (kR : Int) (v_n : Int) (cm : Int) (v_j : Int) (bw : (List ByteArray)) (st : aw × Int) : Option ((aw × Int) ⊕ ((aw × Int))) :=
 let v_c := st.1
 let v_m := st.2
 if (decide (v_m < (v_c.ae.length : Int))) = true then
 (av v_c.ae v_m).bind fun b28 => (av bw v_j).bind fun b29 => if (b28.aF.toList == b29.toList) = true then
 (av v_c.ae v_m).bind fun b30 => (av b30.bl kR).bind fun b31 => (av v_c.ae v_m).bind fun b32 => let v_c : aw := { v_c with ae := (List.set v_c.ae (Int.toNat v_m) ({ b32 with bl := (List.set b30.bl (Int.toNat kR) (⟨v_n, cm⟩ : ei)) })) }
 let v_m : Int := (i64.wrap (v_m + 1))
 some (.inl (v_c, v_m))
 else
 let v_m : Int := (i64.wrap (v_m + 1))
 some (.inl (v_c, v_m))
 else
 some (.inr (v_c, v_m))
def cU (bw : (List ByteArray)) (fI : (List Int)) (aI : Int) (kR : Int) (st : Int × aw × Int) : Option ((Int × aw × Int) ⊕ ((Int × aw × Int))) :=
 let cn := st.1
 let v_c := st.2.1
 let v_j := st.2.2
 if (decide (v_j < (bw.length : Int))) = true then
 let v_n : Int := cn
 (if (decide (v_j < (i64.wrap ((bw.length : Int) - 1)))) = true then
 (ki fI (i64.wrap ((i64.wrap (aI + v_j)) + kR))).bind fun c18 => (da c18 (i64.wrap (cn + 1))).bind fun c19 => (ki fI (i64.wrap ((i64.wrap (aI * v_j)) + kR))).bind fun c20 => (da c20 4).bind fun c21 => (av ([0, (i64.wrap (Int.tdiv cn 2)), cn, c19] : (List Int)) c21).bind fun b22 => let v_n : Int := b22
 some v_n
 else
 some v_n).bind fun j17 => let v_n := j17
 let cn : Int := (i64.wrap (cn - v_n))
 (ki fI (i64.wrap (v_j + kR))).bind fun c23 => (da c23 (i64.wrap ((i64.wrap (10000 - v_n)) + 1))).bind fun c24 => (ki fI (i64.wrap (aI + (i64.wrap (2 * v_j))))).bind fun c25 => (da c25 3).bind fun c26 => (av ([10000, v_n, (i64.wrap (v_n + c24))] : (List Int)) c26).bind fun b27 => let cm : Int := b27
 let v_m : Int := 0
 (ah (ed kR v_n cm v_j bw) ab (v_c, v_m)).bind fun r33 =>
 let v_c := r33.1
 let v_m := r33.2
 let v_j : Int := (i64.wrap (v_j + 1))
 some (.inl (cn, v_c, v_j))
 else
 some (.inr (cn, v_c, v_j))
def dr (fI : (List Int)) (aI : Int) (bw : (List ByteArray)) (st : aw × Int) : Option ((aw × Int) ⊕ ((aw × Int))) :=
 let v_c := st.1
 let kR := st.2
 if (decide (kR < (v_c.ak.length : Int))) = true then
 let cn : Int := 10000
 let v_j : Int := 0
 (ah (cU bw fI aI kR) ab (cn, v_c, v_j)).bind fun r34 =>
 let cn := r34.1
 let v_c := r34.2.1
 let v_j := r34.2.2
 let kR : Int := (i64.wrap (kR + 1))
 some (.inl (v_c, kR))
 else
 some (.inr (v_c, kR))
def cP (v_l : (List ByteArray)) (fI : (List Int)) (st : aw × Int) : Option ((aw × Int) ⊕ ((aw × Int))) :=
 let v_c := st.1
 let aI := st.2
 if (decide (aI < (v_l.length : Int))) = true then
 (av v_l aI).bind fun b15 => (ff v_c b15).bind fun c16 => let bw : (List ByteArray) := c16
 let kR : Int := 0
 (ah (dr fI aI bw) ab (v_c, kR)).bind fun r35 =>
 let v_c := r35.1
 let kR := r35.2
 let aI : Int := (i64.wrap (aI + 1))
 some (.inl (v_c, aI))
 else
 some (.inr (v_c, aI))
def fO (Q1 : Int) (fI : (List Int)) : Option (aw) :=
 let Xs : (List (List ByteArray)) := ([([(⟨#[114, 111, 111, 116]⟩ : ByteArray)] : (List ByteArray)), ([(⟨#[114, 111, 111, 116]⟩ : ByteArray), (⟨#[114, 111, 111, 116, 46, 97]⟩ : ByteArray), (⟨#[114, 111, 111, 116, 46, 98]⟩ : ByteArray)] : (List ByteArray)), ([(⟨#[114, 111, 111, 116]⟩ : ByteArray), (⟨#[114, 111, 111, 116, 46, 97]⟩ : ByteArray), (⟨#[114, 111, 111, 116, 46, 97, 46, 120]⟩ : ByteArray), (⟨#[114, 111, 111, 116, 46, 97, 46, 121]⟩ : ByteArray), (⟨#[114, 111, 111, 116, 46, 98]⟩ : ByteArray)] : (List ByteArray)), ([(⟨#[114, 111, 111, 116]⟩ : ByteArray), (⟨#[114, 111, 111, 116, 46, 97]⟩ : ByteArray), (⟨#[114, 111, 111, 116, 46, 98]⟩ : ByteArray), (⟨#[114, 111, 111, 116, 46, 98, 46, 120]⟩ : ByteArray), (⟨#[114, 111, 111, 116, 46, 98, 46, 120, 46, 112]⟩ : ByteArray), (⟨#[114, 111, 111, 116, 46, 98, 46, 120, 46, 113]⟩ : ByteArray), (⟨#[114, 111, 111, 116, 46, 99]⟩ : ByteArray)] : (List ByteArray)), ([(⟨#[114, 111, 111, 116]⟩ : ByteArray), (⟨#[114, 111, 111, 116, 46, 97]⟩ : ByteArray)] : (List ByteArray))] : (List (List ByteArray)))
 (da (i64.wrap (Int.tdiv Q1 5)) 2).bind fun c2 => (hiO ([(⟨#[]⟩ : ByteArray), (⟨#[103, 112, 117]⟩ : ByteArray)] : (List ByteArray)) (i64.wrap (1 + c2))).bind fun b1 => let v_c : aw := (⟨b1, []⟩ : aw)
 (da Q1 5).bind fun c3 => (av Xs c3).bind fun b4 => let v_l : (List ByteArray) := b4
 let v_i : Int := 0
 (ah (du v_l fI) ab (v_c, v_i)).bind fun r14 =>
 let v_c := r14.1
 let v_i := r14.2
 let aI : Int := 0
 (ah (cP v_l fI) ab (v_c, aI)).bind fun r36 =>
 let v_c := r36.1
 let aI := r36.2
 some v_c
def ip (v_c : aw) (st : az) (x_ : ByteArray) : Option ((az) ⊕ ((az × Int))) :=
 let v_q := st
 (aU v_q.bl [(⟨10000, 10000⟩ : ei)]).bind fun b12 => let v_q : az := { v_q with bl := b12 }
 some (.inl v_q)
theorem sp (v_c : aw) (a_ : az) (hl : v_c.ak.length ≤ 1000000) : ah (ef v_c) ab (a_, (0)) = bk (ip v_c) (fun a_ => (a_, ((v_c.ak.length : Int)))) a_ v_c.ak :=
 ay v_c.ak (S := az × Int) (fun a_ k_ => (a_, (k_))) (ip v_c) (fun a_ => (a_, ((v_c.ak.length : Int)))) (an hl) (fun k a x hx => by
  unfold ef ip; exact bH)
  (fun a => by unfold ef; exact cF) a_
def iq (v_l : (List ByteArray)) (fI : (List Int)) (st : aw) (v_i : Int) (x_ : ByteArray) : Option ((aw) ⊕ ((aw × Int))) :=
 let v_c := st
 let v_q : az := (⟨x_, [], 1000000⟩ : az)
 (if (decide (v_i < (fI.length : Int))) = true then (av fI v_i).bind fun b14 => some ((Int.tmod b14 3) == 0) else some false).bind fun q15 => (if q15 = true then
 (av fI v_i).bind fun b17 => (da b17 20000).bind fun c18 => let v_q : az := { v_q with cW := (i64.wrap (1 + c18)) }
 some v_q
 else
 some v_q).bind fun j16 => let v_q := j16
 let v_k : Int := 0
 (ah (ef v_c) ab (v_q, v_k)).bind fun r19 =>
 let v_q := r19.1
 let v_k := r19.2
 (aU v_c.ae [v_q]).bind fun b20 => let v_c : aw := { v_c with ae := b20 }
 some (.inl v_c)
theorem BK (v_l : (List ByteArray)) (fI : (List Int)) (a_ : aw) (hl : v_l.length ≤ 1000000) : ah (du v_l fI) ab (a_, (0)) = ny (iq v_l fI) (fun a_ => (a_, ((v_l.length : Int)))) a_ 0 v_l :=
 fa v_l (S := aw × Int) (fun a_ k_ => (a_, (k_))) (iq v_l fI) (fun a_ => (a_, ((v_l.length : Int)))) (an hl) (fun k a x hx => by
  unfold du iq; exact bH)
  (fun a => by unfold du; exact cF) a_
def il (bw : (List ByteArray)) (fI : (List Int)) (aI : Int) (kR : Int) (st : Int × aw) (v_j : Int) (x_ : ByteArray) : Option ((Int × aw) ⊕ ((Int × aw × Int))) :=
 let cn := st.1
 let v_c := st.2
 let v_n : Int := cn
 (if (decide (v_j < (i64.wrap ((bw.length : Int) - 1)))) = true then
 (ki fI (i64.wrap ((i64.wrap (aI + v_j)) + kR))).bind fun c35 => (da c35 (i64.wrap (cn + 1))).bind fun c36 => (ki fI (i64.wrap ((i64.wrap (aI * v_j)) + kR))).bind fun c37 => (da c37 4).bind fun c38 => (av ([0, (i64.wrap (Int.tdiv cn 2)), cn, c36] : (List Int)) c38).bind fun b39 => let v_n : Int := b39
 some v_n
 else
 some v_n).bind fun j34 => let v_n := j34
 let cn : Int := (i64.wrap (cn - v_n))
 (ki fI (i64.wrap (v_j + kR))).bind fun c40 => (da c40 (i64.wrap ((i64.wrap (10000 - v_n)) + 1))).bind fun c41 => (ki fI (i64.wrap (aI + (i64.wrap (2 * v_j))))).bind fun c42 => (da c42 3).bind fun c43 => (av ([10000, v_n, (i64.wrap (v_n + c41))] : (List Int)) c43).bind fun b44 => let cm : Int := b44
 let v_m : Int := 0
 (ah (ed kR v_n cm v_j bw) ab (v_c, v_m)).bind fun r45 =>
 let v_c := r45.1
 let v_m := r45.2
 some (.inl (cn, v_c))
theorem BI (bw : (List ByteArray)) (fI : (List Int)) (aI : Int) (kR : Int) (a_ : Int × aw) (hl : bw.length ≤ 1000000) : ah (cU bw fI aI kR) ab (a_.1, a_.2, (0)) = ny (il bw fI aI kR) (fun a_ => (a_.1, a_.2, ((bw.length : Int)))) a_ 0 bw :=
 fa bw (S := Int × aw × Int) (fun a_ k_ => (a_.1, a_.2, (k_))) (il bw fI aI kR) (fun a_ => (a_.1, a_.2, ((bw.length : Int)))) (an hl) (fun k a x hx => by
  unfold cU il; exact bH)
  (fun a => by unfold cU; exact cF) a_
def im (v_l : (List ByteArray)) (fI : (List Int)) (st : aw) (aI : Int) (x_ : ByteArray) : Option ((aw) ⊕ ((aw × Int))) :=
 let v_c := st
 (ff v_c x_).bind fun c36 => let bw : (List ByteArray) := c36
 let kR : Int := 0
 (ah (dr fI aI bw) ab (v_c, kR)).bind fun r37 =>
 let v_c := r37.1
 let kR := r37.2
 some (.inl v_c)
theorem BJ (v_l : (List ByteArray)) (fI : (List Int)) (a_ : aw) (hl : v_l.length ≤ 1000000) : ah (cP v_l fI) ab (a_, (0)) = ny (im v_l fI) (fun a_ => (a_, ((v_l.length : Int)))) a_ 0 v_l :=
 fa v_l (S := aw × Int) (fun a_ k_ => (a_, (k_))) (im v_l fI) (fun a_ => (a_, ((v_l.length : Int)))) (an hl) (fun k a x hx => by
  unfold cP im; exact bH)
  (fun a => by unfold cP; exact cF) a_
theorem gW (a : Int) {n : Int} (h0 : 0 < n) (h1 : n ≤ 1000000000) : Ok (da a n) (fun k => 0 ≤ k ∧ k < n) := by
 unfold da CC
 rw [if_neg (by omega)]
 have h := Df (a := a) h0
 simp only [zb]
 refine Ok.bind (P := fun k => 0 ≤ k ∧ k < n) (Ok.ite (fun hc => ?_) fun hc => ?_) fun r hr => Ok.pure hr
 ·have := zd hc
  refine Ok.pure ?_
  rw [IntKind.wrap_i64]; omega
 ·have := of_decide_eq_false (by simpa using hc : decide (a.tmod n < 0) = false)
  exact Ok.pure (by omega)
theorem tt (ns : List Int) {i : Int} (h : 0 ≤ i) : Ok (ki ns i) (fun _ => True) := by
 unfold ki
 refine Ok.ite (fun _ => Ok.pure trivial) fun hc => ?_
 have hn : (ns.length : Int) ≠ 0 := fun e => hc (by rw [e]; rfl)
 unfold CC
 rw [if_neg hn]
 simp only [zb]
 refine Ok.bind (jl (Int.tmod_nonneg _ h) (Df (by omega)).2) fun r _ => Ok.pure trivial
structure QG (L : Nat) (q : az) : Prop where
 path : q.aF.size ≤ 100
 caps : q.bl.length = L
 user : inI q.cW
 nums : ∀ x ∈ q.bl, inI x.kt ∧ inI x.rN
structure CG (L : Nat) (c : aw) : Prop where
 labels : c.ak.length = L
 label : ∀ x ∈ c.ak, x.size ≤ 100
 queues : ∀ q ∈ c.ae, QG L q
theorem CG.text {L : Nat} {c : aw} (h : CG L c) (hL : L ≤ 10) (hn : c.ae.length ≤ 10) : WH c :=
 ⟨by have := h.labels; omega, fun x hx => Nat.le_trans (h.label x hx) (by omega), by omega, fun q hq => Nat.le_trans (h.queues q hq).path (by omega), fun q hq => by have := (h.queues q hq).caps; omega, fun q hq => (h.queues q hq).user, fun q hq => (h.queues q hq).nums⟩
theorem CG.sz {L : Nat} {c : aw} (h : CG L c) (hL : L ≤ 10) (hn : c.ae.length ≤ 10) : SzC c :=
 ⟨by have := h.labels; omega, by omega, fun q hq => by have := (h.queues q hq).caps; omega, fun q hq => Nat.le_trans (h.queues q hq).path (by omega)⟩
theorem o5 {n : Int} (h : -1000000000 ≤ n ∧ n ≤ 1000000000) : inI n := by unfold inI; omega
theorem Rq {α : Type} {l : List α} {i : Nat} {a x : α} (h : x ∈ l.set i a) : x ∈ l ∨ x = a := List.mem_or_eq_of_mem_set h
theorem W9 {L : Nat} {k : Nat} (hk : k < L) {n most : Int} (hn : inI n) (hm : inI most) {kids : List ByteArray} {j : Nat} (hj : j < kids.length) {N : Nat} (hN : N ≤ 10) {c : aw} (hc : CG L c) (hcn : c.ae.length = N) : Ok (ah (ed (k : Int) n most (j : Int) kids) ab (c, 0)) (fun r => CG L r.1 ∧ r.1.ae.length = N) := by
 refine aM (fun st => ∃ m : Nat, st.2 = (m : Int) ∧ m ≤ N ∧ CG L st.1 ∧ st.1.ae.length = N) (fun st => N - st.2.toNat) _ (fun st ⟨m, h1, h2, h3, h4⟩ => ?_) ab (c, 0) ⟨0, rfl, Nat.zero_le _, hc, hcn⟩ (by show N - (0 : Int).toNat < ab; unfold ab; omega)
 unfold ed
 simp only [h1]
 split
 ·rename_i hlt
  have hlt : m < st.1.ae.length := by have := zd hlt; omega
  have e1 := zq hlt
  have e2 := zq hj
  have hq := h3.queues _ (List.getElem_mem hlt)
  have hkk : k < st.1.ae[m].bl.length := by rw [hq.caps]; exact hk
  have e3 := zq hkk
  simp only [aC e1, aC e2, aC e3, zb, a6 (show m < 10 by omega) (show 10 ≤ 1000000 by omega), zt]
  left
  split
  ·refine ⟨_, rfl, ⟨m + 1, rfl, by omega, ⟨h3.labels, h3.label, fun q hq' => ?_⟩, by simpa using h4⟩, by simp only [zt]; omega⟩
   rcases Rq hq' with h | h
   ·exact h3.queues q h
   ·subst h
    refine ⟨hq.path, by simpa using hq.caps, hq.user, fun x hx => ?_⟩
    rcases Rq hx with h | h
    ·exact hq.nums x h
    ·subst h; exact ⟨hn, hm⟩
  ·exact ⟨_, rfl, ⟨m + 1, rfl, by omega, h3, h4⟩, by simp only [zt]; omega⟩
 ·exact .inr ⟨_, rfl, h3, h4⟩
theorem w64 {n : Int} (h : -1000000000000 ≤ n ∧ n ≤ 1000000000000) : i64.wrap n = n := by rw [IntKind.wrap_i64]; omega
theorem Xb {L : Nat} {k : Nat} (hk : k < L) (hL : L ≤ 10) {kids : List ByteArray} (hkd : kids.length ≤ 10) (ns : List Int) {i : Nat} (hi : i ≤ 10) {N : Nat} (hN : N ≤ 10) {c : aw} (hc : CG L c) (hcn : c.ae.length = N) : Ok (ah (cU kids ns (i : Int) (k : Int)) ab (10000, c, 0)) (fun r => CG L r.2.1 ∧ r.2.1.ae.length = N) := by
 have := BI kids ns (i : Int) (k : Int) (10000, c) (by omega)
 dsimp only at this
 rw [this]
 refine Ok.weak (ub (g := il kids ns (i : Int) (k : Int)) (fin := fun a_ => (a_.1, a_.2, ((kids.length : Int)))) (fun _ st => (0 ≤ st.1 ∧ st.1 ≤ 10000) ∧ CG L st.2 ∧ st.2.ae.length = N) kids (10000, c) (fun j st x hx ⟨⟨l0, l1⟩, h2, h3⟩ => ?_) ⟨⟨by omega, by omega⟩, hc, hcn⟩) (fun r ⟨a, e, h⟩ => by subst e; exact h.2)
 have hj := (zg.1 hx).1
 obtain ⟨left, c⟩ := st
 dsimp only at l0 l1 h2 h3
 unfold il
 dsimp only
 have hij : (i : Int) * (j : Int) ≤ 100 := by
  have : i * j ≤ 10 * 10 := Nat.mul_le_mul hi (by omega)
  exact_mod_cast this
 have hij0 : 0 ≤ (i : Int) * (j : Int) := Int.mul_nonneg (by omega) (by omega)
 refine Ok.bind (P := fun n => 0 ≤ n ∧ n ≤ left) (Ok.ite (fun _ => ?_) fun _ => Ok.pure ⟨l0, Int.le_refl _⟩) fun n hn => ?_
 ·have h2d : left.tdiv 2 = left / 2 := Int.tdiv_eq_ediv_of_nonneg l0
  rw [h2d, w64 (n := (i : Int) + j) (by omega), w64 (n := (i : Int) + j + k) (by omega), w64 (n := left + 1) (by omega), w64 (n := (i : Int) * j) (by omega), w64 (n := (i : Int) * j + k) (by omega), w64 (n := left / 2) (by omega)]
  refine Ok.bind (tt ns (by omega)) fun p _ => Ok.bind (gW p (by omega) (by omega)) fun v hv => Ok.bind (tt ns (by omega)) fun p2 _ => Ok.bind (gW p2 (by omega) (by omega)) fun u hu => Ok.bind (jl hu.1 hu.2) fun b hb => Ok.pure ?_
  simp only [List.mem_cons, List.not_mem_nil, or_false] at hb
  omega
 ·rw [w64 (n := left - n) (by omega), w64 (n := (j : Int) + k) (by omega), w64 (n := 10000 - n) (by omega), w64 (n := 10000 - n + 1) (by omega), w64 (n := 2 * (j : Int)) (by omega), w64 (n := (i : Int) + 2 * j) (by omega)]
  refine Ok.bind (tt ns (by omega)) fun p _ => Ok.bind (gW p (by omega) (by omega)) fun v hv => Ok.bind (tt ns (by omega)) fun p2 _ => Ok.bind (gW p2 (by omega) (by omega)) fun u hu => Ok.bind (jl hu.1 hu.2) fun b hb => ?_
  rw [w64 (n := n + v) (by omega)] at hb
  simp only [List.mem_cons, List.not_mem_nil, or_false] at hb
  refine Ok.bind (W9 hk (o5 (n := n) (by omega)) (o5 (n := b) (by omega)) hj hN h2 h3) fun r hr => Ok.pure ⟨_, rfl, ⟨by show 0 ≤ left - n; omega, by show left - n ≤ 10000; omega⟩, hr.1, hr.2⟩
theorem Xc {L : Nat} (hL : L ≤ 10) {kids : List ByteArray} (hkd : kids.length ≤ 10) (ns : List Int) {i : Nat} (hi : i ≤ 10) {N : Nat} (hN : N ≤ 10) {c : aw} (hc : CG L c) (hcn : c.ae.length = N) : Ok (ah (dr ns (i : Int) kids) ab (c, 0)) (fun r => CG L r.1 ∧ r.1.ae.length = N) := by
 refine aM (fun st => ∃ m : Nat, st.2 = (m : Int) ∧ m ≤ L ∧ CG L st.1 ∧ st.1.ae.length = N) (fun st => L - st.2.toNat) _ (fun st ⟨m, h1, h2, h3, h4⟩ => ?_) ab (c, 0) ⟨0, rfl, Nat.zero_le _, hc, hcn⟩ (by show L - (0 : Int).toNat < ab; unfold ab; omega)
 unfold dr
 simp only [h1]
 split
 ·rename_i hlt
  have hlt : m < L := by have := zd hlt; have := h3.labels; omega
  obtain ⟨r, r1, r2, r3⟩ := Xb hlt hL hkd ns hi hN h3 h4
  simp only [r1, zb, a6 (show m < 10 by omega) (show 10 ≤ 1000000 by omega)]
  exact .inl ⟨_, rfl, ⟨m + 1, rfl, by omega, r2, r3⟩, by simp only [zt]; omega⟩
 ·exact .inr ⟨_, rfl, h3, h4⟩
theorem Xe {L : Nat} {c : aw} (hl : c.ak.length = L) (hL : L ≤ 10) {q : az} (hp : q.aF.size ≤ 100) (hu : inI q.cW) (hc : q.bl = []) : Ok (ah (ef c) ab (q, 0)) (fun r => QG L r.1) := by
 rw [sp c q (by omega)]
 refine Ok.weak (D1 (g := ip c) (fin := fun a_ => (a_, ((c.ak.length : Int)))) (fun k b => QG k b) c.ak q (fun j b x hx hb => ?_) ⟨hp, by rw [hc]; rfl, hu, by rw [hc]; intro x hx; cases hx⟩) (fun r ⟨a, e, h⟩ => by subst e; rw [hl] at h; exact h)
 have hj := (zg.1 hx).1
 have := hb.caps
 unfold ip
 dsimp only
 rw [aD (by simp; omega)]
 refine Ok.pure ⟨_, rfl, hb.path, by simpa using this, hb.user, fun y hy => ?_⟩
 simp only [List.mem_append, List.mem_singleton] at hy
 rcases hy with h | h
 ·exact hb.nums y h
 ·subst h; exact ⟨o5 (by decide), o5 (by decide)⟩
theorem Xg {L : Nat} (hL : L ≤ 10) {l : List ByteArray} (hl : l.length ≤ 10) (hs : ∀ x ∈ l, x.size ≤ 100) (ns : List Int) {c : aw} (hc : CG L c) (hq : c.ae = []) : Ok (ah (du l ns) ab (c, 0)) (fun r => CG L r.1 ∧ r.1.ae.length = l.length) := by
 rw [BK l ns c (by omega)]
 refine Ok.weak (ub (g := iq l ns) (fin := fun a_ => (a_, ((l.length : Int)))) (fun k b => CG L b ∧ b.ae.length = k) l c (fun j b x hx ⟨hb, hn⟩ => ?_) ⟨hc, by rw [hq]; rfl⟩) (fun r ⟨a, e, h⟩ => by subst e; exact h)
 have hj := (zg.1 hx).1
 unfold iq
 dsimp only
 refine Ok.bind (P := fun t => t = true → j < ns.length) (Ok.ite (fun hd => ?_) fun _ => Ok.pure (fun e => by cases e)) fun t ht => ?_
 ·have hd := zd hd
  exact Ok.bind (jl (by omega) hd) fun b _ => Ok.pure (fun _ => by omega)
 refine Ok.bind (P := fun q : az => q.aF = x ∧ q.bl = [] ∧ inI q.cW) (Ok.ite (fun hd => ?_) fun _ => Ok.pure ⟨rfl, rfl, (by show inI 1000000; exact o5 (by decide))⟩) fun q ⟨q1, q2, q3⟩ => ?_
 ·have := ht hd
  refine Ok.bind (jl (by omega) (by omega)) fun b _ => Ok.bind (gW b (by omega) (by omega)) fun v hv => Ok.pure ⟨rfl, rfl, ?_⟩
  show inI (i64.wrap (1 + v))
  rw [w64 (by omega)]
  exact o5 (by omega)
 ·refine Ok.bind (Xe hb.labels hL (by rw [q1]; exact hs x (List.mem_of_getElem? hx)) q3 q2) fun r hr => ?_
  rw [aD (by simp; omega)]
  refine Ok.pure ⟨_, rfl, ⟨hb.labels, hb.label, fun y hy => ?_⟩, by simp; omega⟩
  simp only [List.mem_append, List.mem_singleton] at hy
  rcases hy with h | h
  ·exact hb.queues y h
  ·subst h; exact hr
theorem Xd {L : Nat} (hL : L ≤ 10) {l : List ByteArray} (hl : l.length ≤ 10) (ns : List Int) {N : Nat} (hN : N ≤ 10) {c : aw} (hc : CG L c) (hq : c.ae.length = N) : Ok (ah (cP l ns) ab (c, 0)) (fun r => CG L r.1 ∧ r.1.ae.length = N) := by
 rw [BJ l ns c (by omega)]
 refine Ok.weak (ub (g := im l ns) (fin := fun a_ => (a_, ((l.length : Int)))) (fun k b => CG L b ∧ b.ae.length = N) l c (fun j b x hx ⟨hb, hn⟩ => ?_) ⟨hc, hq⟩) (fun r ⟨a, e, h⟩ => by subst e; exact h)
 have hj := (zg.1 hx).1
 unfold im
 dsimp only
 obtain ⟨kd, k1, k2, _⟩ := uO b x (hb.sz hL (by omega))
 refine Ok.bind (P := fun kd => kd.length ≤ 10) ⟨kd, k1, by omega⟩ fun kd hkd => Ok.bind (Xc hL hkd ns (by omega) hN hb hn) fun r hr => Ok.pure ⟨_, rfl, hr.1, hr.2⟩
theorem GF (shape : Int) (ns : List Int) : Ok (fO shape ns) WH := by
 unfold fO
 dsimp only
 refine Ok.bind (gW _ (by omega) (by omega)) fun w hw => ?_
 rw [w64 (n := 1 + w) (by omega)]
 obtain ⟨W, rfl⟩ : ∃ W : Nat, w = (W : Int) := ⟨w.toNat, by omega⟩
 rw [show (1 + (W : Int)) = ((1 + W : Nat) : Int) by omega, nZ (by simp; omega)]
 simp only [zb]
 refine Ok.bind (gW _ (by omega) (by omega)) fun t ht => Ok.bind (jl ht.1 ht.2) fun l hl => ?_
 have key : l.length ≤ 7 ∧ ∀ x ∈ l, x.size ≤ 100 := by
  simp only [List.mem_cons, List.not_mem_nil, or_false] at hl
  rcases hl with h | h | h | h | h <;> subst h <;> decide
 have hL : (List.take (1 + W) [(⟨#[]⟩ : ByteArray), ⟨#[103, 112, 117]⟩]).length ≤ 10 := Nat.le_trans (List.length_take_le' _ _) (by decide)
 refine Ok.bind (Xg hL (by omega) key.2 ns ⟨rfl, fun x hx => ?_, fun q hq => by cases hq⟩ rfl) fun r hr => Ok.bind (Xd hL (by omega) ns (by omega) hr.1 hr.2) fun q hq => Ok.pure (hq.1.text hL (by have := hq.2; omega))
 have := List.mem_of_mem_take hx
 simp only [List.mem_cons, List.not_mem_nil, or_false] at this
 rcases this with h | h <;> subst h <;> decide
section
def bT (l : Tx) : ByteArray := ⟨l.toArray⟩
def gP (c : Int × Int) : ei := ⟨c.1, c.2⟩
def gQ (d : QD) : az := ⟨bT d.path, d.caps.map gP, d.user⟩
def gC (nl : Nat) (ds : List QD) : aw := ⟨(CF nl).map bT, ds.map gQ⟩
theorem Wz {a b : Tx} : ((bT a).toList == (bT b).toList) = decide (a = b) := by
 by_cases h : a = b
 ·subst h; simp
 ·have : bT a ≠ bT b := fun e => h (by
   have := congrArg (fun x : ByteArray => x.data.toList) e
   simpa [bT] using this)
  rw [decide_eq_false h]
  cases hb : ((bT a).toList == (bT b).toList) with
  | false => rfl
  | true => exact absurd (rQ hb) this
theorem gX (a : Int) {n : Int} (h0 : 0 < n) (h1 : n ≤ 1125899906842625) : da a n = some (a % n) := by
 have l1 : a.tmod n < n := Int.tmod_lt_of_pos a h0
 have l2 : -n < a.tmod n := by have := Int.lt_tmod_of_pos a h0; omega
 unfold da CC
 rw [if_neg (by omega)]
 simp only [zb]
 by_cases hneg : a.tmod n < 0
 ·rw [Mm h0 hneg]
  simp only [hneg, decide_true, if_true, zb]
  rw [IntKind.wrap_i64]
  congr 1
  omega
 ·rw [Ml h0 hneg]
  simp only [hneg, decide_false, zf, if_false, zb]
def gY (xs : List Int) (i : Int) : Int := if xs.length = 0 then i else xs.getD (i % (xs.length : Int)).toNat 0
theorem tu (xs : List Int) {i : Int} (h : 0 ≤ i) : ki xs i = some (gY xs i) := by
 unfold ki gY
 by_cases hz : xs.length = 0
 ·rw [if_pos (by rw [hz]; rfl), if_pos hz]
 ·have hn : (xs.length : Int) ≠ 0 := by omega
  rw [if_neg (by simpa using hz), if_neg hz]
  unfold CC
  rw [if_neg hn]
  simp only [zb]
  have e : i.tmod (xs.length : Int) = i % (xs.length : Int) := Int.tmod_eq_emod_of_nonneg h
  rw [e]
  have h0 := Int.emod_nonneg i hn
  have h1 := Int.emod_lt_of_pos i (show (0 : Int) < xs.length by omega)
  obtain ⟨m, hm⟩ : ∃ m : Nat, i % (xs.length : Int) = (m : Int) := ⟨(i % (xs.length : Int)).toNat, by omega⟩
  rw [hm] at h1 ⊢
  have hmx : m < xs.length := by omega
  rw [aC (zq hmx)]
  simp [List.getD, zq hmx]
def EE (xs : List Int) (k : Nat) : Bool := decide (k < xs.length) && ((xs.getD k 0).tmod 3 == 0)
def H3 (xs : List Int) (k : Nat) : Int := if EE xs k = true then 1 + xs.getD k 0 % 20000 else 1000000
theorem Xf {nl : Nat} (hnl : nl ≤ 2) (c : aw) (hc : c.ak.length = nl) (p : ByteArray) (u : Int) : ah (ef c) ab (⟨p, [], u⟩, 0) = some (⟨p, (List.replicate nl rl).map gP, u⟩, (nl : Int)) := by
 rw [sp c _ (by omega)]
 obtain ⟨ls, qs⟩ := c
 dsimp only at hc ⊢
 subst hc
 rcases ls with _ | ⟨a, _ | ⟨b, _ | ⟨d, ls⟩⟩⟩
 ·rfl
 ·rfl
 ·rfl
 ·simp only [List.length_cons] at hnl; omega
theorem QT {nl : Nat} (hnl : nl ≤ 2) (ps : List Tx) (xs : List Int) (ds : List QD) {k : Nat} (hk : k < ps.length) (hps : ps.length ≤ 7) (hds : ds.length ≤ 7) : du (ps.map bT) xs (gC nl ds, (k : Int)) = some (.inl (gC nl (ds ++ [⟨ps[k], List.replicate nl rl, H3 xs k⟩]), ((k + 1 : Nat) : Int))) := by
 have e1 : (ps.map bT)[k]? = some (bT ps[k]) := by simp [hk]
 have d1 : decide ((k : Int) < ((ps.map bT).length : Int)) = true := by simp; omega
 have hl : (gC nl ds).ak.length = nl := by show ((CF nl).map bT).length = nl; rw [List.length_map, qy hnl]
 unfold du
 dsimp only
 rw [if_pos d1, aC e1]
 simp only [zb]
 have fin : ∀ u : Int, (Option.bind (ah (ef (gC nl ds)) ab ((⟨bT ps[k], [], u⟩ : az), (0 : Int))) fun r12 => Option.bind (aU (gC nl ds).ae [r12.1]) fun b13 => some (Sum.inl ((⟨(gC nl ds).ak, b13⟩ : aw), i64.wrap ((k : Int) + 1)) : (aw × Int) ⊕ (aw × Int))) = some (.inl (gC nl (ds ++ [⟨ps[k], List.replicate nl rl, u⟩]), ((k + 1 : Nat) : Int))) := by
  intro u
  rw [Xf hnl _ hl]
  simp only [zb]
  rw [aD (by show (ds.map gQ).length + 1 ≤ _; rw [List.length_map]; omega)]
  simp only [zb, a6 (show k < 7 by omega) (show 7 ≤ 1000000 by omega)]
  unfold gC
  simp only [List.map_append, List.map_cons, List.map_nil, gQ]
 unfold H3 EE
 by_cases hN : k < xs.length
 ·have e2 : xs[k]? = some xs[k] := zq hN
  have e3 : xs.getD k 0 = xs[k] := by simp [List.getD, e2]
  have d2 : decide ((k : Int) < (xs.length : Int)) = true := by simp; omega
  simp only [d2, if_true, aC e2, zb, hN, decide_true, Bool.true_and, e3]
  by_cases ht : (xs[k].tmod 3 == 0) = true
  ·have h0 := Int.emod_nonneg xs[k] (show (20000 : Int) ≠ 0 by decide)
   have h1 := Int.emod_lt_of_pos xs[k] (show (0 : Int) < 20000 by decide)
   simp only [ht, if_true, gX xs[k] (show (0 : Int) < 20000 by decide) (by decide), zb, w64 (n := 1 + xs[k] % 20000) (by omega)]
   exact fin _
  ·simp only [ht, if_false, zb, zf]
   exact fin _
 ·have d2 : decide ((k : Int) < (xs.length : Int)) = false := by simp; omega
  simp only [d2, zf, if_false, zb, hN, decide_false, Bool.false_and]
  exact fin _
theorem Ep {α β : Type} (f : α → β) (g : α → α) (b : β) : ∀ (l : List α) (m : Nat) (h : m < l.length), b = f (g l[m]) → (l.modify m g).map f = (l.map f).set m b
 | x :: l, 0, h, e => by subst e; rfl
 | x :: l, m + 1, h, e => by
  simp only [List.modify_succ_cons, List.map_cons, List.set_cons_succ]
  rw [Ep f g b l m (by simpa using h) e]
theorem Xa {nl : Nat} {ks : List Tx} {ds : List QD} {k j : Nat} (hj : j < ks.length) (n mo : Int) (hN : ds.length ≤ 7) (hc : ∀ q ∈ ds, q.caps.length = nl) (hk : k < nl) : ah (ed (k : Int) n mo (j : Int) (ks.map bT)) ab (gC nl ds, 0) = some (gC nl (iB ks[j] k n mo ds), (ds.length : Int)) := by
 have hp : ∃ r, ah (ed (k : Int) n mo (j : Int) (ks.map bT)) ab (gC nl ds, 0) = some r ∧ r = (gC nl (iB ks[j] k n mo ds), (ds.length : Int)) := by
  refine aM (f := ed (k : Int) n mo (j : Int) (ks.map bT)) (fun st => ∃ m : Nat, m ≤ ds.length ∧ st = (gC nl (eO ks[j] k n mo ds m), (m : Int))) (fun st => ds.length - st.2.toNat) (fun r => r = (gC nl (iB ks[j] k n mo ds), (ds.length : Int))) (fun st ⟨m, hm, hst⟩ => ?_) ab (gC nl ds, 0) ⟨0, Nat.zero_le _, by rw [D0]; rfl⟩ (by show ds.length - (0 : Int).toNat < ab; unfold ab; omega)
  subst hst
  unfold ed
  dsimp only
  have hlen : (gC nl (eO ks[j] k n mo ds m)).ae.length = ds.length := by show ((eO _ _ _ _ ds m).map gQ).length = _; rw [List.length_map, gL]
  rw [hlen]
  rcases Nat.lt_or_ge m ds.length with hlt | hge
  ·left
   have d1 : decide ((m : Int) < (ds.length : Int)) = true := by simpa using hlt
   have hml : m < (eO ks[j] k n mo ds m).length := by rw [gL]; exact hlt
   have e1 : (gC nl (eO ks[j] k n mo ds m)).ae[m]? = some (gQ ds[m]) := by
    show ((eO _ _ _ _ ds m).map gQ)[m]? = _
    rw [List.getElem?_map, zq hml, AD _ _ _ _ _ _ hlt]
    rfl
   have e2 : (ks.map bT)[j]? = some (bT ks[j]) := by simp [hj]
   have e3 : (gQ ds[m]).bl[k]? = some (gP (ds[m].caps[k]'(by rw [hc _ (List.getElem_mem hlt)]; exact hk))) := by
    show (ds[m].caps.map gP)[k]? = _
    rw [List.getElem?_map, zq (by rw [hc _ (List.getElem_mem hlt)]; exact hk)]
    rfl
   rw [if_pos d1, aC e1, aC e2]
   simp only [zb, aC e3, a6 (show m < 7 by omega) (show 7 ≤ 1000000 by omega), zt]
   rw [show (gQ ds[m]).aF = bT ds[m].path from rfl, Wz]
   by_cases he : ds[m].path = ks[j]
   ·rw [if_pos (by simpa using he)]
    refine ⟨_, rfl, ⟨m + 1, hlt, ?_⟩, by simp only [zt]; omega⟩
    rw [Hr hlt he]
    congr 1
    unfold gC
    congr 1
    dsimp only
    refine (Ep gQ _ _ _ m hml ?_).symm
    rw [AD _ _ _ _ _ _ hlt]
    unfold gQ
    simp [List.map_set, gP]
   ·rw [if_neg (by simpa using he)]
    exact ⟨_, rfl, ⟨m + 1, hlt, by rw [Li hlt he]⟩, by simp only [zt]; omega⟩
  ·right
   have hm2 : m = ds.length := by omega
   subst hm2
   have d1 : decide ((ds.length : Int) < (ds.length : Int)) = false := by simp
   rw [if_neg (by rw [d1]; decide)]
   exact ⟨_, rfl, by rw [Hs]⟩
 obtain ⟨r, h1, h2⟩ := hp
 rw [h1, h2]
theorem BS {σ α τ : Type} {g g' : σ → α → Option (σ ⊕ τ)} (fin : σ → τ) : ∀ (l : List α) (a : σ), (∀ x ∈ l, ∀ a, g a x = g' a x) → bk g fin a l = bk g' fin a l
 | [], a, _ => rfl
 | x :: l, a, h => by
  simp only [bk]
  rw [h x (List.mem_cons_self ..)]
  cases g' a x with
  | none => rfl
  | some o => cases o with
   | inl a' => exact BS fin l a' (fun y hy => h y (List.mem_cons_of_mem _ hy))
   | inr r => rfl
theorem Pf (y : Nat) : ∀ x ∈ mn y, eT (bT x) = bT (above x) := by
 unfold mn
 split
 all_goals
  intro x hx
  simp only [List.mem_cons, List.not_mem_nil, or_false] at hx
  repeat (first | (subst hx; kernel_rfl) | (rcases hx with h | hx; (subst h; kernel_rfl)))
theorem YB (nl : Nat) {ds : List QD} {ps : List Tx} {y : Nat} (hy : ps = mn y) (hd : ds.map (·.path) = ps) {p : Tx} (hp : p ∈ ps) : ff (gC nl ds) (bT p) = some ((B5 p ps).map bT) := by
 have hlen : ds.length ≤ 7 := by
  have h1 := congrArg List.length hd
  have h2 := K7 y
  rw [hy, List.length_map] at h1
  omega
 have hsz : ∀ q ∈ (gC nl ds).ae, q.aF.size ≤ 1000000 := fun q hq => by
  obtain ⟨d, hd2, rfl⟩ := List.mem_map.1 hq
  have h1 : d.path ∈ ps := by rw [← hd]; exact List.mem_map_of_mem hd2
  rw [hy] at h1
  have h2 := K6 y _ h1
  show (bT d.path).size ≤ _
  have : (bT d.path).size = d.path.length := by simp [bT, ByteArray.size]
  omega
 unfold ff
 dsimp only
 rw [jp (gC nl ds) (bT p) [] (by show (ds.map gQ).length ≤ _; rw [List.length_map]; omega)]
 rw [BS (g' := fun acc x => if (!((bT p).toList == (⟨#[]⟩ : ByteArray).toList) && ((eT x.aF).toList == (bT p).toList)) = true then (aU acc [x.aF]).map (fun a => (.inl a : List ByteArray ⊕ (List ByteArray × Int))) else some (.inl acc)) _ _ _ (fun x hx acc => by
  unfold cA
  simp only [(rV (hsz x hx)).1, zb, dH]
  split
  ·cases aU acc [x.aF] <;> rfl
  ·rfl)]
 rw [cr (fun x : az => !((bT p).toList == (⟨#[]⟩ : ByteArray).toList) && ((eT x.aF).toList == (bT p).toList)) az.aF _ _ [] (by show 0 + (ds.map gQ).length ≤ _; rw [List.length_map]; omega)]
 simp only [zb, List.nil_append]
 congr 1
 have e1 : ((gC nl ds).ae.filter fun x : az => !((bT p).toList == (⟨#[]⟩ : ByteArray).toList) && ((eT x.aF).toList == (bT p).toList)).map az.aF = (ps.filter fun x => !((bT p).toList == (bT []).toList) && ((eT (bT x)).toList == (bT p).toList)).map bT := by
  rw [← hd]
  show ((ds.map gQ).filter _).map _ = _
  rw [List.filter_map, List.filter_map, List.map_map, List.map_map]
  rfl
 rw [e1]
 congr 1
 unfold B5
 refine List.filter_congr fun x hx => ?_
 rw [hy] at hx
 rw [Pf y x hx, Wz, Wz]
 simp
theorem oz {α β : Type} {o : Option α} {f : α → Option β} {r : α} {x : Option β} (h1 : o = some r) (h2 : f r = x) : Option.bind o f = x := by subst h1; exact h2
def nV (xs : List Int) (i jj kk nk : Nat) (L : Int) : Int := if jj + 1 < nk then [0, L / 2, L, gY xs ((i : Int) + jj + kk) % (L + 1)].getD (gY xs ((i : Int) * jj + kk) % 4).toNat 0 else L
def mV (xs : List Int) (i jj kk : Nat) (n : Int) : Int := [10000, n, n + gY xs ((jj : Int) + kk) % (10000 - n + 1)].getD (gY xs ((i : Int) + 2 * jj) % 3).toNat 0
theorem H0 (l : List Int) (a : Int) (hl : 0 < l.length) : av l (a % (l.length : Int)) = some (l.getD (a % (l.length : Int)).toNat 0) := by
 have h0 := Int.emod_nonneg a (show (l.length : Int) ≠ 0 by omega)
 have h1 := Int.emod_lt_of_pos a (show (0 : Int) < l.length by omega)
 obtain ⟨m, hm⟩ : ∃ m : Nat, a % (l.length : Int) = (m : Int) := ⟨(a % (l.length : Int)).toNat, by omega⟩
 rw [hm] at h1 ⊢
 have hmx : m < l.length := by omega
 rw [aC (zq hmx)]
 simp [List.getD, zq hmx]
theorem ZR (xs : List Int) (i jj kk nk : Nat) {L : Int} (h0 : 0 ≤ L) : 0 ≤ nV xs i jj kk nk L ∧ nV xs i jj kk nk L ≤ L := by
 unfold nV
 split
 ·have a0 := Int.emod_nonneg (gY xs ((i : Int) * jj + kk)) (show (4 : Int) ≠ 0 by decide)
  have a1 := Int.emod_lt_of_pos (gY xs ((i : Int) * jj + kk)) (show (0 : Int) < 4 by decide)
  have b0 := Int.emod_nonneg (gY xs ((i : Int) + jj + kk)) (show (L + 1) ≠ 0 by omega)
  have b1 := Int.emod_lt_of_pos (gY xs ((i : Int) + jj + kk)) (show (0 : Int) < L + 1 by omega)
  generalize gY xs ((i : Int) + jj + kk) % (L + 1) = b at b0 b1
  obtain ⟨m, hm⟩ : ∃ m : Nat, (gY xs ((i : Int) * jj + kk) % 4) = (m : Int) := ⟨(gY xs ((i : Int) * jj + kk) % 4).toNat, by omega⟩
  rw [hm] at a1 ⊢
  rcases m with _ | _ | _ | _ | m
  ·exact ⟨Int.le_refl _, h0⟩
  ·show 0 ≤ L / 2 ∧ L / 2 ≤ L; omega
  ·exact ⟨h0, Int.le_refl _⟩
  ·show 0 ≤ b ∧ b ≤ L; omega
  ·omega
 ·exact ⟨h0, Int.le_refl _⟩
theorem QS {nl : Nat} {ks : List Tx} {ds : List QD} {xs : List Int} {i jj kk : Nat} {L : Int} (hj : jj < ks.length) (hks : ks.length ≤ 7) (hi : i ≤ 7) (hnl : nl ≤ 2) (hkk : kk < nl) (h0 : 0 ≤ L) (h1 : L ≤ 10000) (hN : ds.length ≤ 7) (hc : ∀ q ∈ ds, q.caps.length = nl) :
  cU (ks.map bT) xs (i : Int) (kk : Int) (L, gC nl ds, (jj : Int)) = some (.inl (L - nV xs i jj kk ks.length L, gC nl (iB ks[jj] kk (nV xs i jj kk ks.length L) (mV xs i jj kk (nV xs i jj kk ks.length L)) ds), ((jj + 1 : Nat) : Int))) := by
 have hij : (i : Int) * (jj : Int) ≤ 100 := by
  have : i * jj ≤ 7 * 7 := Nat.mul_le_mul hi (by omega)
  have h2 : ((i * jj : Nat) : Int) ≤ 49 := by omega
  rw [Int.natCast_mul] at h2
  omega
 have hij0 : 0 ≤ (i : Int) * (jj : Int) := Int.mul_nonneg (by omega) (by omega)
 have hn := ZR xs i jj kk ks.length h0
 have d1 : decide ((jj : Int) < ((ks.map bT).length : Int)) = true := by simp; omega
 unfold cU
 dsimp only
 rw [if_pos d1]
 refine oz (r := nV xs i jj kk ks.length L) ?_ ?_
 ·unfold nV
  by_cases hl : jj + 1 < ks.length
  ·have d2 : decide ((jj : Int) < i64.wrap (((ks.map bT).length : Int) - 1)) = true := by
    rw [List.length_map, w64 (by omega)]
    simp; omega
   have h2d : L.tdiv 2 = L / 2 := Int.tdiv_eq_ediv_of_nonneg h0
   rw [if_pos d2, if_pos hl, h2d, w64 (n := (i : Int) + jj) (by omega), w64 (n := (i : Int) + jj + kk) (by omega), w64 (n := L + 1) (by omega), w64 (n := (i : Int) * jj) (by omega), w64 (n := (i : Int) * jj + kk) (by omega), w64 (n := L / 2) (by omega)]
   refine oz (tu xs (by omega)) (oz (gX _ (by omega) (by omega)) (oz (tu xs (by omega)) (oz (gX _ (by omega) (by omega)) (oz ?_ rfl))))
   exact H0 [0, L / 2, L, _] _ (by simp)
  ·have d2 : decide ((jj : Int) < i64.wrap (((ks.map bT).length : Int) - 1)) = false := by
    rw [List.length_map, w64 (by omega)]
    simp; omega
   rw [if_neg (by rw [d2]; decide), if_neg hl]
 ·generalize nV xs i jj kk ks.length L = n at hn
  rw [w64 (n := L - n) (by omega), w64 (n := (jj : Int) + kk) (by omega), w64 (n := 10000 - n) (by omega), w64 (n := 10000 - n + 1) (by omega), w64 (n := 2 * (jj : Int)) (by omega), w64 (n := (i : Int) + 2 * jj) (by omega)]
  have b0 := Int.emod_nonneg (gY xs ((jj : Int) + kk)) (show (10000 - n + 1) ≠ 0 by omega)
  have b1 := Int.emod_lt_of_pos (gY xs ((jj : Int) + kk)) (show (0 : Int) < 10000 - n + 1 by omega)
  refine oz (tu xs (by omega)) (oz (gX _ (by omega) (by omega)) (oz (tu xs (by omega)) (oz (gX _ (by omega) (by omega)) (oz (r := mV xs i jj kk n) ?_ ?_))))
  ·rw [w64 (n := n + gY xs ((jj : Int) + kk) % (10000 - n + 1)) (by omega)]
   exact H0 [10000, n, _] _ (by simp)
  ·refine oz (Xa hj n (mV xs i jj kk n) hN hc hkk) ?_
   rw [a6 (show jj < 7 by omega) (show 7 ≤ 1000000 by omega)]
theorem LL {σ τ : Type} {f : σ → Option (σ ⊕ τ)} {s s' : σ} {n : Nat} (h : f s = some (.inl s')) : ah f (n + 1) s = ah f n s' := by simp only [ah, h]
theorem vr {σ τ : Type} {f : σ → Option (σ ⊕ τ)} {s : σ} {r : τ} {n : Nat} (h : f s = some (.inr r)) : ah f (n + 1) s = some r := by simp only [ah, h]
def E1 (sh : Int) (xs : List Int) (nl : Nat) (ps : List Tx) (k : Nat) (ds : List QD) : Prop := ∃ n, n + k = ab ∧ fO sh xs = Option.bind (ah (du (ps.map bT) xs) n (gC nl ds, (k : Int))) fun r => Option.bind (ah (cP (ps.map bT) xs) ab (r.1, 0)) fun r => some r.1
def E3 (sh : Int) (xs : List Int) (nl : Nat) (ps : List Tx) (i : Nat) (ds : List QD) : Prop := ∃ n, n + i = ab ∧ fO sh xs = Option.bind (ah (cP (ps.map bT) xs) n (gC nl ds, (i : Int))) fun r => some r.1
def E4 (sh : Int) (xs : List Int) (nl : Nat) (ps : List Tx) (i : Nat) (ks : List Tx) (kk : Nat) (ds : List QD) : Prop := ∃ n3, n3 + (i + 1) = ab ∧ ∃ n, n + kk = ab ∧ fO sh xs = Option.bind (Option.bind (ah (dr xs (i : Int) (ks.map bT)) n (gC nl ds, (kk : Int))) fun r => ah (cP (ps.map bT) xs) n3 (r.1, ((i + 1 : Nat) : Int))) fun r => some r.1
def E5 (sh : Int) (xs : List Int) (nl : Nat) (ps : List Tx) (i : Nat) (ks : List Tx) (kk jj : Nat) (L : Int) (ds : List QD) : Prop := ∃ n3, n3 + (i + 1) = ab ∧ ∃ n4, n4 + (kk + 1) = ab ∧ ∃ n, n + jj = ab ∧ fO sh xs = Option.bind (Option.bind (Option.bind (ah (cU (ks.map bT) xs (i : Int) (kk : Int)) n (L, gC nl ds, (jj : Int))) fun r => ah (dr xs (i : Int) (ks.map bT)) n4 (r.2.1, ((kk + 1 : Nat) : Int))) fun r => ah (cP (ps.map bT) xs) n3 (r.1, ((i + 1 : Nat) : Int))) fun r => some r.1
section
variable {sh : Int} {xs : List Int} {nl : Nat} {ps : List Tx} {ds : List QD}
theorem E1.step {k : Nat} (h : E1 sh xs nl ps k ds) (hnl : nl ≤ 2) (hk : k < ps.length) (hps : ps.length ≤ 7) (hds : ds.length ≤ 7) : E1 sh xs nl ps (k + 1) (ds ++ [⟨ps[k], List.replicate nl rl, H3 xs k⟩]) := by
 obtain ⟨n, h1, h2⟩ := h
 obtain ⟨n, rfl⟩ : ∃ m, n = m + 1 := ⟨n - 1, by unfold ab at h1; omega⟩
 rw [LL (QT hnl ps xs ds hk hps hds)] at h2
 exact ⟨n, by omega, h2⟩
theorem E1.end (h : E1 sh xs nl ps ps.length ds) (hps : ps.length ≤ 7) : E3 sh xs nl ps 0 ds := by
 obtain ⟨n, h1, h2⟩ := h
 obtain ⟨n, rfl⟩ : ∃ m, n = m + 1 := ⟨n - 1, by unfold ab at h1; omega⟩
 rw [vr (r := (gC nl ds, (ps.length : Int))) (by unfold du; simp)] at h2
 exact ⟨ab, rfl, h2⟩
theorem E3.open {i : Nat} (h : E3 sh xs nl ps i ds) (hi : i < ps.length) (hps : ps.length ≤ 7) {y : Nat} (hy : ps = mn y) (hd : ds.map (·.path) = ps) : E4 sh xs nl ps i (B5 ps[i] ps) 0 ds := by
 obtain ⟨n, h1, h2⟩ := h
 obtain ⟨n, rfl⟩ : ∃ m, n = m + 1 := ⟨n - 1, by unfold ab at h1; omega⟩
 refine ⟨n, by omega, ab, rfl, h2.trans ?_⟩
 have e1 : (ps.map bT)[i]? = some (bT ps[i]) := by simp [hi]
 have d1 : decide ((i : Int) < ((ps.map bT).length : Int)) = true := by simp; omega
 congr 1
 rw [ah]
 unfold cP
 dsimp only
 rw [if_pos d1, aC e1]
 simp only [zb, YB nl hy hd (List.getElem_mem hi), a6 (show i < 7 by omega) (show 7 ≤ 1000000 by omega)]
 cases ah (dr xs (i : Int) ((B5 ps[i] ps).map bT)) ab (gC nl ds, 0) <;> rfl
theorem E4.open {i kk : Nat} {ks : List Tx} (h : E4 sh xs nl ps i ks kk ds) (hk : kk < nl) (hnl : nl ≤ 2) : E5 sh xs nl ps i ks kk 0 10000 ds := by
 obtain ⟨n3, h3, n, h1, h2⟩ := h
 obtain ⟨n, rfl⟩ : ∃ m, n = m + 1 := ⟨n - 1, by unfold ab at h1; omega⟩
 refine ⟨n3, h3, n, by omega, ab, rfl, h2.trans ?_⟩
 have hl : (gC nl ds).ak.length = nl := by show ((CF nl).map bT).length = nl; rw [List.length_map, qy hnl]
 have d1 : decide ((kk : Int) < ((gC nl ds).ak.length : Int)) = true := by rw [hl]; simpa using hk
 congr 1
 congr 1
 rw [ah]
 unfold dr
 dsimp only
 rw [if_pos d1]
 simp only [a6 (show kk < 7 by omega) (show 7 ≤ 1000000 by omega)]
 cases ah (cU (ks.map bT) xs (i : Int) (kk : Int)) ab (10000, gC nl ds, 0) <;> rfl
theorem E5.step {i kk jj : Nat} {ks : List Tx} {L : Int} (h : E5 sh xs nl ps i ks kk jj L ds) (hj : jj < ks.length) (hks : ks.length ≤ 7) (hi : i ≤ 7) (hnl : nl ≤ 2) (hkk : kk < nl) (h0 : 0 ≤ L) (hL : L ≤ 10000) (hN : ds.length ≤ 7) (hc : ∀ q ∈ ds, q.caps.length = nl) :
  E5 sh xs nl ps i ks kk (jj + 1) (L - nV xs i jj kk ks.length L) (iB ks[jj] kk (nV xs i jj kk ks.length L) (mV xs i jj kk (nV xs i jj kk ks.length L)) ds) := by
 obtain ⟨n3, h3, n4, h4, n, h1, h2⟩ := h
 obtain ⟨n, rfl⟩ : ∃ m, n = m + 1 := ⟨n - 1, by unfold ab at h1; omega⟩
 rw [LL (QS hj hks hi hnl hkk h0 hL hN hc)] at h2
 exact ⟨n3, h3, n4, h4, n, by omega, h2⟩
theorem E5.end {i kk : Nat} {ks : List Tx} {L : Int} (h : E5 sh xs nl ps i ks kk ks.length L ds) (hks : ks.length ≤ 7) : E4 sh xs nl ps i ks (kk + 1) ds := by
 obtain ⟨n3, h3, n4, h4, n, h1, h2⟩ := h
 obtain ⟨n, rfl⟩ : ∃ m, n = m + 1 := ⟨n - 1, by unfold ab at h1; omega⟩
 rw [vr (r := (L, gC nl ds, (ks.length : Int))) (by unfold cU; simp)] at h2
 exact ⟨n3, h3, n4, h4, h2⟩
theorem E4.end {i : Nat} {ks : List Tx} (h : E4 sh xs nl ps i ks nl ds) (hnl : nl ≤ 2) : E3 sh xs nl ps (i + 1) ds := by
 obtain ⟨n3, h3, n, h1, h2⟩ := h
 obtain ⟨n, rfl⟩ : ∃ m, n = m + 1 := ⟨n - 1, by unfold ab at h1; omega⟩
 have hl : (gC nl ds).ak.length = nl := by show ((CF nl).map bT).length = nl; rw [List.length_map, qy hnl]
 rw [vr (r := (gC nl ds, (nl : Int))) (by unfold dr; simp [hl])] at h2
 exact ⟨n3, h3, h2⟩
theorem E3.end (h : E3 sh xs nl ps ps.length ds) (hps : ps.length ≤ 7) : fO sh xs = some (gC nl ds) := by
 obtain ⟨n, h1, h2⟩ := h
 obtain ⟨n, rfl⟩ : ∃ m, n = m + 1 := ⟨n - 1, by unfold ab at h1; omega⟩
 rw [vr (r := (gC nl ds, (ps.length : Int))) (by unfold cP; simp)] at h2
 exact h2
end
theorem E1.start (sh : Int) (xs : List Int) {nl y : Nat} (hnl : (nl : Int) = 1 + i64.wrap (sh.tdiv 5) % 2) (hy : (y : Int) = sh % 5) : E1 sh xs nl (mn y) 0 [] := by
 refine ⟨ab, rfl, ?_⟩
 have h0 := Int.emod_nonneg (i64.wrap (sh.tdiv 5)) (show (2 : Int) ≠ 0 by decide)
 have h1 := Int.emod_lt_of_pos (i64.wrap (sh.tdiv 5)) (show (0 : Int) < 2 by decide)
 have y0 := Int.emod_nonneg sh (show (5 : Int) ≠ 0 by decide)
 have y1 := Int.emod_lt_of_pos sh (show (0 : Int) < 5 by decide)
 unfold fO
 dsimp only
 refine oz (gX _ (by decide) (by decide)) ?_
 rw [w64 (n := 1 + i64.wrap (sh.tdiv 5) % 2) (by omega), ← hnl]
 refine oz (nZ (by simp; omega)) (oz (gX _ (by decide) (by decide)) ?_)
 rw [← hy]
 have hy5 : y < 5 := by omega
 refine oz (r := (mn y).map bT) ?_ ?_
 ·rcases y with _ | _ | _ | _ | _ | y
  all_goals first | rfl | omega
 ·have e : (⟨List.take nl [(⟨#[]⟩ : ByteArray), ⟨#[103, 112, 117]⟩], []⟩ : aw) = gC nl [] := by
   unfold gC CF
   rw [List.map_take]
   rfl
  rw [e]
  rfl
end
theorem df {w : World} {b : Nat} {cs : Array Value} {t : TypeId} (h : w.heap[b]? = some (.cells cs t (0, 0))) (j : Nat) (v : Value) (hv : cs[j]? = some v) : w.cell? ⟨b, j, none⟩ = some v := by
 rw [cell_of_row w b j cs t (0, 0) h, hv]
theorem rS {w : World} {b : Nat} {cs : Array Value} {t : TypeId} (h : w.heap[b]? = some (.cells cs t (0, 0))) (j : Nat) : w.frozen? ⟨b, j, none⟩ = false := by
 simp [World.frozen?, h]
noncomputable def rF (w : World) : World := ((((((((w.alloc (Obj.cells #[Value.slice none 0 0, Value.slice none 0 0] 36)).alloc (Obj.cells #[Value.string { data := #[114, 111, 111, 116] }] 9)).alloc (Obj.cells #[Value.string { data := #[114, 111, 111, 116] }, Value.string { data := #[114, 111, 111, 116, 46, 97] }, Value.string { data := #[114, 111, 111, 116, 46, 98] }] 9)).alloc (Obj.cells #[Value.string { data := #[114, 111, 111, 116] }, Value.string { data := #[114, 111, 111, 116, 46, 97] }, Value.string { data := #[114, 111, 111, 116, 46, 97, 46, 120] }, Value.string { data := #[114, 111, 111, 116, 46, 97, 46, 121] }, Value.string { data := #[114, 111, 111, 116, 46, 98] }] 9)).alloc (Obj.cells #[Value.string { data := #[114, 111, 111, 116] }, Value.string { data := #[114, 111, 111, 116, 46, 97] }, Value.string { data := #[114, 111, 111, 116, 46, 98] }, Value.string { data := #[114, 111, 111, 116, 46, 98, 46, 120] }, Value.string { data := #[114, 111, 111, 116, 46, 98, 46, 120, 46, 112] }, Value.string { data := #[114, 111, 111, 116, 46, 98, 46, 120, 46, 113] }, Value.string { data := #[114, 111, 111, 116, 46, 99] }] 9)).alloc (Obj.cells #[Value.string { data := #[114, 111, 111, 116] }, Value.string { data := #[114, 111, 111, 116, 46, 97] }] 9)).alloc (Obj.cells #[Value.slice (some { block := w.heap.size + 1, off := 0 }) 1 1, Value.slice (some { block := w.heap.size + 1 + 1, off := 0 }) 3 3, Value.slice (some { block := w.heap.size + 1 + 1 + 1, off := 0 }) 5 5, Value.slice (some { block := w.heap.size + 1 + 1 + 1 + 1, off := 0 }) 7 7, Value.slice (some { block := w.heap.size + 1 + 1 + 1 + 1 + 1, off := 0 }) 2 2] 33)).alloc (Obj.cells #[Value.string { data := #[] }, Value.string { data := #[103, 112, 117] }] 9))
theorem S5 (w : World) : Ext w (rF w) := (((((((aO w _).trans (aO _ _)).trans (aO _ _)).trans (aO _ _)).trans (aO _ _)).trans (aO _ _)).trans (aO _ _)).trans (aO _ _)
theorem OO (w : World) : (rF w).heap.size = w.heap.size + 8 := by simp [rF]
theorem S4 (w : World) : (rF w).heap[w.heap.size]? = some (.cells #[.slice none 0 0, .slice none 0 0] 36 (0, 0)) := by
 have h := heap_alloc_new w (.cells #[.slice none 0 0, .slice none 0 0] 36 (0, 0))
 have x : Ext (w.alloc (.cells #[.slice none 0 0, .slice none 0 0] 36 (0, 0))) (rF w) := ((((((aO _ _).trans (aO _ _)).trans (aO _ _)).trans (aO _ _)).trans (aO _ _)).trans (aO _ _)).trans (aO _ _)
 exact (x.block _ (Array.getElem?_eq_some_iff.1 h).1).trans h
theorem OQ (w : World) : (rF w).heap[w.heap.size + 1 + 1 + 1 + 1 + 1 + 1 + 1]? = some (.cells #[.string ⟨#[]⟩, .string ⟨#[103, 112, 117]⟩] 9 (0, 0)) := by
 have e : ∀ (W1 : World) (o : Obj) (n : Nat), W1.heap.size = n → (W1.alloc o).heap[n]? = some o := by intro W1 o n h; subst h; exact heap_alloc_new W1 o
 unfold rF
 exact e _ _ _ (by simp)
theorem ON (w : World) (y : Nat) (hy : y < 5) : (rF w).cell? ⟨w.heap.size + 1 + 1 + 1 + 1 + 1 + 1, y, none⟩ = some (.slice (some ⟨w.heap.size + 1 + y, 0, none⟩) (mn y).length (mn y).length) := by
 unfold rF
 rcases y with _ | _ | _ | _ | _ | y
 all_goals first | omega | (simp [go_sem, mn, Nat.add_assoc])
theorem OP (w : World) (y : Nat) (hy : y < 5) (i : Nat) (hi : i < (mn y).length) : (rF w).cell? ⟨w.heap.size + 1 + y, i, none⟩ = some (.string ⟨((mn y)[i]).toArray⟩) := by
 unfold rF
 rcases y with _ | _ | _ | _ | _ | y
 all_goals first | omega | skip
 all_goals (rcases i with _ | _ | _ | _ | _ | _ | _ | i)
 all_goals first | (exfalso; simp [mn] at hi; done) | (exfalso; simp [mn] at hi; omega) | (simp [go_sem, mn, Nat.add_assoc])
theorem yr (v : Value) (xs : List Int) (i : Int) (w : World) (r0 : Rd w v (xs.map (Value.int .i64))) (hn : xs.length ≤ 9223372036854775807) (h0 : 0 ≤ i) (h1 : i ≤ 1000000) :
  Calls prog 56 #[v, .int .i64 i] w fun e w' => (∃ a : Int, e = .returned (.int .i64 a) ∧ a = gY xs i) ∧ w = w' := by
 obtain ⟨A, N, c, rfl, hN, hc1, hc2, hcell⟩ := HU r0
 have HC := Lib.hid hcell
 have HN := Lib.hid hN
 have hN1 : N ≤ 9223372036854775807 := by omega
 clear hcell hN r0
 by_cases hz : N = 0
 ·subst hz
  have hp : gY xs i = i := by unfold gY; rw [if_pos (by have := HN.out; omega)]
  rw [hp]
  clear hp
  go_enter Tryz.func56, Tryz.ntmps56
  go_wp2
  go_ret
  exact ⟨⟨_, rfl, rfl⟩, rfl⟩
 ·have q0 : ((N : Int) == 0) = false := by simp; omega
  obtain ⟨m, hm⟩ : ∃ m : Nat, i % (N : Int) = (m : Int) := ⟨(i % (N : Int)).toNat, by have := Int.emod_nonneg i (show (N : Int) ≠ 0 by omega); omega⟩
  have hmN : m < N := by have := Int.emod_lt_of_pos i (show (0 : Int) < N by omega); omega
  obtain ⟨a, rfl, hb, hcs⟩ := HC.out (by omega)
  have h3 := hcs m (by have := HN.out; omega)
  have n1 : (1 : Int) ≤ (N : Int) := by omega
  have m0 : (0 : Int) ≤ (m : Int) := by omega
  have m1 : (m : Int) < (N : Int) := by omega
  have hp : gY xs i = xs[m]'(by have := HN.out; omega) := by
   unfold gY
   rw [if_neg (by have := HN.out; omega), show (xs.length : Int) = (N : Int) by have := HN.out; omega, hm]
   simp [List.getD, zq (show m < xs.length by have := HN.out; omega)]
  generalize xs[m]'(by have := HN.out; omega) = x at h3 hp
  rw [hp]
  clear hp
  clear hcs
  go_enter Tryz.func56, Tryz.ntmps56
  go_wp2
  go_ret
  exact ⟨⟨_, rfl, rfl⟩, rfl⟩
section
section
variable {P : Program} {ops : Array Oper} {Q : Exit → Act → World → Prop} {md : Region.Mode} {L : World → World → Prop}
def fK (P : Program) (ops : Array Oper) (L : World → World → Prop) (W : World) (o : Oper) (v : Value) (a : Act) : Prop :=
 (Region.wanted o (yielded ops a.tmps) = true ∧ ∀ w, L W w → OkX P v w ((execOp a.eval o).run P w)) ∨
 (Region.wanted o (yielded ops a.tmps) = false ∧ v = undef)
structure Way (L : World → World → Prop) : Prop where
 ext : ∀ {a b}, Ext a b → L a b
 trans : ∀ {a b c}, L a b → L b c → L a c
theorem fK.of_same {W : World} {o : Oper} {v : Value} {a a' : Act} (hy : fK P ops L W o v a) (he : execOp a'.eval o = execOp a.eval o)
  (hw : Region.wanted o (yielded ops a'.tmps) = Region.wanted o (yielded ops a.tmps)) : fK P ops L W o v a' := by
 unfold fK at *
 rw [he, hw]
 exact hy
theorem fK.later (hL : Way L) {W W' : World} {o : Oper} {v : Value} {a : Act} (hy : fK P ops L W o v a) (h : L W W') : fK P ops L W' o v a :=
 hy.imp (fun ⟨hw, hv⟩ => ⟨hw, fun w k => hv w (hL.trans h k)⟩) id
theorem fK.wpOp {W w : World} {i : Nat} {o : Oper} {v : Value} {a : Act} (hi : ops[i]? = some o) (hy : fK P ops L W o v a) (hW : L W w)
  {K : Act → World → Prop} (h : ∀ w', Ext w w' → K (a.put o.dst v) w') : wpOp P ops Q i K a w := by
 unfold Go.wpOp
 simp only [hi]
 rcases hy with ⟨hw, hv⟩ | ⟨hw, rfl⟩
 ·simp only [hw, if_true]
  refine .inl ?_
  unfold Oper.wp
  have := hv w hW
  generalize (execOp a.eval o).run P w = r at *
  cases r with
  | ok n w' =>
   cases n <;> simp only [OkX] at this <;> simp only [Oper.upon]
   case value u => rw [this.1]; exact h _ this.2
   case enter f args =>
    refine Calls.mono this.2 fun e w'' he => ?_
    rw [he.1]
    exact h _ (this.1.trans he.2)
  | halt x w' => simp only [OkX] at this
 ·simp only [hw, zf, if_false]; exact h _ (Ext.refl _)
theorem Sf {j : Nat} {W : World} {oi oj : Oper} {v : Value} (hj : ops[j]? = some oj) (hap : oi.apart ops oj = true)
  (hsi : ∀ cs b, oi.op ≠ .select cs b) (hsj : ∀ cs b, oj.op ≠ .select cs b)
  (hQ : ∀ c a w, Q (.panic c) (a.put oi.dst v) w → Q (.panic c) a w) {K : Act → World → Prop} {a : Act} {w : World}
  (hy : fK P ops L W oi v a) (h : wpOp P ops Q j K (a.put oi.dst v) w) :
  wpOp P ops Q j (fun a' w' => fK P ops L W oi v a' ∧ K (a'.put oi.dst v) w') a w := by
 obtain ⟨h1, h2, h3⟩ := Oper.apart_spec hap
 have keep : ∀ (a : Act), fK P ops L W oi v a → ∀ u, fK P ops L W oi v (a.put oj.dst u) := fun a hy u =>
  hy.of_same (execOp_put oi hsi a oj.dst u h3) (wanted_put oi a oj.dst u h3)
 have keepD : ∀ d, fK P ops L W oi v { a with defers := d :: a.defers } := fun d => hy.of_same rfl rfl
 unfold Go.wpOp at *
 simp only [hj] at *
 rw [wanted_put oj a oi.dst v h1] at h
 split
 ·rename_i hw
  simp only [hw, if_true] at h
  rcases h with h | ⟨hasks, hlets⟩
  case inr => exact .inr ⟨by unfold Oper.asks at *; rw [execOp_put oj hsj a oi.dst v h1] at hasks; exact hasks, hlets⟩
  refine .inl ?_
  unfold Oper.wp at *
  rw [execOp_put oj hsj a oi.dst v h1] at h
  generalize (execOp a.eval oj).run P w = r at *
  cases r with
  | ok n w' =>
   cases n <;> simp only [Oper.upon] at h ⊢
   case value u => exact ⟨keep a hy u, by rw [← Act.put_comm a v u h2]; exact h⟩
   case skip => exact ⟨keep a hy _, by rw [← Act.put_comm a v undef h2]; exact h⟩
   case defer d =>
    refine ⟨keep _ (keepD d) _, ?_⟩
    rw [← Act.put_comm _ v undef h2, ← Act.put_defers]
    exact h
   case enter f args =>
    refine Calls.mono h fun e w'' he => ?_
    cases e with
    | returned u => exact ⟨keep a hy u, by rw [← Act.put_comm a v u h2]; exact he⟩
    | panicked c => exact hQ _ _ _ he
    | outgrown => exact he
   case row row args => exact Rows.mono h fun u w'' he => ⟨keep a hy u, by rw [← Act.put_comm a v u h2]; exact he⟩
  | halt x w' =>
   cases x <;> simp only [Oper.upon] at h ⊢
   case panic u => exact hQ _ _ _ h
 ·rename_i hw
  simp only [hw] at h
  exact ⟨keep a hy _, by rw [← Act.put_comm a v undef h2]; exact h⟩
def wpW (P : Program) (md : Region.Mode) (ops : Array Oper) (Q : Exit → Act → World → Prop) (L : World → World → Prop) : Nat → Array Bool → Act → World → Prop
 | 0, listed, a, w => Region.ready md ops listed = [] ∧ ∀ w1, Ext w w1 → Q .normal a w1
 | f + 1, listed, a, w => (Region.ready md ops listed = [] → ∀ w1, Ext w w1 → Q .normal a w1) ∧ ∀ w1, Ext w w1 →
     ∀ i ∈ Region.ready md ops listed, wpOp P ops Q i (fun a' w' => L w1 w' ∧ wpW P md ops Q L f (listed.setIfInBounds i true) a' w') a w1
theorem wpW.later : ∀ {f : Nat} {listed : Array Bool} {a : Act} {w w' : World}, wpW P md ops Q L f listed a w → Ext w w' → wpW P md ops Q L f listed a w'
 | 0, _, _, _, _, h, k => ⟨h.1, fun w1 k1 => h.2 w1 (k.trans k1)⟩
 | _ + 1, _, _, _, _, h, k => ⟨fun h0 w1 k1 => h.1 h0 w1 (k.trans k1), fun w1 k1 => h.2 w1 (k.trans k1)⟩
theorem xZ : ∀ (f : Nat) (listed : Array Bool) (a : Act) (w : World), wpW P md ops Q L f listed a w → wpAny P md ops Q f listed a w
 | 0, _, _, _, h => ⟨h.1, h.2 _ (Ext.refl _)⟩
 | f + 1, _, _, _, h => ⟨fun h0 => h.1 h0 _ (Ext.refl _), fun i hi => wpOp_mono (fun a' w' h' => xZ f _ a' w' h'.2) (h.2 _ (Ext.refl _) i hi)⟩
theorem Se (hL : Way L) {i : Nat} {oi : Oper} {v : Value} (hi : ops[i]? = some oi) (hsel : ∀ (j : Nat) (o : Oper) cs b, ops[j]? = some o → o.op ≠ .select cs b)
  (hQ : ∀ c a w, Q (.panic c) (a.put oi.dst v) w → Q (.panic c) a w) :
  ∀ (f : Nat) (listed : Array Bool) (a : Act) (w : World),
   (∀ j oj, ops[j]? = some oj → j ≠ i → listed.getD j true = false → (∀ e ∈ oj.after, Region.binds md e = true → e.on ≠ i) → oi.apart ops oj = true) →
   i ∈ Region.ready md ops listed → fK P ops L w oi v a →
   wpW P md ops Q L f (listed.setIfInBounds i true) (a.put oi.dst v) w → wpW P md ops Q L (f + 1) listed a w := by
 intro f
 induction f with
 | zero =>
  intro listed a w _ hr hy H
  refine ⟨fun h => (by rw [h] at hr; cases hr), fun w1 k1 j hj => ?_⟩
  by_cases hji : j = i
  ·subst hji; exact hy.wpOp hi (hL.ext k1) fun w' k' => ⟨hL.ext k', wpW.later H (k1.trans k')⟩
  ·have := ready_mono hj hji
   rw [H.1] at this
   cases this
 | succ f ih =>
  intro listed a w hfree hr hy H
  have hun := (mem_ready.1 hr).1
  refine ⟨fun h => (by rw [h] at hr; cases hr), fun w1 k1 j hj => ?_⟩
  by_cases hji : j = i
  ·subst hji; exact hy.wpOp hi (hL.ext k1) fun w' k' => ⟨hL.ext k', wpW.later H (k1.trans k')⟩
  ·have h1 := H.2 w1 k1 j (ready_mono hj hji)
   obtain ⟨hjun, oj, hoj, hall⟩ := mem_ready.1 hj
   have hnot : ∀ e ∈ oj.after, Region.binds md e = true → e.on ≠ i := fun e he hb heq => by
    have h1 := hall e he hb
    rw [heq, getD_both hun] at h1
    cases h1
   have hfree' : ∀ k ok, ops[k]? = some ok → k ≠ i → (listed.setIfInBounds j true).getD k true = false →
     (∀ e ∈ ok.after, Region.binds md e = true → e.on ≠ i) → oi.apart ops ok = true := fun k ok hk hki hun hno => by
    refine hfree k ok hk hki ?_ hno
    by_cases hjk : j = k
    ·subst hjk; exact hjun
    ·rw [getD_set_ne true hjk] at hun; exact hun
   have h2 := Sf hoj (hfree j oj hoj hji hjun hnot) (fun cs b => hsel i oi cs b hi) (fun cs b => hsel j oj cs b hoj) hQ hy h1
   refine wpOp_mono (fun a' w' h3 => ⟨h3.2.1, ih (listed.setIfInBounds j true) a' w' hfree' (ready_mono hr (Ne.symm hji)) (h3.1.later hL (hL.trans (hL.ext k1) h3.2.1)) ?_⟩) h2
   rw [Array.setIfInBounds_comm _ _ hji]
   exact h3.2.2
def w8 (md : Region.Mode) (ops : Array Oper) : List (Nat × Bool) → Array Bool → Bool
 | [], listed => (Region.ready md ops listed).isEmpty
 | (i, true) :: s, listed => (Region.ready md ops listed).contains i && Region.free md ops listed i && w8 md ops s (listed.setIfInBounds i true)
 | (i, false) :: s, listed => (Region.ready md ops listed == [i]) && w8 md ops s (listed.setIfInBounds i true)
def wpS (P : Program) (ops : Array Oper) (Q : Exit → Act → World → Prop) (L : World → World → Prop) : List (Nat × Bool) → Act → World → Prop
 | [], a, W => ∀ w1, Ext W w1 → Q .normal a w1
 | (i, true) :: s, a, W => ∃ o v, ops[i]? = some o ∧ fK P ops L W o v a ∧ wpS P ops Q L s (a.put o.dst v) W
 | (i, false) :: s, a, W => ∀ w1, Ext W w1 → wpOp P ops Q i (fun a' w' => L w1 w' ∧ wpS P ops Q L s a' w') a w1
def RC (ops : Array Oper) (ds : Tmp → Bool) (s : List (Nat × Bool)) : Bool := s.all fun p => !p.2 || ((ops[p.1]?).all fun o => o.dst.all ds)
theorem wT (hL : Way L) (hsel : Region.noSelect ops = true) (ds : Tmp → Bool) (hQ : ∀ c (a : Act) (d : Tmp) v w, ds d = true → Q (.panic c) (a.put (some d) v) w → Q (.panic c) a w) :
  ∀ (s : List (Nat × Bool)) (listed : Array Bool) (a : Act) (W : World), RC ops ds s = true → w8 md ops s listed = true → wpS P ops Q L s a W → wpW P md ops Q L s.length listed a W
 | [], listed, a, W, _, hB, h => ⟨by simpa [w8] using hB, h⟩
 | (i, true) :: s, listed, a, W, hI, hB, h => by
  simp only [RC, List.all_cons, Bool.and_eq_true, Bool.not_true, Bool.false_or] at hI
  obtain ⟨hI1, hI2⟩ := hI
  simp only [w8, Bool.and_eq_true] at hB
  obtain ⟨⟨hr, hf⟩, hB'⟩ := hB
  obtain ⟨o, v, h0, hy, hK⟩ := h
  exact Se hL h0 (Region.noSelect_spec hsel) (fun c a w => by cases hd : o.dst with | none => exact fun h => h | some d => exact hQ c a d v w (by simpa [h0, hd] using hI1)) s.length listed a W
   (Region.free_spec h0 hf) (by simpa using hr) hy (wT hL hsel ds hQ s _ _ _ hI2 hB' hK)
 | (i, false) :: s, listed, a, W, hI, hB, h => by
  simp only [RC, List.all_cons, Bool.and_eq_true] at hI
  simp only [w8, Bool.and_eq_true, beq_iff_eq] at hB
  obtain ⟨hr, hB'⟩ := hB
  refine ⟨fun h0 => (by rw [hr] at h0; cases h0), fun w1 k1 j hj => ?_⟩
  rw [hr, List.mem_singleton] at hj
  subst hj
  exact wpOp_mono (fun a' w' h' => ⟨h'.1, wT hL hsel ds hQ s _ _ _ hI.2 hB' h'.2⟩) (h w1 k1)
theorem K2 : ∀ (f : Nat) {g : Nat} {listed : Array Bool} {a : Act} {w : World}, f ≤ g → wpAny P md ops Q f listed a w → wpAny P md ops Q g listed a w
 | 0, 0, _, _, _, _, h => h
 | 0, g + 1, _, _, _, _, h => ⟨fun _ => h.2, by rw [h.1]; simp⟩
 | f + 1, g + 1, _, _, _, hle, h => ⟨h.1, fun i hi => wpOp_mono (fun a' w' h' => K2 f (by omega) h') (h.2 i hi)⟩
 | f + 1, 0, _, _, _, hle, _ => absurd hle (by omega)
theorem nT (L : World → World → Prop) (hL : Way L) {id : Nat} {a : Act} {w : World} {l : List Oper} (s : List (Nat × Bool)) (hm : P.follows .mixedOrders = true)
  (hB : (Region.noSelect l.toArray && decide (s.length ≤ l.toArray.size) && w8 .any l.toArray s (Array.replicate l.toArray.size false)) = true)
  (hQ : ∀ c (a : Act) (d : Tmp) v w, Q (.panic c) (a.put (some d) v) w → Q (.panic c) a w)
  (h : wpS P l.toArray Q L s a w.drew) : (Code.region id l.toArray true).wp P Q a w := by
 simp only [Bool.and_eq_true, decide_eq_true_eq] at hB
 obtain ⟨⟨hsel, hle⟩, hB⟩ := hB
 exact wp_region_any hm (K2 _ hle (xZ _ _ _ _ (wT (md := .any) hL hsel (fun _ => true) (fun c a d v w _ => hQ c a d v w) s _ a w.drew (by simp [RC]) hB h)))
variable {l : List Oper}
theorem rm {o : Oper} {a : Act} (h : o.guard = none) : Region.wanted o (yielded l.toArray a.tmps) = true := by simp [Region.wanted, h]
theorem sB {W : World} {i : Nat} {s : List (Nat × Bool)} {a : Act} (o : Oper) (v : Value) (hi : l[i]? = some o) (hw : Region.wanted o (yielded l.toArray a.tmps) = true)
  (h : ∀ w1, L W w1 → OkX P v w1 ((execOp a.eval o).run P w1)) (hr : wpS P l.toArray Q L s (a.put o.dst v) W) : wpS P l.toArray Q L ((i, true) :: s) a W := ⟨o, v, by simpa using hi, .inl ⟨hw, h⟩, hr⟩
theorem Ob {W : World} {i : Nat} {s : List (Nat × Bool)} {a : Act} (o : Oper) (hi : l[i]? = some o) (hw : Region.wanted o (yielded l.toArray a.tmps) = true)
  (h : ∀ w1, Ext W w1 → o.wp P a w1 (fun a' w' => L w1 w' ∧ wpS P l.toArray Q L s a' w') Q) : wpS P l.toArray Q L ((i, false) :: s) a W := by
 intro w1 k1
 have hi' : l.toArray[i]? = some o := by simpa using hi
 unfold Go.wpOp
 simp only [hi', hw, if_true]
 exact .inl (h w1 k1)
theorem w7 {W : World} {a : Act} (h : ∀ w1, Ext W w1 → Q .normal a w1) : wpS P ops Q L [] a W := h
end
theorem JM : Way Ext := ⟨fun h => h, Ext.trans⟩
end
theorem Tryz.infoCap : (prog.info? 98).map (fun i => (i.zero, i.size, i.bytes)) = some (some (.agg #[.int .i64 0, .int .i64 0]), 2, 16) := by kernel_rfl
theorem Ka (w : World) (x y : Value) (t : TypeId) : ∀ j u, [x, y][j]? = some u → (w.alloc (.cells #[x, y] t)).cell? ((⟨w.heap.size, 0, none⟩ : Addr).add j) = some u := by
 intro j u hu
 have hadd : (⟨w.heap.size, 0, none⟩ : Addr).add j = ⟨w.heap.size, j, none⟩ := by unfold Addr.add; split <;> simp_all
 rw [hadd, cell_of_row _ w.heap.size j _ t (0, 0) (heap_alloc_new w _), ← Array.getElem?_toList]
 exact hu
theorem aay {a b : Int} : ∀ u ∈ [Value.int .i64 a, Value.int .i64 b], u.oneCell' = true := by
 intro u hu
 simp only [List.mem_cons, List.mem_nil_iff, or_false] at hu
 rcases hu with rfl | rfl <;> rfl
theorem Kf {w : World} {b : Nat} {cs : Array Value} {t : TypeId} (h : w.heap[b]? = some (.cells cs t (0, 0))) (j : Nat) (v : Value) : (w.setCell ⟨b, j, none⟩ v).heap[b]? = some (.cells (cs.setIfInBounds j v) t (0, 0)) := by
 rw [heap_setCell_same w b j _ _ _ h]
theorem Fz (cs : List (Int × Int)) : cf (cs ++ [rl]) = cf cs ++ [.int .i64 10000, .int .i64 10000] := G0 cs 10000 10000
theorem wC (w : World) (R i : Nat) (u : Value) : w.grownBy (w.setCell ⟨R, i, none⟩ u) (some R) :=
 ⟨rfl, rfl, rfl, by simp [World.setCell], fun k _ hk => Below.heap_setCell _ _ _ _ (fun e => hk (by rw [e]))⟩
theorem Rz {w : World} (B gl nl : Nat) (h : w.heap[gl]? = some (.cells #[.string ⟨#[]⟩, .string ⟨#[103, 112, 117]⟩] 9 (0, 0))) (hB : B ≤ gl) (h2 : nl ≤ 2) : w.ownsRow B 9 1 (.slice (some ⟨gl, 0, none⟩) nl 2) nl ((CF nl).map sv) := by
 refine ⟨by simp [CF]; omega, .inr ⟨gl, 2, _, rfl, hB, h, h2, by simp [maxLen], rfl, ?_⟩⟩
 rcases nl with _ | _ | _ | nl
 ·rfl
 ·rfl
 ·rfl
 ·omega
theorem R9 {w V w5 : World} {row : Option Nat} {Q : Nat} {o : Obj} (hV : Ext w V) (hg : V.grownBy w5 row) (hb : w.heap[Q]? = some o) (hne : row ≠ some Q) : w5.heap[Q]? = some o := by
 have hlt := (Array.getElem?_eq_some_iff.1 hb).1
 rw [hg.block Q (Nat.lt_of_lt_of_le hlt hV.size) (fun e => hne e.symm), hV.block Q hlt]
 exact hb
theorem SU (i j k : Nat) (hi : i ≤ 7) (hj : j ≤ 7) (hk : k ≤ 2) : ∃ p : Nat, p ≤ 51 ∧ (p : Int) = (i : Int) * (j : Int) + (k : Int) ∧ wrap64 (wrap64 ((i : Int) * (j : Int)) + (k : Int)) = (p : Int) := by
 have h : i * j ≤ 7 * 7 := Nat.mul_le_mul hi hj
 obtain ⟨p, hp⟩ : ∃ p : Nat, p = i * j := ⟨_, rfl⟩
 rw [← hp] at h
 refine ⟨p + k, by omega, by rw [hp]; simp [Int.natCast_add, Int.natCast_mul], ?_⟩
 rw [show (i : Int) * (j : Int) = (p : Int) by rw [hp]; exact (Int.natCast_mul i j).symm]
 rw [show wrap64 (p : Int) = (p : Int) from IntWalk.wrap64_in _ ⟨by omega, by omega⟩]
 rw [show wrap64 ((p : Int) + (k : Int)) = (p : Int) + (k : Int) from IntWalk.wrap64_in _ ⟨by omega, by omega⟩]
 omega
def UH (sh : Int) (xs : List Int) (y nl : Nat) (w : World) (e : Ending) (w' : World) : Prop := ∃ vl vq ds qs B, e = .returned (.agg #[vl, vq]) ∧ w.heap.size ≤ B ∧ w'.ownsRow w.heap.size 9 1 vl nl ((CF nl).map sv) ∧ iM w' B vq ds qs ∧ GI nl (mn y) (mn y).length ds ∧ Ext w w' ∧ fO sh xs = some (gC nl ds)
theorem Sd (a : Int) : wrap64 a = i64.wrap a := by rw [IntKind.wrap_i64]; unfold wrap64; rfl
theorem ZS {xs : List Int} {i jj kk nk L : Nat} {z1 z2 a b : Int} {z y : Nat} (hl : jj + 1 < nk) (e3 : z1 = gY xs a) (ha : a = (i : Int) + jj + kk) (e4 : z2 = gY xs b) (hb : b = (i : Int) * jj + kk) (e1 : (z : Int) = z1 % ((L + 1 : Nat) : Int)) (e2 : (y : Int) = z2 % ((4 : Nat) : Int)) : [0, (L : Int) / 2, (L : Int), (z : Int)].getD y 0 = nV xs i jj kk nk (L : Int) := by
 unfold nV
 rw [if_pos hl, ← ha, ← hb, ← e3, ← e4]
 have e5 : z1 % ((L : Int) + 1) = (z : Int) := by rw [e1]; rfl
 have e6 : z2 % 4 = (y : Int) := by rw [e2]; rfl
 rw [e5, e6]
 rfl
theorem ZV {xs : List Int} {i jj kk n : Nat} {z1 z2 a b : Int} {z y : Nat} (hn : n ≤ 10000) (e3 : z1 = gY xs a) (ha : a = (jj : Int) + kk) (e4 : z2 = gY xs b) (hb : b = (i : Int) + 2 * jj) (e1 : (z : Int) = z1 % ((10000 - n + 1 : Nat) : Int)) (e2 : (y : Int) = z2 % ((3 : Nat) : Int)) : [10000, (n : Int), (n : Int) + (z : Int)].getD y 0 = mV xs i jj kk (n : Int) := by
 unfold mV
 rw [← ha, ← hb, ← e3, ← e4]
 have e5 : z1 % (10000 - (n : Int) + 1) = (z : Int) := by rw [e1]; congr 1; omega
 have e6 : z2 % 3 = (y : Int) := by rw [e2]; rfl
 rw [e5, e6]
 rfl
set_option maxHeartbeats 12800000 in
theorem UG (sh : Int) (v : Value) (xs : List Int) (w : World) (r0 : Rd w v (xs.map (Value.int .i64))) (hx30 : xs.length ≤ 9223372036854775807) :
  Calls prog 28 #[.int .i64 sh, v] w fun e w' => ∃ nl, 1 ≤ nl ∧ nl ≤ 2 ∧ UH sh xs (sh % 5).toNat nl w e w' := by
 obtain ⟨c0, hc, hcz0, hcz1, hcz2⟩ := info_parts Tryz.infoCap
 obtain ⟨q0, hq, hqz0, hqz1, hqz2⟩ := info_parts Tryz.infoQ
 obtain ⟨i0, hi, hz0, hz1, hz2⟩ := info_parts Tryz.infoStr
 obtain ⟨W2, hW2⟩ : ∃ W2, W2 = rF w := ⟨_, rfl⟩
 have X2 := Lib.hid (show Ext w W2 by rw [hW2]; exact S5 w)
 have HS2 := Lib.hid (show W2.heap.size = w.heap.size + 8 by rw [hW2]; exact OO w)
 have HR0 := Lib.hid (show W2.heap[w.heap.size]? = some (.cells #[.slice none 0 0, .slice none 0 0] 36 (0, 0)) by rw [hW2]; exact S4 w)
 have HLB := Lib.hid (show W2.heap[w.heap.size + 1 + 1 + 1 + 1 + 1 + 1 + 1]? = some (.cells #[.string ⟨#[]⟩, .string ⟨#[103, 112, 117]⟩] 9 (0, 0)) by rw [hW2]; exact OQ w)
 have HTR := Lib.hid (show ∀ y, y < 5 → W2.cell? ⟨w.heap.size + 1 + 1 + 1 + 1 + 1 + 1, y, none⟩ = some (.slice (some ⟨w.heap.size + 1 + y, 0, none⟩) (mn y).length (mn y).length) by rw [hW2]; exact ON w)
 have HPA := Lib.hid (show ∀ y, y < 5 → ∀ i (hi : i < (mn y).length), W2.cell? ⟨w.heap.size + 1 + y, i, none⟩ = some (.string ⟨((mn y)[i]).toArray⟩) by rw [hW2]; exact OP w)
 obtain ⟨A, N, c, rfl, hN, hc1, hc2, hcell⟩ := HU r0
 have HC := Lib.hid hcell
 have HN := Lib.hid hN
 have HRD := Lib.hid r0
 have hN30 : N ≤ 9223372036854775807 := by omega
 clear hcell hN r0
 have hW2' : W2 = _ := hW2
 unfold rF at hW2'
 go_enter Tryz.func28, Tryz.ntmps28
 go_wp2_with fail
 rw [← hW2']
 clear hW2 hW2'
 (with_reducible refine (gI _ 2 2 _ rfl (by omega)).mono ?_)
 rintro e w2 ⟨nl', rfl, hny, hnl, rfl⟩
 have HNY := Lib.hid hny
 clear hny
 have hnl1 : (1 + (nl' : Int)).toNat = nl' + 1 := by omega
 have hnl2 : (0 : Int) ≤ 1 + (nl' : Int) := by omega
 have hnl3 : 1 + (nl' : Int) ≤ 2 := by omega
 go_wp2_with fail
 (with_reducible refine (gI _ 5 5 _ rfl (by omega)).mono ?_)
 rintro e w3 ⟨y, rfl, hny, hy5, rfl⟩
 have HY := Lib.hid hny
 clear hny hnl1
 obtain ⟨nl, hnl'⟩ : ∃ nl, nl = nl' + 1 := ⟨_, rfl⟩
 rw [← hnl']
 have HNL := Lib.hid hnl'
 have hnl4 : nl ≤ 2 := by omega
 have hnl5 : 1 ≤ nl := by omega
 clear hnl' hnl2 hnl3 hnl
 obtain ⟨gt, hgt⟩ : ∃ gt, gt = w.heap.size + 1 + y := ⟨_, rfl⟩
 obtain ⟨ps, hps⟩ : ∃ ps, ps = mn y := ⟨_, rfl⟩
 obtain ⟨NP, hNP⟩ : ∃ NP, NP = ps.length := ⟨_, rfl⟩
 have hNP7 : NP ≤ 7 := by rw [hNP, hps]; exact K7 y
 have HPX := Lib.hid (show ∀ i (hi : i < ps.length), W2.cell? ⟨gt, i, none⟩ = some (.string ⟨(ps[i]).toArray⟩) by rw [hgt]; subst hps; exact HPA.out y hy5)
 have HTX := HTR.out y hy5
 rw [← hgt, ← hps, ← hNP] at HTX
 have HTX' : ∀ o, (W2.alloc o).cell? ⟨w.heap.size + 1 + 1 + 1 + 1 + 1 + 1, y, none⟩ = some (.slice (some ⟨gt, 0, none⟩) NP NP) := fun o => (aO W2 o).cell HTX
 have HPS := Lib.hid hps
 have HNP := Lib.hid hNP
 have HNO := Lib.hid (show ps.Nodup by rw [hps]; exact N1 y)
 have HE0 := Lib.hid (show E1 sh xs nl ps 0 [] by rw [hps]; exact E1.start sh xs (by have h1 := HNY.out; have h2 := HNL.out; rw [h2]; first | omega | (rw [show (((nl' + 1 : Nat)) : Int) = 1 + (nl' : Int) by omega, h1, Sd]; rfl)) (by have := HY.out; omega))
 have hy0 : (0 : Int) ≤ (y : Int) := by omega
 have hy5' : (y : Int) < 5 := by omega
 clear hgt hps hNP HTX
 go_wp2
 obtain ⟨gl, hgl⟩ : ∃ gl, gl = w.heap.size + 1 + 1 + 1 + 1 + 1 + 1 + 1 := ⟨_, rfl⟩
 rw [← hgl]
 have HGL := Lib.hid (show w.heap.size ≤ gl by omega)
 have HL2 := Lib.hid (show W2.heap[gl]? = some (.cells #[.string ⟨#[]⟩, .string ⟨#[103, 112, 117]⟩] 9 (0, 0)) by rw [hgl]; exact HLB.out)
 clear hgl HLB HTX' HTR HPA
 obtain ⟨R, hR⟩ : ∃ R, R = W2.heap.size := ⟨_, rfl⟩
 have HR3 := Lib.hid (show (W2.alloc (.cells #[.slice (some ⟨gl, 0, none⟩) nl 2, .slice none 0 0] 36)).heap[R]? = some (.cells #[.slice (some ⟨gl, 0, none⟩) nl 2, .slice none 0 0] 36 (0, 0)) by rw [hR]; exact heap_alloc_new W2 _)
 rw [← hR]
 have HRR := Lib.hid hR
 clear hR
 go_loopw [8] (fun i wr => ∃ (k : Nat) (vq : Value) (ds : List QD) (qs : List QC), i = .int .i64 k ∧ k ≤ NP ∧ wr.heap[R]? = some (.cells #[.slice (some ⟨gl, 0, none⟩) nl 2, vq] 36 (0, 0)) ∧ iM wr R vq ds qs ∧ G1 nl ps k ds ∧ E1 sh xs nl ps k ds ∧ Ext W2 wr) (fun i _ => NP - (intOf i).toNat)
 case atStart => exact ⟨0, _, [], [], rfl, by omega, HR3.out, iM.nil _ _, G1.nil nl ps, HE0.out, aO _ _⟩
 case round =>
  obtain ⟨k, vq, ds, qs, rfl, hk, hRb, hOQ, hG, hE, hx⟩ := hrel
  have HE := Lib.hid hE
  clear hE HE0
  have HRB := Lib.hid hRb
  have HOQ := Lib.hid hOQ
  have HG := Lib.hid hG
  have HX := Lib.hid hx
  clear hRb hOQ hG hx
  have k0 : (0 : Int) ≤ (k : Int) := by omega
  by_cases hlt : k < NP
  ·have k1 : (k : Int) < (NP : Int) := by omega
   have hkp : k < ps.length := by have := HNP.out; omega
   have p0 := HX.out.cell (HPX.out k hkp)
   obtain ⟨P, hP⟩ : ∃ P : ByteArray, P = ⟨(ps[k]).toArray⟩ := ⟨_, rfl⟩
   rw [← hP] at p0
   have HP := Lib.hid (show P.data.toList = ps[k] by rw [hP])
   clear hP
   obtain ⟨WQ, hWQ⟩ : ∃ WQ, WQ = wr.alloc (.cells #[.string P, .slice none 0 0, .int .i64 1000000] 63) := ⟨_, rfl⟩
   obtain ⟨Q, hQ⟩ : ∃ Q, Q = wr.heap.size := ⟨_, rfl⟩
   have HQR := Lib.hid (show R ≤ Q by rw [hQ, HRR.out]; exact HX.out.size)
   have HQB := Lib.hid (show WQ.heap[Q]? = some (.cells #[.string P, .slice none 0 0, .int .i64 1000000] 63 (0, 0)) by rw [hWQ, hQ]; exact heap_alloc_new wr _)
   have HXQ := Lib.hid (show Ext wr WQ by rw [hWQ]; exact aO _ _)
   go_upto_region 8 with fail
   rw [← hWQ, ← hQ]
   have HQQ := Lib.hid hQ
   clear hWQ hQ p0
   go_cut [59] from 48 to 59 (fun s59 wx => (∃ b : Bool, s59 = .bool b ∧ b = EE xs k) ∧ wx = WQ)
   case first =>
    by_cases hkN : k < N
    ·have n1 : (k : Int) < (N : Int) := by omega
     obtain ⟨a, rfl, hb, hcs⟩ := HC.out (by omega)
     have h3 := (X2.out.trans (HX.out.trans HXQ.out)).cell' (hcs k (by have := HN.out; omega))
     have hxg : xs.getD k 0 = xs[k]'(by have := HN.out; omega) := by simp [List.getD, zq (show k < xs.length by have := HN.out; omega)]
     generalize xs[k]'(by have := HN.out; omega) = x at h3 hxg
     have HGT := Lib.hid (show (x.tmod 3 == 0) = EE xs k by unfold EE; rw [decide_eq_true (show k < xs.length by have := HN.out; omega), hxg]; rfl)
     clear hcs hb hxg
     go_wp2
     go_meet
     case rel => exact ⟨⟨_, rfl, by first | exact HGT.out | (rw [← HGT.out]; simp)⟩, rfl⟩
    ·have n1 : ¬ (k : Int) < (N : Int) := by omega
     go_wp2
     go_meet
     case rel => exact ⟨⟨_, rfl, by unfold EE; rw [decide_eq_false (show ¬ k < xs.length by have := HN.out; omega)]; rfl⟩, rfl⟩
   case rest =>
    obtain ⟨⟨b, rfl, hbN⟩, rfl⟩ := hcut
    have HBN := Lib.hid hbN
    clear hbN
    go_upto_if 59 with fail
    go_cut [] from 60 to 66 (fun wx => ∃ u : Int, 1 ≤ u ∧ u ≤ 1000000 ∧ u = H3 xs k ∧ wx.heap[Q]? = some (.cells #[.string P, .slice none 0 0, .int .i64 u] 63 (0, 0)) ∧ Ext wr wx)
    case first =>
     cases b with
     | true =>
      have hkN : k < N := by
       have h := HBN.out
       unfold EE at h
       have h2 := (Bool.and_eq_true_iff.1 h.symm).1
       have h3 := zd h2
       have := HN.out
       omega
      have n1 : (k : Int) < (N : Int) := by omega
      obtain ⟨a, rfl, hb, hcs⟩ := HC.out (by omega)
      have h3 := (X2.out.trans (HX.out.trans HXQ.out)).cell' (hcs k (by have := HN.out; omega))
      have hxg : xs.getD k 0 = xs[k]'(by have := HN.out; omega) := by simp [List.getD, zq (show k < xs.length by have := HN.out; omega)]
      generalize xs[k]'(by have := HN.out; omega) = x at h3 hxg
      have HXG := Lib.hid hxg
      clear hxg
      have u2 := df HQB.out 2 _ rfl
      have f2 := rS HQB.out 2
      clear hcs hb
      go_wp2_with fail
      (with_reducible refine (gI _ 20000 20000 _ rfl (by omega)).mono ?_)
      rintro e w4 ⟨z, rfl, hz, hz2, rfl⟩
      have HZ := Lib.hid hz
      clear hz
      go_wp2
      go_meet
      case rel =>
       refine ⟨1 + (z : Int), by omega, by omega, by rw [H3, if_pos HBN.out.symm, HXG.out, HZ.out]; rfl, ?_, ?_⟩
       ·rw [Kf HQB.out]; rfl
       ·exact yM HXQ.out (by rw [HQQ.out]; exact Nat.le_refl _) _
     | false =>
      go_wp2
      go_meet
      case rel => exact ⟨1000000, by omega, by omega, by rw [H3, if_neg (by rw [← HBN.out]; decide)], HQB.out, HXQ.out⟩
    case rest =>
     obtain ⟨u, hu1, hu2, hu3, hqb, hxq⟩ := hcut
     have HU3 := Lib.hid hu3
     clear hu3
     have HQC := Lib.hid hqb
     have HXC := Lib.hid hxq
     clear hqb hxq HBN HQB
     go_wp2
     go_loopw [10] (fun i2 wx => ∃ (kk : Nat) (vc : Value), i2 = .int .i64 kk ∧ kk ≤ nl ∧ wx.heap[Q]? = some (.cells #[.string P, vc, .int .i64 u] 63 (0, 0)) ∧ wx.ownsRow (Q + 1) 98 2 vc kk (cf (List.replicate kk rl)) ∧ Ext wr wx) (fun i2 _ => nl - (intOf i2).toNat)
     case atStart => exact ⟨0, _, rfl, by omega, HQC.out, World.ownsRow_nil _ _ _ 2, HXC.out⟩
     case round =>
      obtain ⟨kk, vc, rfl, hkk, hqb, ho, hxx⟩ := hrel
      obtain ⟨Av, cv, rfl, hv1, hv2⟩ := cD ho
      have HQX := Lib.hid hqb
      have HO := Lib.hid ho
      have HXX := Lib.hid hxx
      clear hqb ho hxx
      have r0 := HXX.out.cell (df HRB.out 0 _ rfl)
      have kk0 : (0 : Int) ≤ (kk : Int) := by omega
      by_cases hlk : kk < nl
      ·have kk1 : (kk : Int) < (nl : Int) := by omega
       have q1 := df HQX.out 1 _ rfl
       have f1 := rS HQX.out 1
       go_wp2_with (at_builtin; go_loud (refine wpList_append_own_at _ rfl (.tmp 75) (.tmp 77) 61 rfl (Q + 1) 98 c0 _ 2 16 Tryz.underlying61 hc hcz0 hcz1 hcz2 rfl (by decide) _ kk (cf (List.replicate kk rl)) rfl (HO.out.alloc _) ⟨_, 0, none⟩ 1 1 [.int .i64 10000, .int .i64 10000] rfl rfl (Ka _ _ _ _) aay ?c3 ?c4 ?c5 ?_))
       case c3 => simp [maxLen]; omega
       case c4 => omega
       case c5 =>
        have := (Array.getElem?_eq_some_iff.1 HQX.out).1
        simp; omega
       intro v' w5 ho5 hg5 _ hat5
       have HQ5 := Lib.hid (R9 (aO _ _) hg5 HQX.out (fun e => by have := (HO.out.lt Q e).1; omega))
       have HO5 := Lib.hid (show w5.ownsRow (Q + 1) 98 2 v' (kk + 1) (cf (List.replicate (kk + 1) rl)) by
        rw [List.replicate_succ', Fz ]; exact ho5)
       have HX5 := Lib.hid ((HXX.out.trans (aO _ _)).trans' (cJ hg5 (by have := HXX.out.size; simp; omega) (Ov HO.out (by have := HQQ.out; omega))))
       have q5 := df HQ5.out 1 _ rfl
       have f5 := rS HQ5.out 1
       obtain ⟨A5, c5, rfl, _, _⟩ := cD ho5
       clear ho5 hg5 hat5 q1 f1 r0
       go_wp2
       go_roundw
       case rel =>
        refine ⟨kk + 1, _, by simp, by omega, by rw [Kf HQ5.out]; rfl, ?_, ?_⟩
        ·exact HO5.out.kept (wC _ Q 1 _) (.inr fun e => by have := (HO5.out.lt Q e).1; omega)
        ·exact yM HX5.out (by rw [HQQ.out]; exact Nat.le_refl _) _
       case measure => simp [intOf]; omega
      ·obtain rfl : kk = nl := by omega
       have kk1 : ¬ (kk : Int) < (kk : Int) := by omega
       have HROW := Lib.hid (kZ HOQ.out.row HXX.out)
       obtain ⟨Aq, cq, rfl, hcq1, hcq2⟩ := cD HROW.out
       obtain ⟨DL, hDL⟩ : ∃ DL, DL = ds.length := ⟨_, rfl⟩
       have hDL7 : DL ≤ 7 := by
        have h1 := congrArg List.length HG.out.paths
        rw [List.length_map, List.length_take] at h1
        omega
       have HROW2 := Lib.hid (show (_ : World).ownsRow R 63 3 (.slice Aq DL cq) DL (fT qs) by have h := HROW.out; rw [← hDL] at h; exact h)
       have r1 := HXX.out.cell (df HRB.out 1 _ rfl)
       rw [← hDL] at r1
       have q2 := df HQX.out 0 _ rfl
       have q3 := df HQX.out 1 _ rfl
       have q4 := df HQX.out 2 _ rfl
       have HDL := Lib.hid hDL
       clear hDL HROW
       go_wp2_with (at_builtin; go_loud (refine wpList_append_own_at _ rfl (.tmp 81) (.tmp 83) 34 rfl R 63 q0 _ 3 48 Tryz.underlying34 hq hqz0 hqz1 hqz2 rfl (by decide) _ DL (fT qs) rfl (HROW2.out.alloc _) ⟨_, 0, none⟩ 1 1 [.string P, .slice Av kk cv, .int .i64 u] rfl rfl (Fy _ _ _ _ _) aax ?e3 ?e4 ?e5 ?_))
       case e3 => simp [maxLen]; omega
       case e4 => omega
       case e5 =>
        have := (Array.getElem?_eq_some_iff.1 HQX.out).1
        have := HQR.out
        simp; omega
       intro v' w5 ho5 hg5 _ hat5
       have HRX := Lib.hid ((HXX.out.block R (Array.getElem?_eq_some_iff.1 HRB.out).1).trans HRB.out)
       have hneR : (Value.slice Aq DL cq).ownBlock ≠ some R := o0 HROW2.out HRX.out (by decide)
       have HR5 := Lib.hid (R9 (aO _ _) hg5 HRX.out hneR)
       have HX5 := Lib.hid (((HX.out.trans HXX.out).trans (aO _ _)).trans' (cJ hg5 (by have := (HX.out.trans HXX.out).size; simp; omega) (Ov HROW2.out (by rw [HRR.out]; exact Nat.le_refl _))))
       rw [HDL.out] at ho5 hg5
       have HOQ5 := Lib.hid (iM.snoc (q := ⟨P, Av, kk, cv, u⟩) (d := ⟨ps[k], List.replicate kk rl, u⟩) HOQ.out (HXX.out.trans (aO _ _)) ⟨HP.out, rfl, by simp, Ee (HO.out.alloc _) (by have := HQR.out; omega)⟩
        (fun g hg i qi hqi e => by
         have h1 := (HO.out.lt g hg).1
         have hil : i < ds.length := by rw [← HOQ.out.len]; exact (zg.1 hqi).1
         have h2 := ((HOQ.out.each i qi hil hqi).2.2.2.lt g e).2
         have := HQQ.out
         omega) ho5 hg5)
       have q5 := df HR5.out 1 _ rfl
       have f5 := rS HR5.out 1
       obtain ⟨A5, c5, rfl, _, _⟩ := cD ho5
       have HG5 := Lib.hid (G1.snoc HG.out hkp hu1 hu2)
       have HE5 := Lib.hid (show E1 sh xs _ ps (k + 1) (ds ++ [⟨ps[k], List.replicate kk rl, u⟩]) by rw [HU3.out]; exact E1.step HE.out (by omega) hkp (by have := HNP.out; omega) (by have := HDL.out; omega))
       clear ho5 hg5 hat5 q2 q3 q4 r1 r0
       go_wp2
       go_roundw
       case rel =>
        refine ⟨k + 1, _, _, qs ++ [⟨P, Av, kk, cv, u⟩], by simp, by omega, by rw [Kf HR5.out]; rfl, ?_, HG5.out, HE5.out, ?_⟩
        ·exact HOQ5.out.kept (wC _ R 1 _) HR5.out (by decide) (by decide)
        ·exact yM HX5.out (by rw [HRR.out]; exact Nat.le_refl _) _
       case measure => simp [intOf]; omega
  ·obtain rfl : k = NP := by omega
   have k1 : ¬ (k : Int) < (k : Int) := by omega
   have HGI := Lib.hid (G1.start (HNP.out ▸ HG.out))
   have HE3 := Lib.hid (show E3 sh xs nl ps 0 ds from E1.end (by have h := HE.out; rw [HNP.out] at h; exact h) (by have := HNP.out; omega))
   clear HG HE
   go_wp2
   go_loopw [11] (fun i wr => ∃ (k' : Nat) (vq : Value) (ds : List QD) (qs : List QC), i = .int .i64 k' ∧ k' ≤ k ∧ wr.heap[R]? = some (.cells #[.slice (some ⟨gl, 0, none⟩) nl 2, vq] 36 (0, 0)) ∧ iM wr R vq ds qs ∧ GI nl ps k' ds ∧ E3 sh xs nl ps k' ds ∧ Ext W2 wr) (fun i _ => k - (intOf i).toNat)
   case atStart => exact ⟨0, _, _, _, rfl, by omega, HRB.out, HOQ.out, HGI.out, HE3.out, HX.out⟩
   case round =>
    obtain ⟨i, vq, ds, qs, rfl, hik, hRb, hOQ, hG, hE, hx⟩ := hrel
    clear HRB HOQ HGI HX HE3
    have HE := Lib.hid hE
    clear hE
    obtain ⟨Aq, cq, rfl, hcq1, hcq2⟩ := cD hOQ.row
    have HRB := Lib.hid hRb
    have HOQ := Lib.hid hOQ
    have HG := Lib.hid hG
    have HX := Lib.hid hx
    have HDK := Lib.hid (show ds.length = k by rw [hG.gd.len]; exact HNP.out.symm)
    have r0 := df HRB.out 0 _ rfl
    have r1 := df HRB.out 1 _ rfl
    rw [HDK.out] at r1
    clear hRb hOQ hG hx k1 hcq1
    have i0 : (0 : Int) ≤ (i : Int) := by omega
    by_cases hlt : i < k
    ·have i1 : (i : Int) < (k : Int) := by omega
     have hip : i < ps.length := by have := HNP.out; omega
     have p0 := HX.out.cell (HPX.out i hip)
     obtain ⟨P, hP⟩ : ∃ P : ByteArray, P = ⟨(ps[i]).toArray⟩ := ⟨_, rfl⟩
     rw [← hP] at p0
     have HP := Lib.hid (show P.data.toList = ps[i] by rw [hP])
     clear hP
     go_wp2
     refine nT Ext JM [(0, true), (1, true), (2, true), (3, true), (4, true), (5, false), (6, true)] (by kernel_rfl) (by kernel_rfl) (fun _ _ _ _ _ h => h) ?_
     repeat first | ((with_reducible refine sB ?_ ?_ ?_ ?_ (fun wk k1 => ?_) ?_); rotate_left 2; (rfl); (first | exact rm rfl | exact want_some rfl rfl rfl rfl); (go_simp; first | exact OkX.val | (have c0' := k1.cell r0; have c1' := k1.cell r1; have c2' := k1.cell p0; go_simp; exact OkX.val)); simp only [Act.put, List.setIfInBounds_toArray, List.set_cons_zero, List.set_cons_succ]) | ((with_reducible refine sched_skip ?_ ?_ ?_ ?_); rotate_left; (rfl); (exact want_not rfl rfl rfl rfl rfl); simp only [Act.put, List.setIfInBounds_toArray, List.set_cons_zero, List.set_cons_succ])
     ((with_reducible refine Ob ?_ ?_ ?_ (fun wk k1 => ?_)); rotate_left; (rfl); (first | exact rm rfl | exact want_some rfl rfl rfl rfl))
     have F0 := Lib.hid ((Ext.drew _).trans k1)
     clear k1 r0 r1 p0
     go_simp
     have hq7 : ds.length ≤ 1000 := by have := HDK.out; omega
     have hp7 : ∀ q ∈ ds, q.path.length ≤ 1000000000 := fun q hq => by
      have h1 : q.path ∈ ps := by rw [← HG.out.gd.paths]; exact List.mem_map_of_mem hq
      rw [HPS.out] at h1
      have := K6 y _ h1
      omega
     have hqq := (HOQ.out.ext F0.out).rd
     rw [HDK.out] at hqq
     (with_reducible refine (SC ds _ _ P _ hqq hq7 hp7).mono ?_)
     rintro e wk2 ⟨Ak, nk, ck, rfl, hnk, hok, hxk⟩
     refine ⟨hxk, ?_⟩
     try simp only [Act.put, List.setIfInBounds_toArray, List.set_cons_zero, List.set_cons_succ]
     have F1 := Lib.hid (F0.out.trans hxk)
     obtain ⟨ks, hks⟩ : ∃ ks, ks = B5 ps[i] ps := ⟨_, rfl⟩
     have hkse : cz P.data.toList ds = ks := by rw [Ey, HP.out, HG.out.gd.paths, hks]
     rw [hkse] at hok hnk
     have HOK := Lib.hid (Ee hok (show R ≤ _ by have := F0.out.size; have := HX.out.size; have := HRR.out; omega))
     have hnk7 : nk ≤ 7 := by
      rw [hnk, hks]
      unfold B5
      have := List.length_filter_le (fun x => decide (ps[i] ≠ []) && decide (above x = ps[i])) ps
      have := HNP.out
      omega
     have HNK := Lib.hid hnk
     have HKS := Lib.hid hks
     have HE4 := Lib.hid (show E4 sh xs nl ps i ks 0 ds by rw [hks]; exact E3.open HE.out hip (by have := HNP.out; omega) HPS.out HG.out.gd.paths)
     clear hxk hok hnk hks hkse hqq hq7 hp7
     repeat first | ((with_reducible refine sB ?_ ?_ ?_ ?_ (fun wk k1 => ?_) ?_); rotate_left 2; (rfl); (first | exact rm rfl | exact want_some rfl rfl rfl rfl); (go_simp; first | exact OkX.val); simp only [Act.put, List.setIfInBounds_toArray, List.set_cons_zero, List.set_cons_succ]) | ((with_reducible refine sched_skip ?_ ?_ ?_ ?_); rotate_left; (rfl); (exact want_not rfl rfl rfl rfl rfl); simp only [Act.put, List.setIfInBounds_toArray, List.set_cons_zero, List.set_cons_succ])
     refine w7 (fun wz k1 => ?_)
     have HOKz := Lib.hid (kZ HOK.out k1)
     have F2 := Lib.hid (F1.out.trans k1)
     obtain ⟨Ak', ck', eK, hck1, hck2⟩ := cD HOKz.out
     injection eK with eK1 eK2 eK3
     subst eK1 eK3
     clear k1 eK2
     go_wp2
     go_loopw [13] (fun l wr => ∃ (kk : Nat) (vq : Value) (ds : List QD) (qs : List QC), l = .int .i64 kk ∧ kk ≤ nl ∧ wr.heap[R]? = some (.cells #[.slice (some ⟨gl, 0, none⟩) nl 2, vq] 36 (0, 0)) ∧ iM wr R vq ds qs ∧ GK nl ps i kk ds ∧ E4 sh xs nl ps i ks kk ds ∧ wr.ownsRow R 9 1 (.slice Ak nk ck) nk (ks.map sv) ∧ Ext W2 wr) (fun l _ => nl - (intOf l).toNat)
     case atStart => exact ⟨0, _, _, _, rfl, by omega, (F2.out.block R (Array.getElem?_eq_some_iff.1 HRB.out).1).trans HRB.out, HOQ.out.ext F2.out, HG.out.toK, HE4.out, HOKz.out, HX.out.trans F2.out⟩
     case round =>
      obtain ⟨kk, vq, ds, qs, rfl, hkk, hRb, hOQ, hG, hE, hkr, hx⟩ := hrel
      clear HRB HOQ HG HX HDK HOKz HOK F0 F1 F2 HE HE4
      have HE := Lib.hid hE
      clear hE
      have HRB := Lib.hid hRb
      have HOQ := Lib.hid hOQ
      have HG := Lib.hid hG
      have HX := Lib.hid hx
      have HKR := Lib.hid hkr
      have r0 := df HRB.out 0 _ rfl
      clear hRb hOQ hG hx hkr
      have kk0 : (0 : Int) ≤ (kk : Int) := by omega
      by_cases hlk : kk < nl
      ·have kk1 : (kk : Int) < (nl : Int) := by omega
       go_wp2
       go_loopw [14, 15] (fun lf j wr => ∃ (jj : Nat) (left : Int) (vq : Value) (ds : List QD) (qs : List QC), lf = .int .i64 left ∧ j = .int .i64 jj ∧ jj ≤ nk ∧ wr.heap[R]? = some (.cells #[.slice (some ⟨gl, 0, none⟩) nl 2, vq] 36 (0, 0)) ∧ iM wr R vq ds qs ∧ GJ nl ps i kk jj left ds ∧ E5 sh xs nl ps i ks kk jj left ds ∧ wr.ownsRow R 9 1 (.slice Ak nk ck) nk (ks.map sv) ∧ Ext W2 wr) (fun _ j _ => nk - (intOf j).toNat)
       case atStart => exact ⟨0, 10000, _, _, _, rfl, rfl, by omega, HRB.out, HOQ.out, HG.out.toJ, E4.open HE.out hlk hnl4, HKR.out, HX.out⟩
       case round =>
        obtain ⟨jj, left, vq, ds, qs, rfl, rfl, hjj, hRb, hOQ, hG, hE, hkr, hx⟩ := hrel
        clear HRB HOQ HG HX HKR r0 HE
        have HE := Lib.hid hE
        clear hE
        obtain ⟨L, rfl⟩ : ∃ L : Nat, left = (L : Int) := ⟨left.toNat, by have := hG.lo; omega⟩
        have HRB := Lib.hid hRb
        have HOQ := Lib.hid hOQ
        have HG := Lib.hid hG
        have HX := Lib.hid hx
        have HKR := Lib.hid hkr
        have l0 := hG.lo
        have l1 := hG.hi
        have j0 : (0 : Int) ≤ (jj : Int) := by omega
        clear hRb hOQ hG hx hkr
        by_cases hlj : jj < nk
        ·have j1 : (jj : Int) < (nk : Int) := by omega
         go_upto_if 116 with fail
         go_cut [16] from 112 to 140 (fun s16 wx => ∃ n : Int, s16 = .int .i64 n ∧ 0 ≤ n ∧ n ≤ (L : Int) ∧ (jj + 1 = nk → n = (L : Int)) ∧ n = nV xs i jj kk ks.length (L : Int) ∧ Ext wr wx)
         case first =>
          by_cases hl2 : jj + 1 < nk
          ·have n1 : (jj : Int) < (nk : Int) - 1 := by omega
           have hrd := HRD.out.ext (X2.out.trans HX.out)
           have HRX := Lib.hid hrd
           clear hrd
           go_wp2_with fail
           (with_reducible refine (yr _ xs _ _ HRX.out (by omega) (by omega) (by omega)).mono ?_)
           rintro e w4 ⟨⟨z1, rfl, hz1⟩, rfl⟩
           have HZ1 := Lib.hid hz1
           clear hz1
           go_wp2_with fail
           (with_reducible refine (gI _ (L + 1) _ _ (by omega) (by omega)).mono ?_)
           rintro e w4 ⟨z, rfl, hz, hzl, rfl⟩
           have HZ := Lib.hid hz
           clear hz
           have hz0 : (0 : Int) ≤ (z : Int) := by omega
           have hzl' : (z : Int) ≤ (L : Int) := by omega
           go_wp2_with fail
           have HRX2 := Lib.hid (HRX.out.ext (aO _ (.cells #[.int .i64 0, .int .i64 ((L : Int) / 2), .int .i64 (L : Int), .int .i64 (z : Int)] 3)))
           obtain ⟨p, hp51, hpe, hw⟩ := SU i jj kk (by omega) (by omega) (by omega)
           rw [hw]
           have HPE := Lib.hid hpe
           clear hw hpe
           (with_reducible refine (yr _ xs _ _ HRX2.out (by omega) (by omega) (by omega)).mono ?_)
           rintro e w4 ⟨⟨z2, rfl, hz2⟩, rfl⟩
           have HZ2 := Lib.hid hz2
           clear hz2
           go_wp2_with fail
           (with_reducible refine (gI _ 4 4 _ rfl (by omega)).mono ?_)
           rintro e w4 ⟨y4, rfl, hyy, hy4, rfl⟩
           have HYY := Lib.hid hyy
           clear hyy
           have hnv := ZS (show jj + 1 < ks.length by have := HNK.out; omega) HZ1.out (by first | rfl | omega) HZ2.out HPE.out HZ.out HYY.out
           obtain ⟨n, hn, hn0, hnl, hnn⟩ : ∃ n : Int, (#[Value.int .i64 0, .int .i64 ((L : Int) / 2), .int .i64 (L : Int), .int .i64 (z : Int)] : Array Value)[y4]? = some (.int .i64 n) ∧ 0 ≤ n ∧ n ≤ (L : Int) ∧ n = nV xs i jj kk ks.length (L : Int) := by
            clear HYY
            rcases y4 with _ | _ | _ | _ | y4
            ·exact ⟨0, rfl, by omega, by omega, hnv⟩
            ·exact ⟨(L : Int) / 2, rfl, by omega, by omega, hnv⟩
            ·exact ⟨(L : Int), rfl, by omega, by omega, hnv⟩
            ·exact ⟨(z : Int), rfl, by omega, by omega, hnv⟩
            ·omega
           have hcc := fun (W : World) => df (heap_alloc_new W (.cells #[.int .i64 0, .int .i64 ((L : Int) / 2), .int .i64 (L : Int), .int .i64 (z : Int)] 3 (0, 0))) y4 _ hn
           have hy0' : (0 : Int) ≤ (y4 : Int) := by omega
           have hy4' : (y4 : Int) < 4 := by omega
           have HN4 := Lib.hid hn
           have HNN := Lib.hid hnn
           clear hn hnn hnv
           go_wp2
           go_meet
           case rel => exact ⟨n, rfl, hn0, hnl, fun h => by omega, HNN.out, aO _ _⟩
          ·have n1 : ¬ (jj : Int) < (nk : Int) - 1 := by omega
           go_wp2
           go_meet
           case rel => exact ⟨(L : Int), rfl, l0, by omega, fun _ => rfl, by unfold nV; rw [if_neg (by have := HNK.out; omega)], Ext.refl _⟩
         case rest =>
          obtain ⟨n, rfl, hn0, hnL, hlast, hnv, hxc⟩ := hcut
          obtain ⟨n, rfl⟩ : ∃ n' : Nat, n = (n' : Int) := ⟨n.toNat, by omega⟩
          have HNV := Lib.hid hnv
          clear hnv
          have HLAST := Lib.hid hlast
          have HRBc := Lib.hid ((hxc.block R (Array.getElem?_eq_some_iff.1 HRB.out).1).trans HRB.out)
          have HOQc := Lib.hid (HOQ.out.ext hxc)
          have HKRc := Lib.hid (kZ HKR.out hxc)
          have HXc := Lib.hid (HX.out.trans hxc)
          have HRX := Lib.hid (HRD.out.ext (X2.out.trans HXc.out))
          clear hlast hxc HRB HOQ HKR HX
          go_wp2_with fail
          (with_reducible refine (yr _ xs _ _ HRX.out (by omega) (by omega) (by omega)).mono ?_)
          rintro e w4 ⟨⟨z1, rfl, hz1⟩, rfl⟩
          have HZ1 := Lib.hid hz1
          clear hz1
          go_wp2_with fail
          (with_reducible refine (gI _ (10000 - n + 1) _ _ (by omega) (by omega)).mono ?_)
          rintro e w4 ⟨z, rfl, hz, hzl, rfl⟩
          have HZ := Lib.hid hz
          clear hz
          have hz0 : (0 : Int) ≤ (z : Int) := by omega
          have hzl' : (z : Int) ≤ 10000 - (n : Int) := by omega
          go_wp2_with fail
          obtain ⟨WM, hWM⟩ : ∃ WM, WM = wc.alloc (.cells #[.int .i64 10000, .int .i64 (n : Int), .int .i64 ((n : Int) + (z : Int))] 3) := ⟨_, rfl⟩
          rw [← hWM]
          have HXM := Lib.hid (show Ext wc WM by rw [hWM]; exact aO _ _)
          have HHM := Lib.hid (show WM.heap[wc.heap.size]? = some (.cells #[.int .i64 10000, .int .i64 (n : Int), .int .i64 ((n : Int) + (z : Int))] 3 (0, 0)) by rw [hWM]; exact heap_alloc_new wc _)
          clear hWM
          (with_reducible refine (yr _ xs _ _ (HRX.out.ext HXM.out) (by omega) (by omega) (by omega)).mono ?_)
          rintro e w4 ⟨⟨z2, rfl, hz2⟩, rfl⟩
          have HZ2 := Lib.hid hz2
          clear hz2
          go_wp2_with fail
          (with_reducible refine (gI _ 3 3 _ rfl (by omega)).mono ?_)
          rintro e w4 ⟨y3, rfl, hyy, hy3, rfl⟩
          have HYY := Lib.hid hyy
          clear hyy
          have hmv := ZV (show n ≤ 10000 by omega) HZ1.out (by first | rfl | omega) HZ2.out (by first | rfl | omega) HZ.out HYY.out
          obtain ⟨mo, hmo, hmo1, hmo2, hmm⟩ : ∃ mo : Int, (#[Value.int .i64 10000, .int .i64 (n : Int), .int .i64 ((n : Int) + (z : Int))] : Array Value)[y3]? = some (.int .i64 mo) ∧ (n : Int) ≤ mo ∧ mo ≤ 10000 ∧ mo = mV xs i jj kk (n : Int) := by
           clear HYY
           rcases y3 with _ | _ | _ | y3
           ·exact ⟨10000, rfl, by omega, by omega, hmv⟩
           ·exact ⟨(n : Int), rfl, by omega, by omega, hmv⟩
           ·exact ⟨(n : Int) + (z : Int), rfl, by omega, by omega, hmv⟩
           ·omega
          have hcc := df HHM.out y3 _ hmo
          have hy0' : (0 : Int) ≤ (y3 : Int) := by omega
          have hy3' : (y3 : Int) < 3 := by omega
          have HRBm := Lib.hid ((HXM.out.block R (Array.getElem?_eq_some_iff.1 HRBc.out).1).trans HRBc.out)
          have HOQm := Lib.hid (HOQc.out.ext HXM.out)
          have HKRm := Lib.hid (kZ HKRc.out HXM.out)
          have HXm := Lib.hid (HXc.out.trans HXM.out)
          have HMM := Lib.hid hmm
          clear hmo hmm hmv HRBc HOQc HKRc HRX
          go_wp2
          clear hcc HHM
          have hjks : jj < ks.length := by have := HNK.out; omega
          go_loopw [18] (fun mi wr => ∃ (m : Nat) (vq : Value), mi = .int .i64 m ∧ m ≤ k ∧ wr.heap[R]? = some (.cells #[.slice (some ⟨gl, 0, none⟩) nl 2, vq] 36 (0, 0)) ∧ iM wr R vq (eO ks[jj] kk n mo ds m) qs ∧ wr.ownsRow R 9 1 (.slice Ak nk ck) nk (ks.map sv) ∧ Ext W2 wr) (fun mi _ => k - (intOf mi).toNat)
          case atStart => exact ⟨0, _, rfl, by omega, HRBm.out, by rw [D0]; exact HOQm.out, HKRm.out, HXm.out⟩
          case round =>
           obtain ⟨m, vq, rfl, hmk, hRb, hOQ, hkr, hx⟩ := hrel
           clear HRBm HOQm HKRm HXm HXc
           have hdk : ds.length = k := by rw [HG.out.gk.gi.gd.len]; exact HNP.out.symm
           have m0 : (0 : Int) ≤ (m : Int) := by omega
           by_cases hmlt : m < k
           ·have m1 : (m : Int) < (k : Int) := by omega
            have hmd : m < ds.length := by omega
            have hml : m < (eO ks[jj] kk n mo ds m).length := by rw [gL]; exact hmd
            have hsg := AD ks[jj] kk n mo ds m hmd hml
            have hcl : (eO ks[jj] kk n mo ds m)[m].caps.length = nl := by rw [hsg]; exact (HG.out.gk.gi.gd.each _ (List.getElem_mem hmd)).1
            obtain ⟨gq, cq', g, cc, ev, h1, hBg, hglt, ⟨cur, hcur⟩, hfz, e1, e2, hput⟩ := hOQ.put hml (k := kk) (by rw [hcl]; exact hlk)
            obtain ⟨q, hqm⟩ : ∃ q, qs[m]? = some q := ⟨qs[m]'(by rw [hOQ.len]; exact hml), zq _⟩
            have hqp := (hOQ.each m q hml hqm).1
            rw [hsg] at hqp
            have hrow := hOQ.row
            rw [ev] at hrow hRb
            have pc := hrow.cellAt (m * 3) (by omega)
            rw [(uf qs m q hqm).1] at pc
            rw [gL, hdk] at hRb
            rw [hcl] at h1
            obtain ⟨gk, rfl⟩ : ∃ gk, Ak = some ⟨gk, 0, none⟩ := by
             rcases hkr.2 with ⟨_, h0⟩ | ⟨gk, _, _, e, _⟩
             ·omega
             ·injection e with e; exact ⟨gk, e⟩
            have kc := hkr.cellAt jj (by omega)
            rw [List.getElem?_map, zq hjks] at kc
            obtain ⟨Kb, hKb⟩ : ∃ Kb : ByteArray, Kb = ⟨(ks[jj]).toArray⟩ := ⟨_, rfl⟩
            have kc : wr.cell? ⟨gk, jj, none⟩ = some (.string Kb) := by rw [hKb]; exact kc
            have HKB := Lib.hid (show Kb.data.toList = ks[jj] by rw [hKb])
            have r1 := df hRb 1 _ rfl
            have HQP := Lib.hid hqp
            have HOQ := Lib.hid hOQ
            have HRB := Lib.hid hRb
            have HKR := Lib.hid hkr
            have HX := Lib.hid hx
            have HPUT := Lib.hid (hput n mo)
            have HCUR := Lib.hid hcur
            have HEV := Lib.hid ev
            clear hKb hqp hrow hqm ev hOQ hRb hkr hx hput hcur hsg
            generalize ((eO ks[jj] kk n mo ds m)[m].caps[kk]'(by rw [hcl]; exact hlk)).1 = o1 at e1
            generalize ((eO ks[jj] kk n mo ds m)[m].caps[kk]'(by rw [hcl]; exact hlk)).2 = o2 at e2
            have HCL := Lib.hid hcl
            clear hcl hdk
            have hkn0 : (kk : Int) < (nl : Int) := by omega
            by_cases heq : q.p = Kb
            ·have q1 : (q.p.toList == Kb.toList) = true := by rw [heq]; simp
             have HEQ := Lib.hid (show ds[m].path = ks[jj] by rw [← HQP.out, heq, HKB.out])
             clear heq
             go_wp2
             refine nT Ext JM [(0, true), (1, true), (2, true), (3, true), (4, true), (5, true), (6, true), (7, true), (8, true), (9, true), (10, true)] (by kernel_rfl) (by kernel_rfl) (fun _ _ _ _ _ h => h) ?_
             repeat first | ((with_reducible refine sB ?_ ?_ ?_ ?_ (fun wk k1 => ?_) ?_); rotate_left 2; (rfl); (first | exact rm rfl | exact want_some rfl rfl rfl rfl); (go_simp; first | exact OkX.val | (have c0' := k1.cell r1; have c1' := k1.cell pc; have c2' := k1.cell kc; go_simp; exact OkX.val)); simp only [Act.put, List.setIfInBounds_toArray, List.set_cons_zero, List.set_cons_succ]) | ((with_reducible refine sched_skip ?_ ?_ ?_ ?_); rotate_left; (rfl); (exact want_not rfl rfl rfl rfl rfl); simp only [Act.put, List.setIfInBounds_toArray, List.set_cons_zero, List.set_cons_succ])
             refine w7 (fun wz k1 => ?_)
             have FZ := Lib.hid ((Ext.drew _).trans k1)
             clear k1
             have z1 := FZ.out.cell r1
             obtain ⟨gq2, cq2, g', cc', ev2, z2, hBg', hglt', ⟨cur', hcur'⟩, hfz', z3, z4, hput'⟩ := (HOQ.out.ext FZ.out).put hml (k := kk) (by rw [HCL.out]; exact hlk)
             have ee := HEV.out.symm.trans ev2
             injection ee with ee1 ee2 ee3
             injection ee1 with ee1
             injection ee1 with ee1
             subst ee1
             rw [HCL.out] at z2
             generalize ((eO ks[jj] kk n mo ds m)[m].caps[kk]'(by rw [HCL.out]; exact hlk)).1 = o1' at z3
             generalize ((eO ks[jj] kk n mo ds m)[m].caps[kk]'(by rw [HCL.out]; exact hlk)).2 = o2' at z4
             have HP2 := Lib.hid (hput' n mo)
             have HCUR2 := Lib.hid hcur'
             have f1 := hfz' (kk * 2)
             have f2 := hfz' (kk * 2 + 1)
             have hneR : R ≠ g' := fun e => by
              have h9 := (FZ.out.block R (Array.getElem?_eq_some_iff.1 HRB.out).1).trans HRB.out
              rw [e, hcur'] at h9
              injection h9 with h9
              injection h9 with _ h9
              exact absurd h9 (by decide)
             clear ee2 ee3 ev2 hput' hcur' hfz' pc kc r1 h1 e1 e2 hfz
             go_wp2
             go_roundw
             case rel =>
              refine ⟨m + 1, vq, by simp, by omega, ?_, ?_, ?_, ?_⟩
              ·rw [HP2.out.2.block R (by have := FZ.out.size; have := (Array.getElem?_eq_some_iff.1 HRB.out).1; omega) (fun e => by injection e with e; exact hneR e), FZ.out.block R (Array.getElem?_eq_some_iff.1 HRB.out).1, HEV.out, gL, HG.out.gk.gi.gd.len, ← HNP.out]
               exact HRB.out
              ·rw [Hr hmd HEQ.out]; exact HP2.out.1
              ·exact (kZ HKR.out FZ.out).kept HP2.out.2 (.inr (o0 (kZ HKR.out FZ.out) HCUR2.out (by decide)))
              ·exact (HX.out.trans FZ.out).trans' (cJ HP2.out.2 (HX.out.trans FZ.out).size (fun k e => by injection e with e; rw [← HRR.out, ← e]; exact hBg'))
             case measure => simp [intOf]; omega
            ·have q1 : (q.p.toList == Kb.toList) = false := YS heq
             have HNE := Lib.hid (show ds[m].path ≠ ks[jj] from fun e => heq (YT (by rw [HQP.out, e, HKB.out])))
             clear heq
             go_wp2
             refine nT Ext JM [(0, true), (1, true), (2, true), (3, true), (4, true), (5, true), (6, true), (7, true), (8, true), (9, true), (10, true)] (by kernel_rfl) (by kernel_rfl) (fun _ _ _ _ _ h => h) ?_
             repeat first | ((with_reducible refine sB ?_ ?_ ?_ ?_ (fun wk k1 => ?_) ?_); rotate_left 2; (rfl); (first | exact rm rfl | exact want_some rfl rfl rfl rfl); (go_simp; first | exact OkX.val | (have c0' := k1.cell r1; have c1' := k1.cell pc; have c2' := k1.cell kc; go_simp; exact OkX.val)); simp only [Act.put, List.setIfInBounds_toArray, List.set_cons_zero, List.set_cons_succ]) | ((with_reducible refine sched_skip ?_ ?_ ?_ ?_); rotate_left; (rfl); (exact want_not rfl rfl rfl rfl rfl); simp only [Act.put, List.setIfInBounds_toArray, List.set_cons_zero, List.set_cons_succ])
             refine w7 (fun wz k1 => ?_)
             have FZ := Lib.hid ((Ext.drew _).trans k1)
             clear k1
             go_wp2
             go_roundw
             case rel => exact ⟨m + 1, vq, by simp, by omega, by rw [HEV.out, gL, HG.out.gk.gi.gd.len, ← HNP.out]; exact (FZ.out.block R (Array.getElem?_eq_some_iff.1 HRB.out).1).trans HRB.out, by rw [Li hmd HNE.out]; exact HOQ.out.ext FZ.out, kZ HKR.out FZ.out, HX.out.trans FZ.out⟩
             case measure => simp [intOf]; omega
           ·obtain rfl : m = k := by omega
            have m1 : ¬ (m : Int) < (m : Int) := by omega
            have hvl : ∃ A' c', vq = .slice A' m c' := by
             obtain ⟨A', c', e, _, _⟩ := cD hOQ.row
             rw [gL, hdk] at e
             exact ⟨A', c', e⟩
            obtain ⟨A', c', rfl⟩ := hvl
            have hst : eO ks[jj] kk n mo ds m = iB ks[jj] kk n mo ds := by
             rw [← Hs, hdk]
            rw [hst] at hOQ
            have hr1 := df hRb 1 _ rfl
            have HRB := Lib.hid hRb
            have HOQ := Lib.hid hOQ
            have HKR := Lib.hid hkr
            have HX := Lib.hid hx
            have HGS := Lib.hid (show GJ nl ps i kk (jj + 1) ((L : Int) - (n : Int)) (iB ks[jj] kk n mo ds) by
             have hkd : cz ps[i] ds = ks := by rw [Ey, HG.out.gk.gi.gd.paths, HKS.out]
             have h := GJ.step (n := (n : Int)) (mo := mo) HG.out HNO.out hip (by rw [hkd]; exact hjks) hlk hn0 hnL (by rw [hkd, ← HNK.out]; exact HLAST.out) hmo1 hmo2
             simp only [hkd] at h
             exact h)
            have HES := Lib.hid (show E5 sh xs nl ps i ks kk (jj + 1) ((L : Int) - (n : Int)) (iB ks[jj] kk n mo ds) by
             have h := E5.step HE.out hjks (by have := HNK.out; omega) (by omega) hnl4 hlk l0 l1 (by omega) (fun q hq => (HG.out.gk.gi.gd.each q hq).1)
             rw [← HNV.out, ← HMM.out] at h
             exact h)
            clear hst hOQ hRb hkr hx hdk
            go_wp2
            go_roundw
            case rel => exact ⟨jj + 1, (L : Int) - (n : Int), _, _, _, rfl, by simp, by omega, HRB.out, HOQ.out, HGS.out, HES.out, HKR.out, HX.out⟩
            case measure => simp [intOf]; omega
        ·obtain rfl : jj = nk := by omega
         have j1 : ¬ (jj : Int) < (jj : Int) := by omega
         have HGE := Lib.hid (GJ.end HG.out (fun h => by rw [Ey, HG.out.gk.gi.gd.paths, ← HKS.out]; exact HNK.out))
         have HEE := Lib.hid (show E4 sh xs nl ps i ks (kk + 1) ds from E5.end (by have h := HE.out; rw [HNK.out] at h; exact h) (by have := HNK.out; omega))
         go_wp2
         go_roundw
         case rel => exact ⟨kk + 1, _, _, _, by simp, by omega, HRB.out, HOQ.out, HGE.out, HEE.out, HKR.out, HX.out⟩
         case measure => simp [intOf]; omega
      ·obtain rfl : kk = nl := by omega
       have kk1 : ¬ (kk : Int) < (kk : Int) := by omega
       have HGE := Lib.hid (GK.end HG.out)
       have HEE := Lib.hid (E4.end HE.out hnl4)
       go_wp2
       go_roundw
       case rel => exact ⟨i + 1, _, _, _, by simp, by omega, HRB.out, HOQ.out, HGE.out, HEE.out, HX.out⟩
       case measure => simp [intOf]; omega
    ·obtain rfl : i = k := by omega
     have i1 : ¬ (i : Int) < (i : Int) := by omega
     have HRES := Lib.hid ((HX.out.block w.heap.size (Array.getElem?_eq_some_iff.1 HR0.out).1).trans HR0.out)
     have HLBX := Lib.hid ((HX.out.block gl (Array.getElem?_eq_some_iff.1 HL2.out).1).trans HL2.out)
     have y0 := df HRES.out 0 _ rfl
     have y1 := df HRES.out 1 _ rfl
     have g0 := rS HRES.out 0
     have g1 := rS HRES.out 1
     have hRw : R ≠ w.heap.size := by have := HRR.out; have := HS2.out; omega
     go_wp2
     refine bodyPost_ret (by simp [results, Tryz.results28, go_sem, y0, y1]; try rfl) rfl ?_
     have hgr : wr.grownBy ((wr.setCell ⟨w.heap.size, 0, none⟩ (.slice (some ⟨gl, 0, none⟩) nl 2)).setCell ⟨w.heap.size, 1, none⟩ (.slice Aq i cq)) (some w.heap.size) :=
      ⟨rfl, rfl, rfl, by simp [World.setCell], fun k _ hk => (Below.heap_setCell _ _ _ _ (fun e => hk (by rw [e]))).trans (Below.heap_setCell _ _ _ _ (fun e => hk (by rw [e])))⟩
     have hdk := HDK.out
     refine ⟨nl, hnl5, hnl4, _, _, ds, qs, R, rfl, by have := HRR.out; have := HS2.out; omega, ?_, ?_, ?_, ?_, E3.end (by have h := HE.out; rw [HNP.out] at h; exact h) (by have := HNP.out; omega)⟩
     ·exact (Rz w.heap.size gl nl HLBX.out HGL.out hnl4).kept hgr (.inr (o0 (Rz w.heap.size gl nl HLBX.out HGL.out hnl4) HRES.out (by decide)))
     ·have h := HOQ.out.kept hgr HRES.out (by decide) (by decide)
      rw [hdk] at h
      exact h
     ·have e : (sh % 5).toNat = y := by have := HY.out; omega
      rw [e, ← HPS.out, ← HNP.out]
      exact HG.out
     ·exact yM (yM (X2.out.trans HX.out) (Nat.le_refl _) _) (Nat.le_refl _) _
def bh (oC : Int) (v_n : Int) : Option (Int) :=
 (CC oC v_n).bind fun b1 => let v_k : Int := b1
 (if (decide (v_k < 0)) = true then
 let v_k : Int := (i64.wrap (v_k + v_n))
 some v_k
 else
 some v_k).bind fun j2 => let v_k := j2
 some v_k
def nv (v_x : aH) : Option (Bool) :=
 (if (decide ((v_x.fNs.length : Int) ≤ 30)) = true then some (decide ((v_x.mg.length : Int) ≤ 80)) else some false).bind fun q1 => some q1
def vU (v_n : Int) : Option (ax) :=
 (bh v_n 5).bind fun c1 => (av ([(⟨1, 1⟩ : ax), (⟨2, 1⟩ : ax), (⟨4, 4⟩ : ax), (⟨3, 2⟩ : ax), (⟨1, 3⟩ : ax)] : (List ax)) c1).bind fun b2 => some b2
def kh (v_c : aw) (st : (List ByteArray) × Int) : Option (((List ByteArray) × Int) ⊕ (((List ByteArray) × Int))) :=
 let v_l := st.1
 let v_i := st.2
 if (decide (v_i < (v_c.ae.length : Int))) = true then
 (av v_c.ae v_i).bind fun b1 => (jV v_c b1.aF).bind fun c2 => if c2 = true then
 (av v_c.ae v_i).bind fun b3 => (aU v_l [b3.aF]).bind fun b4 => let v_l : (List ByteArray) := b4
 let v_i : Int := (i64.wrap (v_i + 1))
 some (.inl (v_l, v_i))
 else
 let v_i : Int := (i64.wrap (v_i + 1))
 some (.inl (v_l, v_i))
 else
 some (.inr (v_l, v_i))
def vV (v_c : aw) : Option ((List ByteArray)) :=
 let v_l : (List ByteArray) := []
 let v_i : Int := 0
 (ah (kh v_c) ab (v_l, v_i)).bind fun r5 =>
 let v_l := r5.1
 let v_i := r5.2
 some v_l
def fM (v_s : aa) (v_p : aq) (v_a : aP) (st : aJ × Int) : Option ((aJ × Int) ⊕ ((aJ × Int))) :=
 let v_x := st.1
 let v_i := st.2
 if (decide (v_i < (v_s.ac.length : Int))) = true then
 (av v_s.ac v_i).bind fun b18 => (if (b18.bC == v_p.fId) = true then (bh (i64.wrap (v_a.fD + v_i)) 11).bind fun c19 => some (c19 == 10) else some false).bind fun q20 => if q20 = true then
 (av v_s.ac v_i).bind fun b21 => (aU v_x.fW [b21.fId]).bind fun b22 => let v_x : aJ := { v_x with fW := b22 }
 let v_i : Int := (i64.wrap (v_i + 1))
 some (.inl (v_x, v_i))
 else
 let v_i : Int := (i64.wrap (v_i + 1))
 some (.inl (v_x, v_i))
 else
 some (.inr (v_x, v_i))
def nw (v_a : aP) (v_s : aa) : Option (aJ) :=
 let v_x : aJ := (⟨5, 0, 0, 0, ⟨#[]⟩, aX.zero, aq.zero, [], [], a7.zero⟩ : aJ)
 if ((v_s.ai.length : Int) == 0) = true then
 some v_x
 else
 (bh v_a.fA (v_s.ai.length : Int)).bind fun c1 => (av v_s.ai c1).bind fun b2 => let v_p : aq := b2
 (bh v_a.fB 8).bind fun c3 => let t4 : Int := v_p.fId
 let t5 : Int := (i64.wrap ((i64.wrap (v_p.ce + 1)) - (i64.wrap (Int.tdiv c3 6))))
 let v_x : aJ := { v_x with fId := t4 }
 let v_x : aJ := { v_x with ce := t5 }
 (if (decide ((Int.tmod v_a.fC 3) > 0)) = true then
 (bh v_a.fB 5).bind fun c7 => (bh v_a.fC (v_s.bN.ak.length : Int)).bind fun c8 => (vU v_a.fD).bind fun c9 => (bh v_a.fD 7).bind fun c10 => let v_k : aL := (⟨c7, c8, c9, c10, (-1), (-1), 0⟩ : aL)
 (if ((Int.tmod v_a.fD 4) == 1) = true then
 (bh v_a.fC 3).bind fun c12 => let v_k : aL := { v_k with eR := c12 }
 some (v_k, v_x)
 else
 some (v_k, v_x)).bind fun j11 => let v_k := j11.1
 let v_x := j11.2
 (if ((Int.tmod v_a.fD 4) == 2) = true then
 (bh v_a.fC 3).bind fun c14 => (bh v_a.fB 6).bind fun c15 => let t16 : Int := c14
 let t17 : Int := c15
 let v_k : aL := { v_k with eR := t16 }
 let v_k : aL := { v_k with bG := t17 }
 some (v_k, v_x)
 else
 some (v_k, v_x)).bind fun j13 => let v_k := j13.1
 let v_x := j13.2
 let v_x : aJ := { v_x with bE := ([v_k] : (List aL)) }
 some v_x
 else
 some v_x).bind fun j6 => let v_x := j6
 let v_i : Int := 0
 (ah (fM v_s v_p v_a) ab (v_x, v_i)).bind fun r23 =>
 let v_x := r23.1
 let v_i := r23.2
 some v_x
def gU (v_s : aa) (v_a : aP) (bA : Int) (st : aJ × Int) : Option ((aJ × Int) ⊕ ((aJ × Int))) :=
 let v_x := st.1
 let v_i := st.2
 if (decide (v_i < (v_s.aB.length : Int))) = true then
 (av v_s.aB v_i).bind fun b14 => if (b14.fId == bA) = true then
 (av v_s.aB v_i).bind fun b15 => (bh v_a.fB 8).bind fun c16 => let v_x : aJ := { v_x with ce := (i64.wrap ((i64.wrap (b15.ce + 1)) - (i64.wrap (Int.tdiv c16 6)))) }
 let v_i : Int := (i64.wrap (v_i + 1))
 some (.inl (v_x, v_i))
 else
 let v_i : Int := (i64.wrap (v_i + 1))
 some (.inl (v_x, v_i))
 else
 some (.inr (v_x, v_i))
def gS (v_s : aa) (bA : Int) (v_a : aP) (st : aJ × Int) : Option ((aJ × Int) ⊕ ((aJ × Int))) :=
 let v_x := st.1
 let aI := st.2
 if (decide (aI < (v_s.ac.length : Int))) = true then
 (av v_s.ac aI).bind fun b18 => (if (b18.bG == bA) = true then (bh (i64.wrap (v_a.fC + aI)) 9).bind fun c19 => some (c19 == 8) else some false).bind fun q20 => if q20 = true then
 (av v_s.ac aI).bind fun b21 => (aU v_x.fW [b21.fId]).bind fun b22 => let v_x : aJ := { v_x with fW := b22 }
 let aI : Int := (i64.wrap (aI + 1))
 some (.inl (v_x, aI))
 else
 let aI : Int := (i64.wrap (aI + 1))
 some (.inl (v_x, aI))
 else
 some (.inr (v_x, aI))
def gV (v_a : aP) (v_s : aa) : Option (aJ) :=
 (bh v_a.fA 6).bind fun c1 => let t2 : Int := c1
 let t3 : Int := (v_s.bN.ak.length : Int)
 let bA : Int := t2
 let rn : Int := t3
 (vV v_s.bN).bind fun c4 => let jL : (List ByteArray) := c4
 (bh v_a.fB 4).bind fun c5 => let v_x : aJ := (⟨0, bA, 0, (i64.wrap (1 + c5)), ⟨#[]⟩, aX.zero, aq.zero, [], [], a7.zero⟩ : aJ)
 (bh v_a.g6 16).bind fun c6 => ((if (c6 == 0) = true then some true else some (c6 == 1))).bind fun q7 => (if q7 = true then
 let v_x : aJ := { v_x with g6 := 2 }
 (bh v_a.fB rn).bind fun c9 => (bh v_a.fC 3).bind fun c10 => (bh v_a.fD 12).bind fun c11 => (bh v_a.fD 8).bind fun c12 => let v_x : aJ := { v_x with bG := (⟨bA, c9, c10, (⟨(i64.wrap (4 + c11)), (i64.wrap (4 + c12))⟩ : ax), 0, 0, false⟩ : aX) }
 some v_x
 else
 ((if (c6 == 2) = true then some true else if (c6 == 3) = true then some true else if (c6 == 4) = true then some true else some (c6 == 5))).bind fun q13 => if q13 = true then
 let v_x : aJ := { v_x with g6 := 3 }
 let v_i : Int := 0
 (ah (gU v_s v_a bA) ab (v_x, v_i)).bind fun r17 =>
 let v_x := r17.1
 let v_i := r17.2
 let aI : Int := 0
 (ah (gS v_s bA v_a) ab (v_x, aI)).bind fun r23 =>
 let v_x := r23.1
 let aI := r23.2
 some v_x
 else
 ((if (c6 == 6) = true then some true else some (c6 == 7))).bind fun q24 => if q24 = true then
 let v_x : aJ := { v_x with g6 := 4 }
 (bh v_a.fA 20).bind fun c25 => (bh v_a.fB (jL.length : Int)).bind fun c26 => (av jL c26).bind fun b27 => (bh v_a.fC 3).bind fun c28 => (bh v_a.fD 3).bind fun c29 => (vU (i64.wrap (Int.tdiv v_a.fD 3))).bind fun c30 => let v_x : aJ := { v_x with bC := (⟨c25, 0, b27, c28, c29, c30, [], 0, 0, [], [], [], []⟩ : aq) }
 some v_x
 else
 ((if (c6 == 8) = true then some true else if (c6 == 9) = true then some true else some (c6 == 10))).bind fun q31 => if q31 = true then
 (nw v_a v_s).bind fun c32 => let v_x : aJ := c32
 some v_x
 else
 if (c6 == 11) = true then
 (bh v_a.fB 2).bind fun c33 => (av ([6, 7] : (List Int)) c33).bind fun b34 => let v_x : aJ := { v_x with g6 := b34 }
 (bh v_a.fA 20).bind fun c35 => let v_x : aJ := { v_x with fId := c35 }
 some v_x
 else
 ((if (c6 == 12) = true then some true else some (c6 == 13))).bind fun q36 => if q36 = true then
 let v_x : aJ := { v_x with g6 := 8 }
 (bh v_a.fA 5).bind fun c37 => let v_x : aJ := { v_x with fN := (i64.wrap (1 + c37)) }
 some v_x
 else
 if (c6 == 14) = true then
 (bh v_a.fD 3).bind fun c38 => (av ([9, 9, 10] : (List Int)) c38).bind fun b39 => let v_x : aJ := { v_x with g6 := b39 }
 (bh v_a.fB rn).bind fun c40 => (bh v_a.fC 5).bind fun c41 => (vU v_a.fD).bind fun c42 => let v_x : aJ := { v_x with pv := (⟨bA, c40, (i64.wrap (v_s.bW + c41)), (i64.wrap (v_s.bW + 20)), c42⟩ : a7) }
 (bh v_a.fC 12).bind fun c43 => let v_x : aJ := { v_x with fN := (i64.wrap (1 + c43)) }
 some v_x
 else
 if (c6 == 15) = true then
 (bh v_a.fA 3).bind fun c44 => (av ([11, 1, 1] : (List Int)) c44).bind fun b45 => let v_x : aJ := { v_x with g6 := b45 }
 (fO v_a.fB ([v_a.fC, v_a.fD] : (List Int))).bind fun c46 => (za c46).bind fun c47 => let v_x : aJ := { v_x with Me := c47 }
 some v_x
 else
 some v_x).bind fun j8 => let v_x := j8
 some v_x
def eM (v_x : aH) (st : aa × Int) : Option ((aa × Int) ⊕ ((aa × Int))) :=
 let v_s := st.1
 let v_i := st.2
 if (decide (v_i < (v_x.mg.length : Int))) = true then
 (av v_x.mg v_i).bind fun b6 => (gV b6 v_s).bind fun c7 => (sd v_s c7).bind fun c8 => let v_s : aa := c8.1
 let v_i : Int := (i64.wrap (v_i + 1))
 some (.inl (v_s, v_i))
 else
 some (.inr (v_s, v_i))
def dJ (v_x : aH) : Option (aa) :=
 (zx).bind fun c1 => let v_s : aa := c1
 (fO v_x.JL v_x.fNs).bind fun c2 => (za c2).bind fun c3 => (sd v_s (⟨1, 0, 0, 0, c3, aX.zero, aq.zero, [], [], a7.zero⟩ : aJ)).bind fun c4 => let v_t : aa := c4.1
 let v_o : br := c4.2
 (if (v_o.Zv == 0) = true then
 let v_s : aa := v_t
 some v_s
 else
 some v_s).bind fun j5 => let v_s := j5
 let v_i : Int := 0
 (ah (eM v_x) ab (v_s, v_i)).bind fun r9 =>
 let v_s := r9.1
 let v_i := r9.2
 some v_s
def I7 : Ent := ⟨[.lf (.int .i64), .lf (.sl (.int .i64))], [.ag 5], fun x => fO x.1 x.2.1⟩
def Cy : Ent := ⟨[.lf (.int .i64), .lf (.int .i64)], [.lf (.int .i64)], fun x => bh x.1 x.2.1⟩
theorem vk : EOk prog 57 Cy := aE (.s .n (.s .n (.s (.s .n (.j [.leaf 5 (.int .i64)] .n)) .n))) [] [] [] .nil Tryz.mixed Tryz.func57
def Cz : Ent := ⟨[.ag 5], [.lf (.sl (.str))], fun x => vV x.1⟩
theorem NR : EOk prog 10 Cz := aE (.s .n (.s .n (.s (.s .n (.s (.lp [.row 3 3 9 1 (.str), .leaf 4 (.int .i64)] 0 false .n) .n)) .n))) [(5, [27, 28])] [] [] (.cons Bw .nil) Tryz.mixed Tryz.func10
def I6 : Ent := ⟨[.lf (.int .i64)], [.ag 0], fun x => vU x.1⟩
theorem I5 : EOk prog 58 I6 := aE .n [] [2] [] (.cons vk .nil) Tryz.mixed Tryz.func58
def tP : Ent := ⟨[.ag 15, .ag 12], [.ag 9], fun x => nw x.1 x.2.1⟩
theorem Dd : EOk prog 59 tP := aE (.s .n (.s .n (.s .n (.s .n (.s .n (.s (.s .n (.j [.box 5 76 9 [(28, 1128, 3, 1, .int .i64)]] (.s (.s .n (.s (.s .n (.j [.box 7 123 1 [], .box 5 76 9 [(28, 1128, 3, 1, .int .i64)]] .n)) (.s (.s .n (.j [.box 7 123 1 [], .box 5 76 9 [(28, 1128, 3, 1, .int .i64)]] .n)) .n))) .n))) (.s (.s .n (.s (.lp [.box 5 76 9 [(28, 1128, 3, 1, .int .i64)], .leaf 8 (.int .i64)] 0 false .n) .n)) .n))))))) [(4, [79, 113, 114]), (5, [79, 113, 114]), (7, [79, 113, 114]), (9, [79, 113, 114]), (11, [79, 113, 114]), (16, [79, 113, 114])] [4] [] (.cons vk (.cons I5 .nil)) Tryz.mixed Tryz.func59
def GD : Ent := ⟨[.ag 15, .ag 12], [.ag 9], fun x => gV x.1 x.2.1⟩
theorem GB (x : cp [.ag 15, .ag 12]) : fS ⟨prog, [(57, Cy), (10, Cz), (58, I6), (59, tP), (28, I7), (27, Bz)], 230, [.ag 9], [.cell 4 76], [(1, [118, 119, 157, 179, 212, 225]), (2, [118, 119, 157, 179, 212, 225]), (3, [118, 119, 157, 179, 212, 225]), (4, [118, 119, 157, 179, 212, 225]), (8, [118, 119, 157, 179, 212, 225]), (18, [118, 119, 157, 179, 212, 225]), (22, [118, 119, 157, 179, 212, 225]), (27, [118, 119, 157, 179, 212, 225]), (31, [118, 119, 157, 179, 212, 225]), (33, [118, 119, 179, 212, 225]), (34, [118, 119, 157, 179, 212, 225]), (38, [118, 119, 157, 179, 212, 225]), (40, [118, 119, 157, 212, 225]), (41, [118, 119, 157, 179, 212, 225]), (42, [118, 119, 157, 179, 212, 225]), (44, [118, 119, 157, 179, 225]), (45, [118, 119, 157, 179, 212])], [4], []⟩ ((Tryz.f29).body.getD .skip) (.s (.n) (.s (.n) (.s (.n) (.s (.n) (.s (.s (.n) (.s (.s (.s (.n) (.j [.leaf 30 (.bool)] (.n))) (.j [.box 8 76 9 []] (.s (.n) (.s (.s (.n) (.j [.leaf 53 (.bool)] (.n))) (.s (.s (.n) (.s (.s (.n) (.s (.lp [.box 8 76 9 [(28, 1188, 3, 1, .int .i64)], .leaf 9 (.int .i64)] 1 false (.n)) .n)) (.s (.n) (.s (.lp [.box 8 76 9 [(28, 1188, 3, 1, .int .i64)], .leaf 10 (.int .i64)] 3 false (.n)) .n)))) (.s (.s (.n) (.j [.leaf 121 (.bool)] (.n))) (.s (.n) (.s (.s (.n) (.j [.leaf 148 (.bool)] (.n))) (.s (.n) (.s (.n) (.s (.n) (.s (.s (.n) (.j [.leaf 168 (.bool)] (.n))) (.n))))))))))))) .n)) (.n)))))) [.ag 15, .ag 12] x = gV x.1 x.2.1 := by kernel_rfl
theorem GC (hG : bK prog 28 [.lf (.int .i64), .lf (.sl (.int .i64))] [.ag 5] (fun x => fO x.1 x.2.1)) : bK prog 29 [.ag 15, .ag 12] [.ag 9] (fun x => gV x.1 x.2.1) := cd (n := 230) (.cons (vk) (.cons (NR) (.cons (I5) (.cons (Dd) (.cons hG (.cons (IX) (.nil))))))) Tryz.mixed Tryz.func29 rfl (by kernel_rfl) rfl rfl rfl (GB)
def tO : Ent := ⟨[.ag 16], [.lf (.bool)], fun x => nv x.1⟩
theorem Dc : EOk prog 7 tO := aE .n [] [] [] .nil Tryz.mixed Tryz.func7
theorem Ao (x : cp [.ag 16]) : fS ⟨prog, [(25, vM), (28, I7), (27, Bz), (26, FU), (29, GD)], 44, [.ag 12], [.cell 2 43], [], [2], []⟩ ((Tryz.f9).body.getD .skip) (.s (.n) (.s (.n) (.s (.n) (.s (.s (.n) (.j [.box 3 43 12 []] (.n))) (.s (.s (.n) (.s (.lp [.box 3 43 12 [], .leaf 6 (.int .i64)] 0 false (.n)) .n)) (.n)))))) [.ag 16] x = dJ x.1 := by kernel_rfl
theorem Ap (hG : bK prog 28 [.lf (.int .i64), .lf (.sl (.int .i64))] [.ag 5] (fun x => fO x.1 x.2.1)) : bK prog 9 [.ag 16] [.ag 12] (fun x => dJ x.1) := cd (n := 44) (.cons (BA) (.cons hG (.cons (IX) (.cons (P7) (.cons (GC hG) (.nil)))))) Tryz.mixed Tryz.func9 rfl (by kernel_rfl) rfl rfl rfl (Ao)
theorem Ed {w : World} {B e k n : Nat} {v : Value} {us : List Value} {es : List (List D)} {F : Nat → Prop} (h : w.ownsRow B e k v n us) (hn : n = es.length) (hk : ∀ x ∈ es, x.length = k) (hl : us.length = es.flatten.length) (hF : ∀ g, B ≤ g → g < w.heap.size → F g) (hr : ∀ (j : Nat) u d, us[j]? = some u → es.flatten[j]? = some d → ej w F u d) : ej w F v (.sl es) := by
 have h' := h
 rcases h.2 with ⟨rfl, h0⟩ | ⟨g, cap, cur, rfl, hb, hg, hle, hmx, _⟩
 ·have : es = [] := List.eq_nil_of_length_eq_zero (by omega)
  subst this
  exact .sl none 0 0 0 [] (fun _ => undef) rfl (Nat.le_refl _) (by simp [maxLen]) (by simp) (by omega) (fun _ => rfl) (by simp) (by simp)
 ·have hlt := (Array.getElem?_eq_some_iff.1 hg).1
  refine .sl (some ⟨g, 0, none⟩) n cap k es (fun j => (us[j]?).getD undef) hn hle hmx hk (fun _ => ⟨_, rfl, hF g hb hlt⟩) (fun h => by cases h) (fun a j d ha hj => ?_) (fun j d hj => ?_)
  ·injection ha with ha
   subst ha
   have hj2 : j < us.length := by have := (zg.1 hj).1; omega
   have hadd : (⟨g, 0, none⟩ : Addr).add j = ⟨g, j, none⟩ := by unfold Addr.add; split <;> simp_all
   have hc := h'.cellAt j (by have := h'.1; omega)
   rw [hadd, hc, zq hj2]
   rfl
  ·have hj2 : j < us.length := by have := (zg.1 hj).1; omega
   exact hr j _ d (by rw [zq hj2]; rfl) hj
theorem HQ {w : World} {F : Nat → Prop} : ∀ (l : List Tx) (j : Nat) (u : Value) (d : D), (l.map sv)[j]? = some u → (((l.map bT).map sD).flatten)[j]? = some d → ej w F u d
 | [], j, u, d, h, _ => by simp at h
 | x :: l, 0, u, d, h1, h2 => by
  simp [sD] at h1 h2
  subst h1
  subst h2
  exact .v _ rfl
 | x :: l, j + 1, u, d, h1, h2 => HQ l j u d (by simpa using h1) (by simpa [sD] using h2)
theorem IH {w : World} {F : Nat → Prop} : ∀ (l : List (Int × Int)) (j : Nat) (u : Value) (d : D), (cf l)[j]? = some u → (((l.map gP).map ei.d).flatten)[j]? = some d → ej w F u d
 | [], j, u, d, h, _ => by simp [cf] at h
 | x :: l, 0, u, d, h1, h2 => by
  simp [cf, ei.d, gP] at h1 h2
  subst h1
  subst h2
  exact .v _ rfl
 | x :: l, 1, u, d, h1, h2 => by
  simp [cf, ei.d, gP] at h1 h2
  subst h1
  subst h2
  exact .v _ rfl
 | x :: l, j + 2, u, d, h1, h2 => IH l j u d (by simpa [cf] using h1) (by simpa [ei.d] using h2)
theorem MG : ∀ l : List (Int × Int), (cf l).length = (((l.map gP).map ei.d).flatten).length
 | [] => rfl
 | x :: l => by
  have := MG l
  simp [cf, ei.d] at this ⊢
  omega
theorem Rg {w : World} {B : Nat} {F : Nat → Prop} (hF : ∀ g, B ≤ g → g < w.heap.size → F g) : ∀ (qs : List QC) (ds : List QD), qs.length = ds.length → (∀ (k : Nat) (q : QC) (h : k < ds.length), qs[k]? = some q → wR w B q ds[k]) → ∀ (j : Nat) (u : Value) (d : D), (fT qs)[j]? = some u → (((ds.map gQ).map az.d).flatten)[j]? = some d → ej w F u d
 | [], _, _, _, j, u, d, h, _ => by simp [fT] at h
 | q :: qs, [], hl, _, _, _, _, _, _ => by simp at hl
 | q :: qs, x :: ds, hl, he, j, u, d, h1, h2 => by
  obtain ⟨p1, p2, p3, p4⟩ := he 0 q (by simp) rfl
  dsimp only [List.getElem_cons_zero] at p1 p2 p3 p4
  match j with
  | 0 =>
   simp [fT, Ls, az.d, gQ] at h1 h2
   subst h1
   subst h2
   have : q.p = bT x.path := YT (by rw [p1]; simp [bT])
   rw [this]
   exact .v _ rfl
  | 1 =>
   simp [fT, Ls, az.d, gQ] at h1 h2
   subst h1
   subst h2
   have := Ed (F := F) p4 (es := (x.caps.map gP).map ei.d) (by rw [p3]; simp) (fun y hy => by obtain ⟨z, _, rfl⟩ := List.mem_map.1 hy; rfl) (MG _) hF (IH x.caps)
   simpa using this
  | 2 =>
   simp [fT, Ls, az.d, gQ] at h1 h2
   subst h1
   subst h2
   rw [p2]
   exact .v _ rfl
  | j + 3 =>
   refine Rg hF qs ds (by simpa using hl) (fun k q' h hq => ?_) j u d (by simpa [fT, Ls] using h1) (by simpa [az.d] using h2)
   have := he (k + 1) q' (by simpa using h) (by simpa using hq)
   simpa using this
theorem Vd : ∀ (qs : List QC) (ds : List QD), qs.length = ds.length → (fT qs).length = (((ds.map gQ).map az.d).flatten).length
 | [], [], _ => rfl
 | [], _ :: _, h => by simp at h
 | _ :: _, [], h => by simp at h
 | q :: qs, d :: ds, h => by
  have := Vd qs ds (by simpa using h)
  simp [fT, Ls, az.d] at this ⊢
  omega
theorem RN : ∀ xs : List Int, (xs.map iD).flatten = xs.map (fun n => D.v (.int .i64 n))
 | [] => rfl
 | x :: xs => by
  show [D.v (.int .i64 x)] ++ (xs.map iD).flatten = _
  rw [RN xs]
  rfl
theorem XF {w : World} {G : Nat → Prop} {v : Value} {xs : List Int} (hG : ∀ g, G g → g < w.heap.size) (h : ej w G v (.sl (xs.map iD))) : Rd w v (xs.map (Value.int .i64)) ∧ xs.length ≤ 9223372036854775807 := by
 have hfl := RN xs
 cases h with
 | sl A n c k es us hn hc hm hk hA hA0 hcell hrep =>
  have hn2 : n = (xs.map (Value.int .i64)).length := by rw [hn]; simp
  refine ⟨⟨A, c, by rw [hn2], by omega, hm, fun h0 => ?_⟩, by have h9 : maxLen = 9223372036854775807 := (by decide); rw [List.length_map] at hn2; omega⟩
  obtain ⟨a, ha, hGa⟩ := hA (by omega)
  refine ⟨a, ha, hG _ hGa, fun j u hj => ?_⟩
  rw [List.getElem?_map] at hj
  cases hx : xs[j]? with
  | none => rw [hx] at hj; cases hj
  | some x =>
   rw [hx] at hj
   injection hj with hj
   subst hj
   have hd : (xs.map iD).flatten[j]? = some (.v (.int .i64 x)) := by rw [hfl, List.getElem?_map, hx]; rfl
   have h1 := hcell a j _ ha hd
   have h2 := hrep j _ hd
   rw [h1]
   generalize us j = y at h2
   cases h2 with
   | v y hy => rfl
theorem HM : ∀ l : List Tx, (l.map sv).length = (((l.map bT).map sD).flatten).length
 | [] => rfl
 | x :: l => by
  simp only [List.map_cons, List.flatten_cons, List.length_append, List.length_cons]
  rw [HM l]
  show _ = 1 + _
  omega
theorem UB : bK prog 28 [.lf (.int .i64), .lf (.sl (.int .i64))] [.ag 5] (fun x => fO x.1 x.2.1) := by
 rintro ⟨sh, xs, ⟨⟩⟩ z hF
 change Int at sh
 change List Int at xs
 refine ⟨fun _ => ⟨by kernel_rfl, fun w G vs hG hr => ?_⟩, fun h => (by cases h)⟩
 have hvl : vs.toList.length = 2 := hr.len
 obtain ⟨a, v, hv⟩ : ∃ a v, vs = #[a, v] := by
  match hv : vs.toList, hvl with
  | [a, v], _ => exact ⟨a, v, by apply Array.ext'; simpa using hv⟩
 subst hv
 have ha : a = .int .i64 sh := (aK.vv (hr.rep 0 a _ rfl rfl)).1
 subst ha
 have hd : ej w G v (.sl (xs.map iD)) := by
  have h := hr.rep 1 v _ rfl rfl
  cases h with
  | d _ _ h => exact h
 obtain ⟨hrd, hlen⟩ := XF hG hd
 refine (UG sh v xs w hrd hlen).mono ?_
 rintro e w' ⟨nl, h1, h2, vl, vq, ds, qs, B, rfl, hB, hl, hq, hgi, hx, he⟩
 have hz : z = gC nl ds := by
  have : fO sh xs = some z := hF
  rw [he] at this
  injection this with this
  exact this.symm
 subst hz
 refine ⟨_, fun g => G g ∨ (w.heap.size ≤ g ∧ g < w'.heap.size), rfl, hx, fun g hg => .inl hg, fun g hg => hg.elim (fun h => Nat.lt_of_lt_of_le (hG g h) hx.size) (fun h => h.2), fun g hg => hg.elim .inl (fun h => .inr h.1), ?_⟩
 have dl : ej w' (fun g => G g ∨ (w.heap.size ≤ g ∧ g < w'.heap.size)) vl (.sl (((CF nl).map bT).map sD)) :=
  Ed hl (by simp [qy h2]) (fun x hx => by obtain ⟨y, _, rfl⟩ := List.mem_map.1 hx; rfl) (HM _) (fun g h3 h4 => .inr ⟨h3, h4⟩) (HQ _)
 have dq : ej w' (fun g => G g ∨ (w.heap.size ≤ g ∧ g < w'.heap.size)) vq (.sl ((ds.map gQ).map az.d)) :=
  Ed hq.row (by simp) (fun x hx => by obtain ⟨y, _, rfl⟩ := List.mem_map.1 hx; rfl) (Vd _ _ hq.len) (fun g h3 h4 => .inr ⟨Nat.le_trans hB h3, h4⟩) (Rg (fun g h3 h4 => .inr ⟨Nat.le_trans hB h3, h4⟩) qs ds hq.len hq.each)
 show aK ρNone dP w' _ _ (.ag [.d (.sl (((CF nl).map bT).map sD)), .d (.sl ((ds.map gQ).map az.d))])
 refine .ag #[vl, vq] _ rfl (fun x hx => ?_) (fun j x c h3 h4 => ?_)
 ·simp at hx
  rcases hx with rfl | rfl
  ·exact dl.one
  ·exact dq.one
 ·match j with
  | 0 =>
   obtain rfl : _ = x := by simpa using h3
   cases h4
   exact .d _ _ dl
  | 1 =>
   obtain rfl : _ = x := by simpa using h3
   cases h4
   exact .d _ _ dq
  | j + 2 => simp at h3
noncomputable def W6 : Ent := ⟨[.ag 16], [.ag 12], fun x => dJ x.1⟩
theorem W5 : bK prog 9 [.ag 16] [.ag 12] (fun x => dJ x.1) := Ap UB
noncomputable def tv (x : cp [.lf (.int .i64), .lf (.int .i64)]) : Option (a8 [.lf (.int .i64)]) := fS ⟨prog, [], 15, [.lf (.int .i64)], [.tmp 4], [], [], []⟩ ((Tryz.f11).body.getD .skip) (.n) [.lf (.int .i64), .lf (.int .i64)] x
noncomputable def KX : Ent := ⟨[.lf (.int .i64), .lf (.int .i64)], [.lf (.int .i64)], tv⟩
theorem KW : bK prog 11 [.lf (.int .i64), .lf (.int .i64)] [.lf (.int .i64)] tv := cd (n := 15) (.nil) Tryz.mixed Tryz.func11 rfl (by kernel_rfl) rfl rfl rfl (fun _ => rfl)
noncomputable def xW (x : cp [.lf (.sl (.int .i64)), .lf (.sl (.int .i64))]) : Option (a8 [.lf (.bool)]) := fS ⟨prog, [], 26, [.lf (.bool)], [.tmp 4], [], [], []⟩ ((Tryz.f22).body.getD .skip) (.s (.n) (.s (.n) (.s (.s (.n) (.s (.lp [.leaf 4 (.bool), .leaf 5 (.int .i64)] 0 true (.n)) .n)) (.n)))) [.lf (.sl (.int .i64)), .lf (.sl (.int .i64))] x
noncomputable def QR : Ent := ⟨[.lf (.sl (.int .i64)), .lf (.sl (.int .i64))], [.lf (.bool)], xW⟩
theorem QQ : bK prog 22 [.lf (.sl (.int .i64)), .lf (.sl (.int .i64))] [.lf (.bool)] xW := cd (n := 26) (.nil) Tryz.mixed Tryz.func22 rfl (by kernel_rfl) rfl rfl rfl (fun _ => rfl)
noncomputable def vm (x : cp []) : Option (a8 [.lf (.bool)]) := fS ⟨prog, [(25, vM), (12, C9), (15, wQ), (18, rg)], 37, [.lf (.bool)], [.tmp 0], [], [], []⟩ ((Tryz.f6).body.getD .skip) (.n) [] x
noncomputable def NU : Ent := ⟨[], [.lf (.bool)], vm⟩
theorem NT : bK prog 6 [] [.lf (.bool)] vm := cd (n := 37) (.cons (BA) (.cons (C8) (.cons (wP) (.cons (rc) (.nil))))) Tryz.mixed Tryz.func6 rfl (by kernel_rfl) rfl rfl rfl (fun _ => rfl)
noncomputable def BL (x : cp [.ag 2, .ag 2]) : Option (a8 [.lf (.bool)]) := fS ⟨prog, [(25, vM), (14, xK)], 18, [.lf (.bool)], [.tmp 4], [], [], []⟩ ((Tryz.f17).body.getD .skip) (.n) [.ag 2, .ag 2] x
noncomputable def UD : Ent := ⟨[.ag 2, .ag 2], [.lf (.bool)], BL⟩
theorem UC : bK prog 17 [.ag 2, .ag 2] [.lf (.bool)] BL := cd (n := 18) (.cons (BA) (.cons (FV) (.nil))) Tryz.mixed Tryz.func17 rfl (by kernel_rfl) rfl rfl rfl (fun _ => rfl)
noncomputable def BM (x : cp [.ag 2]) : Option (a8 [.lf (.bool)]) := fS ⟨prog, [], 37, [.lf (.bool)], [.tmp 2], [], [], []⟩ ((Tryz.f8).body.getD .skip) (.n) [.ag 2] x
noncomputable def UF : Ent := ⟨[.ag 2], [.lf (.bool)], BM⟩
theorem UE : bK prog 8 [.ag 2] [.lf (.bool)] BM := cd (n := 37) (.nil) Tryz.mixed Tryz.func8 rfl (by kernel_rfl) rfl rfl rfl (fun _ => rfl)
noncomputable def qk (x : cp [.ag 16, .lf (.int .i64), .ag 2, .lf (.int .i64)]) : Option (a8 [.lf (.bool)]) := fS ⟨prog, [(6, NU), (7, tO), (8, UF), (9, W6), (11, KX), (15, wQ), (16, Gl), (17, UD), (18, rg), (19, Gk), (20, KT), (21, I4), (14, xK), (23, Db), (24, Af), (22, QR)], 107, [.lf (.bool)], [.tmp 8], [], [], []⟩ ((Tryz.f4).body.getD .skip) (.n) [.ag 16, .lf (.int .i64), .ag 2, .lf (.int .i64)] x
theorem GG : bK prog 4 [.ag 16, .lf (.int .i64), .ag 2, .lf (.int .i64)] [.lf (.bool)] qk := cd (n := 107) (.cons (NT) (.cons (Dc) (.cons (UE) (.cons (W5) (.cons (KW) (.cons (wP) (.cons (fH) (.cons (UC) (.cons (rc) (.cons (fG) (.cons (KS) (.cons (mR) (.cons (FV) (.cons (Da) (.cons (Ae) (.cons (QQ) (.nil))))))))))))))))) Tryz.mixed Tryz.func4 rfl (by kernel_rfl) rfl rfl rfl (fun _ => rfl)
section
open Go.ChangeShapes Go.WideShapes Go.ChangeAt Go.RowKit Go.Deep
section
variable {H : Type} {enc : TypeId × Value → H} {P : Program} {w : World} {base : Nat} {spare : Nat → Bool} {held : Bool} {r : Reach} {b0 : Nat}
end
end
section
open Go.ChangeShapes Go.WideShapes Go.ChangeAt Go.RowKit Go.Deep
instance : Inhabited D := ⟨.v (.int .i64 0)⟩
inductive Fm where
 | int | str | bool | u8
 | sl (es : List Fm)
inductive Shp : Fm → D → Prop
 | int (z : Int) (h : (Lit.int .i64 z).wf = true) : Shp .int (.v (.int .i64 z))
 | str (s : ByteArray) (h : s.size ≤ maxLen) : Shp .str (.v (.string s))
 | bool (b : Bool) : Shp .bool (.v (.bool b))
 | u8 (z : Int) (h : (Lit.int .u8 z).wf = true) : Shp .u8 (.v (.int .u8 z))
 | sl (ts : List Fm) (es : List (List D)) (hl : ∀ e ∈ es, e.length = ts.length) (h : ∀ (e : List D), e ∈ es → ∀ (j : Nat) (T : Fm) (d : D), ts[j]? = some T → e[j]? = some d → Shp T d) (hm : es.length ≤ maxLen) : Shp (.sl ts) (.sl es)
def qh (P : Program) (t : TypeId) (ts : List Fm) : Prop :=
 ∀ (H : Type) (enc : TypeId × Value → H) (w : World) (base : Nat) (spare : Nat → Bool) (held : Bool) (fuel : Nat) (cs : List Value) (x : DataW H × List MemPlace), DataW.trod enc P w base spare held fuel t cs = some x →
  cs.length = ts.length ∧ ∀ (j : Nat) (T : Fm), ts[j]? = some T → ∃ c d, cs[j]? = some c ∧ ej w (· < w.heap.size) c d ∧ Shp T d
theorem co {P : Program} {t : TypeId} (ht : P.underlying t = some (.int .i64)) : qh P t [.int] := by
 intro H enc w base spare held fuel cs x h
 obtain ⟨z, rfl, _, hz⟩ := DataW.trod_int ht h
 refine ⟨rfl, fun j T hj => ?_⟩
 match j, hj with
 | 0, hj =>
  cases hj
  exact ⟨_, _, rfl, .v _ rfl, .int z hz⟩
theorem SQ {P : Program} {t : TypeId} (ht : P.underlying t = some .string) : qh P t [.str] := by
 intro H enc w base spare held fuel cs x h
 obtain ⟨z, rfl, _, hz⟩ := DataW.trod_string ht h
 refine ⟨rfl, fun j T hj => ?_⟩
 match j, hj with
 | 0, hj =>
  cases hj
  exact ⟨_, _, rfl, .v _ rfl, .str z hz⟩
theorem lb {P : Program} {t : TypeId} {fs : Array Field} {ts : List Fm} (ht : P.underlying t = some (.struct fs)) (hk : P.cellsOf t = ts.length)
  (hcov : ∀ j T, ts[j]? = some T → ∃ (i : Nat) (f : Field) (kf : Nat) (us : List Fm), fs[i]? = some f ∧ f.offset ≤ j ∧ j < f.offset + kf ∧ P.cellsOf f.type = kf ∧ qh P f.type us ∧ us[j - f.offset]? = some T) : qh P t ts := by
 intro H enc w base spare held fuel cs x h
 obtain ⟨xs, n, _, rfl, hl, hlen, hf⟩ := DataW.trod_struct ht h
 refine ⟨by rw [hl, hk], fun j T hj => ?_⟩
 obtain ⟨i, f, kf, us, hi, h1, h2, h3, h4, h5⟩ := hcov j T hj
 have hfi := hf i f hi
 have hlt : i < xs.length := by rw [hlen]; exact (Array.getElem?_eq_some_iff.1 hi).1
 rw [zq hlt, h3] at hfi
 obtain ⟨_, hz⟩ := h4 H enc w base spare held n _ _ hfi
 obtain ⟨c, d, hc, hd, hs⟩ := hz (j - f.offset) T h5
 rw [List.getElem?_take_of_lt (by omega), List.getElem?_drop, show f.offset + (j - f.offset) = j by omega] at hc
 exact ⟨c, d, hc, hd, hs⟩
theorem X9 {α : Type} (k : Nat) (es : List (List α)) (h : ∀ e ∈ es, e.length = k) : es.flatten.length = es.length * k := by
 induction es with
 | nil => simp
 | cons e es ih =>
  rw [List.flatten_cons, List.length_append, ih (fun x hx => h x (List.mem_cons_of_mem _ hx)), h e List.mem_cons_self, List.length_cons, Nat.add_mul]
  omega
theorem um {P : Program} {t e : TypeId} {ts : List Fm} (ht : P.underlying t = some (.slice e)) (hc : P.cellsOf e = ts.length) (hk : 0 < ts.length) (he : qh P e ts) : qh P t [.sl ts] := by
 intro H enc w base spare held fuel cs x hf
 rcases open_slice ht hf with ⟨rfl, _⟩ | ⟨a, len, cap, m, n, Dz, Pl, rfl, hb, hl, hm, hmm, _, hx⟩
 ·refine ⟨rfl, fun j T hj => ?_⟩
  match j, hj with
  | 0, hj =>
   cases hj
   exact ⟨_, .sl [], rfl, .sl none 0 0 0 [] (fun _ => .int .i64 0) rfl (Nat.le_refl _) (by simp [maxLen]) (by simp) (fun h => absurd h (by omega)) (fun _ => rfl) (by simp) (by simp), .sl ts [] (by simp) (by simp) (by simp)⟩
 ·have hlm : len ≤ m := by rw [hmm]; split <;> omega
  have each : ∀ i, i < m → ∃ q : Nat → D, ∀ j T, ts[j]? = some T → ∃ c, w.cell? (a.add (i * ts.length + j)) = some c ∧ ej w (· < w.heap.size) c (q j) ∧ Shp T (q j) := by
   intro i hi
   obtain ⟨cs', h1, h2⟩ := hx i hi
   rw [hc] at h1
   obtain ⟨_, hlen, hcell⟩ := World.cells?_some h1
   obtain ⟨_, hz⟩ := he _ _ _ _ _ _ _ _ _ h2
   have : ∀ j, j < ts.length → ∃ d, ∀ T, ts[j]? = some T → ∃ c, w.cell? (a.add (i * ts.length + j)) = some c ∧ ej w (· < w.heap.size) c d ∧ Shp T d := by
    intro j hj
    obtain ⟨c, d, c1, c2, c3⟩ := hz j ts[j] (zq hj)
    refine ⟨d, fun T hT => ⟨c, ?_, c2, ?_⟩⟩
    ·have c0 := hcell j hj
     rw [Go.Deep.add_add] at c0
     rw [c0, c1]
    ·rw [zq hj] at hT
     cases hT
     exact c3
   obtain ⟨q, hq⟩ := choose_lt this
   exact ⟨q, fun j T hT => hq j (by rcases Nat.lt_or_ge j ts.length with h | h; exact h; rw [List.getElem?_eq_none h] at hT; cases hT) T hT⟩
  obtain ⟨q, hq⟩ := choose_lt each
  let row (i : Nat) : List D := (List.range ts.length).map (q i)
  let es := (List.range len).map row
  have hrow : ∀ x ∈ es, x.length = ts.length := by
   intro x hx
   obtain ⟨i, _, rfl⟩ := List.mem_map.1 hx
   simp [row]
  have hcell : ∀ j d, es.flatten[j]? = some d → ∃ c, w.cell? (a.add j) = some c ∧ ej w (· < w.heap.size) c d := by
   intro j d hj
   have hlt : j < len * ts.length := by
    have := (zg.1 hj).1
    rw [X9 ts.length es hrow] at this
    simpa [es] using this
   have hi : j / ts.length < len := (Nat.div_lt_iff_lt_mul hk).2 hlt
   have hmod := Nat.mod_lt j hk
   have hdm : j / ts.length * ts.length + j % ts.length = j := by rw [Nat.mul_comm]; exact Nat.div_add_mod j _
   have hfl := yK ts.length es hrow (j / ts.length) (row (j / ts.length)) (by simp [es, hi]) (j % ts.length) hmod
   rw [hdm, hj] at hfl
   have hd : d = q (j / ts.length) (j % ts.length) := by simpa [row, hmod] using hfl
   obtain ⟨c, c1, c2, _⟩ := hq (j / ts.length) (by omega) (j % ts.length) _ (zq hmod)
   rw [hdm] at c1
   exact ⟨c, c1, hd ▸ c2⟩
  refine ⟨rfl, fun j T hj => ?_⟩
  match j, hj with
  | 0, hj =>
   cases hj
   refine ⟨_, .sl es, rfl, .sl (some a) len cap ts.length es (fun j => (w.cell? (a.add j)).getD (.int .i64 0)) (by simp [es]) hl hm hrow (fun hn => ⟨a, rfl, ?_⟩) (fun h => by cases h) (fun a' j d ha hj => ?_) (fun j d hj => ?_), .sl ts es hrow (fun x hx j T d hT hd => ?_) (by simp [es]; omega)⟩
   ·obtain ⟨c, c1, _⟩ := hq 0 (by omega) 0 _ (zq hk)
    have := World.block_lt_of_cell? w _ c1
    rwa [show (a.add (0 * ts.length + 0)).block = a.block by unfold Addr.add; split <;> rfl] at this
   ·cases ha
    obtain ⟨c, c1, _⟩ := hcell j d hj
    rw [c1]
    rfl
   ·obtain ⟨c, c1, c2⟩ := hcell j d hj
    rw [c1]
    exact c2
   ·obtain ⟨i, hi, rfl⟩ := List.mem_map.1 hx
    have hi : i < len := List.mem_range.1 hi
    have hjt : j < ts.length := (zg.1 hT).1
    have hd : d = q i j := by simpa [row, hjt] using hd.symm
    obtain ⟨c, _, _, c3⟩ := hq i (by omega) j T hT
    exact hd ▸ c3
section
variable {H : Type} {enc : TypeId × Value → H} {P : Program} {w : World} {base : Nat} {spare : Nat → Bool} {held : Bool} {r : Reach} {b0 : Nat}
theorem Rm {t : TypeId} {fs : Array Field} {ts : List Fm} {v : Value} {d : DataW H} {ps : List MemPlace} (ht : P.underlying t = some (.struct fs)) (ho : qh P t ts) (hv : Value.okWide P w r b0 t v) (h : DataW.Trod enc P w base spare held t v d ps) :
  ∃ ds : List D, ds.length = ts.length ∧ (∀ (j : Nat) (T : Fm), ts[j]? = some T → ∃ e, ds[j]? = some e ∧ Shp T e) ∧ aK ρNone dP w (· < w.heap.size) v (.ag (ds.map .d)) := by
 obtain ⟨cs, rfl, _⟩ := okWide_struct ht hv
 obtain ⟨fuel, hf⟩ := h
 simp only [Value.cells] at hf
 obtain ⟨hl, hz⟩ := ho _ _ _ _ _ _ _ _ _ hf
 have : ∀ j, j < ts.length → ∃ d, ∀ T, ts[j]? = some T → ∃ c, cs.toList[j]? = some c ∧ ej w (· < w.heap.size) c d ∧ Shp T d := by
  intro j hj
  obtain ⟨c, d, c1, c2, c3⟩ := hz j ts[j] (zq hj)
  refine ⟨d, fun T hT => ⟨c, c1, c2, ?_⟩⟩
  rw [zq hj] at hT
  cases hT
  exact c3
 obtain ⟨q, hq⟩ := choose_lt this
 refine ⟨(List.range ts.length).map q, by simp, fun j T hT => ?_, .ag cs _ (by simp; simpa using hl) (fun x hx => ?_) (fun j x c hx hc => ?_)⟩
 ·have hj : j < ts.length := (zg.1 hT).1
  obtain ⟨c, _, _, c3⟩ := hq j hj T hT
  exact ⟨q j, by simp [hj], c3⟩
 ·obtain ⟨j, hj, rfl⟩ := List.getElem_of_mem (Array.mem_toList_iff.2 hx)
  have hj' : j < ts.length := by rw [← hl]; exact hj
  obtain ⟨c, c1, c2, _⟩ := hq j hj' _ (zq hj')
  rw [zq hj] at c1
  cases c1
  exact c2.one
 ·have hj : j < ts.length := by
   have := (Array.getElem?_eq_some_iff.1 hx).1
   rw [← hl]
   simpa using this
  obtain ⟨c', c1, c2, _⟩ := hq j hj _ (zq hj)
  rw [Array.getElem?_toList, hx] at c1
  cases c1
  have : c = .d (q j) := by simpa [hj] using hc.symm
  subst this
  exact .d _ _ c2
end
theorem Q9 {α : Type} {f : α → List D} {Q : α → Prop} : ∀ (es : List (List D)), (∀ e ∈ es, ∃ x, e = f x ∧ Q x) → ∃ l : List α, es = l.map f ∧ ∀ x ∈ l, Q x
 | [], _ => ⟨[], rfl, by simp⟩
 | e :: es, h => by
  obtain ⟨x, rfl, hq⟩ := h e List.mem_cons_self
  obtain ⟨l, rfl, hl⟩ := Q9 es (fun y hy => h y (List.mem_cons_of_mem _ hy))
  refine ⟨x :: l, rfl, ?_⟩
  intro y hy
  rcases List.mem_cons.1 hy with rfl | hy
  ·exact hq
  ·exact hl y hy
theorem XL {P : Program} {f : FuncId} {args : List PV} {b : Bool} (h : PC P f args (.d (.v (.bool b)))) (w : World) (vs : Array Value) (hr : cG ρNone dP w (· < w.heap.size) vs.toList args) :
  Calls P f vs w fun e w' => e = .returned (.bool b) ∧ Below w.heap.size w w' := by
 refine (h.2 w _ vs (fun _ h => h) hr).mono ?_
 rintro e w' ⟨v, F', rfl, hx, _, _, _, hp⟩
 refine ⟨?_, hx⟩
 cases hp with
 | d _ _ h => cases h with
  | v => rfl
end
section
open Go.ChangeShapes Go.WideShapes Go.ChangeAt Go.RowKit Go.Deep
theorem db {d : D} (h : Shp .int d) : ∃ z, d = .v (.int .i64 z) ∧ (Lit.int .i64 z).wf = true := by
 cases h with
 | int z h => exact ⟨z, rfl, h⟩
theorem Xx {d : D} (h : Shp .str d) : ∃ s, d = .v (.string s) ∧ s.size ≤ maxLen := by
 cases h with
 | str z h => exact ⟨z, rfl, h⟩
def wfI (z : Int) : Prop := (Lit.int .i64 z).wf = true
theorem Oi {α : Type} {f : α → List D} {Q : α → Prop} {ts : List Fm} {d : D} (hf : ∀ e : List D, e.length = ts.length → (∀ (j : Nat) (T : Fm), ts[j]? = some T → ∃ d, e[j]? = some d ∧ Shp T d) → ∃ x, e = f x ∧ Q x) (h : Shp (.sl ts) d) : ∃ l : List α, d = .sl (l.map f) ∧ (∀ z ∈ l, Q z) ∧ l.length ≤ maxLen := by
 cases h with
 | sl _ es hl h hm =>
  obtain ⟨l, rfl, hq⟩ := Q9 (f := f) (Q := Q) es (fun e he => hf e (hl e he) fun j T hT => by
   have hj : j < e.length := by rw [hl e he]; exact (zg.1 hT).1
   exact ⟨e[j], zq hj, h e he j T _ hT (zq hj)⟩)
  exact ⟨l, rfl, hq, by simpa using hm⟩
theorem Zj {e : List D} (hl : e.length = 1) (h : ∀ (j : Nat) (T : Fm), [Fm.int][j]? = some T → ∃ d, e[j]? = some d ∧ Shp T d) : ∃ x : Int, e = [.v (.int .i64 x)] ∧ wfI x := by
 match e, hl with
 | [d], _ =>
  obtain ⟨d', hd, s⟩ := h 0 _ rfl
  cases hd
  cases s with
  | int z hz => exact ⟨z, rfl, hz⟩
theorem pj : qh prog 22 [.sl [.int]] := um Tryz.underlying22 (by kernel_rfl) (by decide) (co Tryz.underlying3)
theorem ua {d : D} (h : Shp (.sl [.int]) d) : ∃ l : List Int, d = .sl (l.map iD) ∧ (∀ z ∈ l, wfI z) ∧ l.length ≤ maxLen := Oi (ts := [.int]) (f := iD) (Q := fun z => wfI z) (fun _ hl h => Zj hl h) h
def aP.ok (x : aP) : Prop := wfI x.g6 ∧ wfI x.fA ∧ wfI x.fB ∧ wfI x.fC ∧ wfI x.fD
theorem CD : qh prog 78 [.int, .int, .int, .int, .int] := lb Tryz.underlying78 (by kernel_rfl) fun j T hj => by
 match j, hj with
 | 0, hj => exact ⟨0, _, 1, [.int], rfl, by decide, by decide, by kernel_rfl, (co Tryz.underlying3), hj⟩
 | 1, hj => exact ⟨1, _, 1, [.int], rfl, by decide, by decide, by kernel_rfl, (co Tryz.underlying3), hj⟩
 | 2, hj => exact ⟨2, _, 1, [.int], rfl, by decide, by decide, by kernel_rfl, (co Tryz.underlying3), hj⟩
 | 3, hj => exact ⟨3, _, 1, [.int], rfl, by decide, by decide, by kernel_rfl, (co Tryz.underlying3), hj⟩
 | 4, hj => exact ⟨4, _, 1, [.int], rfl, by decide, by decide, by kernel_rfl, (co Tryz.underlying3), hj⟩
theorem Jy {e : List D} (hl : e.length = 5) (h : ∀ (j : Nat) (T : Fm), ([.int, .int, .int, .int, .int] : List Fm)[j]? = some T → ∃ d, e[j]? = some d ∧ Shp T d) : ∃ x : aP, e = aP.d x ∧ x.ok := by
 match e, hl with
 | [d0, d1, d2, d3, d4], _ =>
  obtain ⟨_, e0, s0⟩ := h 0 _ rfl
  cases e0
  obtain ⟨_, e1, s1⟩ := h 1 _ rfl
  cases e1
  obtain ⟨_, e2, s2⟩ := h 2 _ rfl
  cases e2
  obtain ⟨_, e3, s3⟩ := h 3 _ rfl
  cases e3
  obtain ⟨_, e4, s4⟩ := h 4 _ rfl
  cases e4
  obtain ⟨z0, rfl, k0⟩ := db s0
  obtain ⟨z1, rfl, k1⟩ := db s1
  obtain ⟨z2, rfl, k2⟩ := db s2
  obtain ⟨z3, rfl, k3⟩ := db s3
  obtain ⟨z4, rfl, k4⟩ := db s4
  exact ⟨⟨z0, z1, z2, z3, z4⟩, rfl, ⟨k0, k1, k2, k3, k4⟩⟩
theorem AN : qh prog 23 [.sl [.int, .int, .int, .int, .int]] := um Tryz.underlying23 (by kernel_rfl) (by decide) CD
theorem DZ {d : D} (h : Shp (.sl [.int, .int, .int, .int, .int]) d) : ∃ l : List aP, d = .sl (l.map aP.d) ∧ (∀ z ∈ l, aP.ok z) ∧ l.length ≤ maxLen := Oi (ts := [.int, .int, .int, .int, .int]) (f := aP.d) (Q := fun z => aP.ok z) (fun _ hl h => Jy hl h) h
def aH.ok (x : aH) : Prop := wfI x.JL ∧ (∀ z ∈ x.fNs, wfI z) ∧ x.fNs.length ≤ maxLen ∧ (∀ z ∈ x.mg, aP.ok z) ∧ x.mg.length ≤ maxLen
theorem xh : qh prog 25 [.int, .sl [.int], .sl [.int, .int, .int, .int, .int]] := lb Tryz.underlying25 (by kernel_rfl) fun j T hj => by
 match j, hj with
 | 0, hj => exact ⟨0, _, 1, [.int], rfl, by decide, by decide, by kernel_rfl, (co Tryz.underlying3), hj⟩
 | 1, hj => exact ⟨1, _, 1, [.sl [.int]], rfl, by decide, by decide, by kernel_rfl, pj, hj⟩
 | 2, hj => exact ⟨2, _, 1, [.sl [.int, .int, .int, .int, .int]], rfl, by decide, by decide, by kernel_rfl, AN, hj⟩
theorem CE {e : List D} (hl : e.length = 3) (h : ∀ (j : Nat) (T : Fm), ([.int, .sl [.int], .sl [.int, .int, .int, .int, .int]] : List Fm)[j]? = some T → ∃ d, e[j]? = some d ∧ Shp T d) : ∃ x : aH, e = aH.d x ∧ x.ok := by
 match e, hl with
 | [d0, d1, d2], _ =>
  obtain ⟨_, e0, s0⟩ := h 0 _ rfl
  cases e0
  obtain ⟨_, e1, s1⟩ := h 1 _ rfl
  cases e1
  obtain ⟨_, e2, s2⟩ := h 2 _ rfl
  cases e2
  obtain ⟨z0, rfl, k0⟩ := db s0
  obtain ⟨z1, rfl, k1, m1⟩ := ua s1
  obtain ⟨z2, rfl, k2, m2⟩ := DZ s2
  exact ⟨⟨z0, z1, z2⟩, rfl, ⟨k0, k1, m1, k2, m2⟩⟩
def ax.ok (x : ax) : Prop := wfI x.bD ∧ wfI x.bj
theorem sH : qh prog 27 [.int, .int] := lb Tryz.underlying27 (by kernel_rfl) fun j T hj => by
 match j, hj with
 | 0, hj => exact ⟨0, _, 1, [.int], rfl, by decide, by decide, by kernel_rfl, (co Tryz.underlying3), hj⟩
 | 1, hj => exact ⟨1, _, 1, [.int], rfl, by decide, by decide, by kernel_rfl, (co Tryz.underlying3), hj⟩
def aL.ok (x : aL) : Prop := wfI x.bu ∧ wfI x.aY ∧ ax.ok x.cC ∧ wfI x.fX ∧ wfI x.bG ∧ wfI x.eR ∧ wfI x.gM
theorem Ox : qh prog 123 [.int, .int, .int, .int, .int, .int, .int, .int] := lb Tryz.underlying123 (by kernel_rfl) fun j T hj => by
 match j, hj with
 | 0, hj => exact ⟨0, _, 1, [.int], rfl, by decide, by decide, by kernel_rfl, (co Tryz.underlying3), hj⟩
 | 1, hj => exact ⟨1, _, 1, [.int], rfl, by decide, by decide, by kernel_rfl, (co Tryz.underlying3), hj⟩
 | 2, hj => exact ⟨2, _, 2, [.int, .int], rfl, by decide, by decide, by kernel_rfl, sH, hj⟩
 | 3, hj => exact ⟨2, _, 2, [.int, .int], rfl, by decide, by decide, by kernel_rfl, sH, hj⟩
 | 4, hj => exact ⟨3, _, 1, [.int], rfl, by decide, by decide, by kernel_rfl, (co Tryz.underlying3), hj⟩
 | 5, hj => exact ⟨4, _, 1, [.int], rfl, by decide, by decide, by kernel_rfl, (co Tryz.underlying3), hj⟩
 | 6, hj => exact ⟨5, _, 1, [.int], rfl, by decide, by decide, by kernel_rfl, (co Tryz.underlying3), hj⟩
 | 7, hj => exact ⟨6, _, 1, [.int], rfl, by decide, by decide, by kernel_rfl, (co Tryz.underlying3), hj⟩
theorem XR {e : List D} (hl : e.length = 8) (h : ∀ (j : Nat) (T : Fm), ([.int, .int, .int, .int, .int, .int, .int, .int] : List Fm)[j]? = some T → ∃ d, e[j]? = some d ∧ Shp T d) : ∃ x : aL, e = aL.d x ∧ x.ok := by
 match e, hl with
 | [d0, d1, d2, d3, d4, d5, d6, d7], _ =>
  obtain ⟨_, e0, s0⟩ := h 0 _ rfl
  cases e0
  obtain ⟨_, e1, s1⟩ := h 1 _ rfl
  cases e1
  obtain ⟨_, e2, s2⟩ := h 2 _ rfl
  cases e2
  obtain ⟨_, e3, s3⟩ := h 3 _ rfl
  cases e3
  obtain ⟨_, e4, s4⟩ := h 4 _ rfl
  cases e4
  obtain ⟨_, e5, s5⟩ := h 5 _ rfl
  cases e5
  obtain ⟨_, e6, s6⟩ := h 6 _ rfl
  cases e6
  obtain ⟨_, e7, s7⟩ := h 7 _ rfl
  cases e7
  obtain ⟨z0, rfl, k0⟩ := db s0
  obtain ⟨z1, rfl, k1⟩ := db s1
  obtain ⟨z2, rfl, k2⟩ := db s2
  obtain ⟨z3, rfl, k3⟩ := db s3
  obtain ⟨z4, rfl, k4⟩ := db s4
  obtain ⟨z5, rfl, k5⟩ := db s5
  obtain ⟨z6, rfl, k6⟩ := db s6
  obtain ⟨z7, rfl, k7⟩ := db s7
  exact ⟨⟨z0, z1, ⟨z2, z3⟩, z4, z5, z6, z7⟩, rfl, ⟨k0, k1, ⟨k2, k3⟩, k4, k5, k6, k7⟩⟩
theorem LH : qh prog 28 [.sl [.int, .int, .int, .int, .int, .int, .int, .int]] := um Tryz.underlying28 (by kernel_rfl) (by decide) Ox
theorem Sr {d : D} (h : Shp (.sl [.int, .int, .int, .int, .int, .int, .int, .int]) d) : ∃ l : List aL, d = .sl (l.map aL.d) ∧ (∀ z ∈ l, aL.ok z) ∧ l.length ≤ maxLen := Oi (ts := [.int, .int, .int, .int, .int, .int, .int, .int]) (f := aL.d) (Q := fun z => aL.ok z) (fun _ hl h => XR hl h) h
def aq.ok (x : aq) : Prop := wfI x.fId ∧ wfI x.cw ∧ x.bF.size ≤ maxLen ∧ wfI x.cW ∧ wfI x.bu ∧ ax.ok x.bB ∧ (∀ z ∈ x.bE, aL.ok z) ∧ x.bE.length ≤ maxLen ∧ wfI x.bL ∧ wfI x.ce ∧ (∀ z ∈ x.bM, wfI z) ∧ x.bM.length ≤ maxLen ∧ (∀ z ∈ x.dj, wfI z) ∧ x.dj.length ≤ maxLen ∧ (∀ z ∈ x.jH, wfI z) ∧ x.jH.length ≤ maxLen ∧ (∀ z ∈ x.jP, wfI z) ∧ x.jP.length ≤ maxLen
theorem Oy : qh prog 30 [.int, .int, .str, .int, .int, .int, .int, .sl [.int, .int, .int, .int, .int, .int, .int, .int], .int, .int, .sl [.int], .sl [.int], .sl [.int], .sl [.int]] := lb Tryz.underlying30 (by kernel_rfl) fun j T hj => by
 match j, hj with
 | 0, hj => exact ⟨0, _, 1, [.int], rfl, by decide, by decide, by kernel_rfl, (co Tryz.underlying3), hj⟩
 | 1, hj => exact ⟨1, _, 1, [.int], rfl, by decide, by decide, by kernel_rfl, (co Tryz.underlying3), hj⟩
 | 2, hj => exact ⟨2, _, 1, [.str], rfl, by decide, by decide, by kernel_rfl, (SQ Tryz.underlying9), hj⟩
 | 3, hj => exact ⟨3, _, 1, [.int], rfl, by decide, by decide, by kernel_rfl, (co Tryz.underlying3), hj⟩
 | 4, hj => exact ⟨4, _, 1, [.int], rfl, by decide, by decide, by kernel_rfl, (co Tryz.underlying3), hj⟩
 | 5, hj => exact ⟨5, _, 2, [.int, .int], rfl, by decide, by decide, by kernel_rfl, sH, hj⟩
 | 6, hj => exact ⟨5, _, 2, [.int, .int], rfl, by decide, by decide, by kernel_rfl, sH, hj⟩
 | 7, hj => exact ⟨6, _, 1, [.sl [.int, .int, .int, .int, .int, .int, .int, .int]], rfl, by decide, by decide, by kernel_rfl, LH, hj⟩
 | 8, hj => exact ⟨7, _, 1, [.int], rfl, by decide, by decide, by kernel_rfl, (co Tryz.underlying3), hj⟩
 | 9, hj => exact ⟨8, _, 1, [.int], rfl, by decide, by decide, by kernel_rfl, (co Tryz.underlying3), hj⟩
 | 10, hj => exact ⟨9, _, 1, [.sl [.int]], rfl, by decide, by decide, by kernel_rfl, pj, hj⟩
 | 11, hj => exact ⟨10, _, 1, [.sl [.int]], rfl, by decide, by decide, by kernel_rfl, pj, hj⟩
 | 12, hj => exact ⟨11, _, 1, [.sl [.int]], rfl, by decide, by decide, by kernel_rfl, pj, hj⟩
 | 13, hj => exact ⟨12, _, 1, [.sl [.int]], rfl, by decide, by decide, by kernel_rfl, pj, hj⟩
theorem XS {e : List D} (hl : e.length = 14) (h : ∀ (j : Nat) (T : Fm), ([.int, .int, .str, .int, .int, .int, .int, .sl [.int, .int, .int, .int, .int, .int, .int, .int], .int, .int, .sl [.int], .sl [.int], .sl [.int], .sl [.int]] : List Fm)[j]? = some T → ∃ d, e[j]? = some d ∧ Shp T d) : ∃ x : aq, e = aq.d x ∧ x.ok := by
 match e, hl with
 | [d0, d1, d2, d3, d4, d5, d6, d7, d8, d9, d10, d11, d12, d13], _ =>
  obtain ⟨_, e0, s0⟩ := h 0 _ rfl
  cases e0
  obtain ⟨_, e1, s1⟩ := h 1 _ rfl
  cases e1
  obtain ⟨_, e2, s2⟩ := h 2 _ rfl
  cases e2
  obtain ⟨_, e3, s3⟩ := h 3 _ rfl
  cases e3
  obtain ⟨_, e4, s4⟩ := h 4 _ rfl
  cases e4
  obtain ⟨_, e5, s5⟩ := h 5 _ rfl
  cases e5
  obtain ⟨_, e6, s6⟩ := h 6 _ rfl
  cases e6
  obtain ⟨_, e7, s7⟩ := h 7 _ rfl
  cases e7
  obtain ⟨_, e8, s8⟩ := h 8 _ rfl
  cases e8
  obtain ⟨_, e9, s9⟩ := h 9 _ rfl
  cases e9
  obtain ⟨_, e10, s10⟩ := h 10 _ rfl
  cases e10
  obtain ⟨_, e11, s11⟩ := h 11 _ rfl
  cases e11
  obtain ⟨_, e12, s12⟩ := h 12 _ rfl
  cases e12
  obtain ⟨_, e13, s13⟩ := h 13 _ rfl
  cases e13
  obtain ⟨z0, rfl, k0⟩ := db s0
  obtain ⟨z1, rfl, k1⟩ := db s1
  obtain ⟨z2, rfl, k2⟩ := Xx s2
  obtain ⟨z3, rfl, k3⟩ := db s3
  obtain ⟨z4, rfl, k4⟩ := db s4
  obtain ⟨z5, rfl, k5⟩ := db s5
  obtain ⟨z6, rfl, k6⟩ := db s6
  obtain ⟨z7, rfl, k7, m7⟩ := Sr s7
  obtain ⟨z8, rfl, k8⟩ := db s8
  obtain ⟨z9, rfl, k9⟩ := db s9
  obtain ⟨z10, rfl, k10, m10⟩ := ua s10
  obtain ⟨z11, rfl, k11, m11⟩ := ua s11
  obtain ⟨z12, rfl, k12, m12⟩ := ua s12
  obtain ⟨z13, rfl, k13, m13⟩ := ua s13
  exact ⟨⟨z0, z1, z2, z3, z4, ⟨z5, z6⟩, z7, z8, z9, z10, z11, z12, z13⟩, rfl, ⟨k0, k1, k2, k3, k4, ⟨k5, k6⟩, k7, m7, k8, k9, k10, m10, k11, m11, k12, m12, k13, m13⟩⟩
end
theorem eV {α S τ : Type} (l : List α) (mk : Int → S) {f : S → Option (S ⊕ τ)} {r : τ} (hl : l.length ≤ 1000000)
  (hstep : ∀ (k : Nat) (x : α), l[k]? = some x → k < l.length → x ∈ l → f (mk (k : Int)) = some (.inl (mk ((k + 1 : Nat) : Int)))) (hend : f (mk (l.length : Int)) = some (.inr r)) : ah f ab (mk 0) = some r := by
 rw [ay l (σ := Unit) (fun _ k => mk k) (fun _ _ => some (.inl ())) (fun _ => r) (an hl) (fun k _ x hx => by rw [hstep k x hx (zg.1 hx).1 (List.mem_of_getElem? hx)]; rfl) (fun _ => hend) ()]
 rw [w9 (fun _ _ => ())]
theorem qz (l : List Int) (hl : l.length ≤ 1000000) : pO l l = some true := by
 unfold pO
 simp only [bne_self_eq_false, zf, if_false]
 rw [eV l (fun k => k) (r := .inl (l.length : Int)) hl (fun k x hx hk _ => by
  unfold pN
  simp only [bJ hx, if_true, aC hx, zb, bne_self_eq_false, zf, if_false, a6 hk hl]) (by unfold pN; simp only [bz, zf, if_false])]
 rfl
structure SzL (a : aq) : Prop where
 queue : a.bF.size ≤ 1000000
 asks : a.bE.length ≤ 1000000
 grants : a.bM.length ≤ 1000000
 kills : a.dj.length ≤ 1000000
 told : a.jH.length ≤ 1000000
 lost : a.jP.length ≤ 1000000
theorem SzA.shorts {B : Nat} {a : aq} (h : SzA B a) (hB : B ≤ 1000000) : SzL a := ⟨h.queue.1, Nat.le_trans h.asks hB, Nat.le_trans h.grants hB, Nat.le_trans h.kills hB, Nat.le_trans h.told hB, Nat.le_trans h.lost hB⟩
theorem Pe (a : aq) (h : SzL a) : DE a a = some true := by
 unfold DE
 have h1 : a.bE.length ≤ 1000000 := h.asks
 simp only [bne_self_eq_false, BEq.rfl, Bool.and_self, Bool.not_true, zf, if_false, zb]
 rw [eV a.bE (fun k => k) (r := .inl (a.bE.length : Int)) h1 (fun k x hx hk _ => by
  unfold qZ
  simp only [bJ hx, if_true, aC hx, zb, BEq.rfl, Bool.and_self, Bool.not_true, zf, if_false, a6 hk h1]) (by unfold qZ; simp only [bz, zf, if_false])]
 simp only [zb, qz _ h.grants, qz _ h.kills, qz _ h.told, qz _ h.lost, if_true]
theorem O8 (c : aw) (h : SzC c) : DD c c = some true := by
 unfold DD
 have h1 : c.ak.length ≤ 1000000 := Nat.le_trans h.labels (by decide)
 have h2 : c.ae.length ≤ 1000000 := Nat.le_trans h.queues (by decide)
 simp only [bne_self_eq_false, zf, if_false, zb]
 rw [eV c.ak (fun k => k) (r := .inl (c.ak.length : Int)) h1 (fun k x hx hk _ => by
  unfold qX
  simp only [bJ hx, if_true, aC hx, zb, BEq.rfl, Bool.not_true, zf, if_false, a6 hk h1]) (by unfold qX; simp only [bz, zf, if_false])]
 simp only [zb]
 rw [eV c.ae (fun k => k) (r := .inl (c.ae.length : Int)) h2 (fun k x hx hk hm => by
  have h3 : x.bl.length ≤ 1000000 := Nat.le_trans (h.caps x hm) (by decide)
  unfold qW
  simp only [bJ hx, if_true, aC hx, zb, BEq.rfl, bne_self_eq_false, Bool.not_true, zf, if_false, a6 hk h2]
  rw [eV x.bl (fun k => k) (r := .inl (x.bl.length : Int)) h3 (fun k y hy hk _ => by
   unfold qV
   simp only [bJ hy, if_true, aC hy, zb, BEq.rfl, Bool.and_self, Bool.not_true, zf, if_false, a6 hk h3]) (by unfold qV; simp only [bz, zf, if_false])]
  rfl) (by unfold qW; simp only [bz, zf, if_false])]
 rfl
structure xE (s : aa) : Prop where
 conf : SzC s.bN
 nodes : s.aB.length ≤ 1000000
 apps : s.ai.length ≤ 1000000
 conts : s.ac.length ≤ 1000000
 slots : s.aQ.length ≤ 1000000
 plans : s.bg.length ≤ 1000000
 app : ∀ a ∈ s.ai, SzL a
 lab : ∀ x ∈ s.bN.ak, x.size ≤ 1000000
theorem SzS.short {B : Nat} {s : aa} (h : SzS B s) (hB : B ≤ 1000000) : xE s := ⟨h.conf.sz, Nat.le_trans h.nodes.1 hB, Nat.le_trans h.apps hB, Nat.le_trans h.conts hB, Nat.le_trans h.slots hB, Nat.le_trans h.plans hB, fun a ha => (h.app a ha).shorts hB, h.conf.lsz⟩
theorem U7 (s : aa) (h : xE s) : uU s s = some true := by
 unfold uU
 simp only [O8 _ h.conf, zb, bne_self_eq_false, Bool.not_true, zf, if_false]
 rw [eV s.aB (fun k => (true, k)) (r := (true, (s.aB.length : Int))) h.nodes (fun k x hx hk _ => by
  unfold pU
  simp only [bJ hx, if_true, aC hx, zb, BEq.rfl, Bool.and_self, a6 hk h.nodes]) (by unfold pU; simp only [bz, zf, if_false])]
 simp only [zb]
 rw [eV s.ai (fun k => (true, k)) (r := (true, (s.ai.length : Int))) h.apps (fun k x hx hk hm => by
  unfold pT
  simp only [bJ hx, if_true, aC hx, zb, Pe x (h.app x hm), a6 hk h.apps]) (by unfold pT; simp only [bz, zf, if_false])]
 simp only [zb]
 rw [eV s.ac (fun k => (true, k)) (r := (true, (s.ac.length : Int))) h.conts (fun k x hx hk _ => by
  unfold pR
  simp only [bJ hx, if_true, aC hx, zb, BEq.rfl, Bool.and_self, a6 hk h.conts]) (by unfold pR; simp only [bz, zf, if_false])]
 simp only [zb]
 rw [eV s.aQ (fun k => (true, k)) (r := (true, (s.aQ.length : Int))) h.slots (fun k x hx hk _ => by
  unfold pQ
  simp only [bJ hx, if_true, aC hx, zb, BEq.rfl, Bool.and_self, a6 hk h.slots]) (by unfold pQ; simp only [bz, zf, if_false])]
 simp only [zb]
 rw [eV s.bg (fun k => (true, k)) (r := (true, (s.bg.length : Int))) h.plans (fun k x hx hk _ => by
  unfold pP
  simp only [bJ hx, if_true, aC hx, zb, BEq.rfl, Bool.and_self, a6 hk h.plans]) (by unfold pP; simp only [bz, zf, if_false])]
 rfl
theorem aaA {α : Type} (lo hi : List α) (z n : α) (hl : lo.length + hi.length ≤ 900000) :
  (Option.bind (mkO z (i64.wrap (i64.wrap ((lo.length : Int) + 1) + (hi.length : Int)))) fun xs => Option.bind (uG xs 0 xs.length lo) fun zs => Option.bind (av zs (lo.length : Int)) fun _ => Option.bind (vwO (zs.set ((lo.length : Int)).toNat n).length (i64.wrap ((lo.length : Int) + 1)) ((zs.set ((lo.length : Int)).toNat n).length : Int)) fun _ => Option.bind (uG (zs.set ((lo.length : Int)).toNat n) (i64.wrap ((lo.length : Int) + 1)).toNat (((zs.set ((lo.length : Int)).toNat n).length : Int)).toNat hi) fun r => some r) = some (lo ++ n :: hi) := by
 have e1 : i64.wrap ((lo.length : Int) + 1) = ((lo.length + 1 : Nat) : Int) := by rw [IntKind.wrap_i64]; omega
 have e2 : i64.wrap (((lo.length + 1 : Nat) : Int) + (hi.length : Int)) = ((lo.length + 1 + hi.length : Nat) : Int) := by rw [IntKind.wrap_i64]; omega
 rw [e1, e2]
 have e3 : mkO z ((lo.length + 1 + hi.length : Nat) : Int) = some (List.replicate (lo.length + 1 + hi.length) z) := by
  unfold mkO
  rw [if_pos ⟨by omega, by omega⟩, zt]
 rw [e3]
 simp only [zb]
 have e4 : uG (List.replicate (lo.length + 1 + hi.length) z) 0 (List.replicate (lo.length + 1 + hi.length) z).length lo = some (lo ++ List.replicate (1 + hi.length) z) := by
  unfold uG
  rw [if_pos ⟨by omega, Nat.le_refl _⟩]
  unfold kX
  simp only [List.length_replicate, Nat.sub_zero]
  rw [List.take_of_length_le (show lo.length ≤ lo.length + 1 + hi.length by omega)]
  simp only [List.take_zero, List.nil_append, Nat.zero_add, List.drop_replicate]
  rw [show lo.length + 1 + hi.length - lo.length = 1 + hi.length by omega]
 rw [e4]
 simp only [zb]
 have e5 : (lo ++ List.replicate (1 + hi.length) z)[lo.length]? = some z := by
  rw [List.getElem?_append_right (Nat.le_refl _), Nat.sub_self, Nat.add_comm 1]
  rfl
 rw [aC e5]
 simp only [zb, zt]
 have e6 : (lo ++ List.replicate (1 + hi.length) z).set lo.length n = lo ++ n :: List.replicate hi.length z := by
  rw [List.set_append_right _ _ (Nat.le_refl _), Nat.sub_self, Nat.add_comm 1]
  rfl
 rw [e6]
 have e7 : (lo ++ n :: List.replicate hi.length z).length = lo.length + 1 + hi.length := by simp; omega
 rw [e7]
 have e8 : vwO (lo.length + 1 + hi.length) ((lo.length + 1 : Nat) : Int) ((lo.length + 1 + hi.length : Nat) : Int) = some () := by
  unfold vwO
  rw [if_pos ⟨by omega, by omega, by omega, by omega⟩]
 rw [e8]
 simp only [zb]
 unfold uG
 rw [if_pos ⟨by omega, by rw [e7]; exact Nat.le_refl _⟩]
 unfold kX
 have h1 : (lo ++ n :: List.replicate hi.length z).take (lo.length + 1) = lo ++ [n] := by
  rw [List.take_append, List.take_of_length_le (Nat.le_succ _)]
  simp
 have h2 : lo.length + 1 + hi.length - (lo.length + 1) = hi.length := by omega
 rw [h1, h2, List.take_of_length_le (Nat.le_refl _)]
 have h3 : (lo ++ n :: List.replicate hi.length z).drop (lo.length + 1 + hi.length) = [] := List.drop_of_length_le (by rw [e7]; exact Nat.le_refl _)
 rw [h3]
 simp
theorem yj {α : Type} (p : α → Bool) : ∀ (l : List α) (i : Nat) (h : i < l.length), (∀ j (hj : j < i), p l[j] = true) → p l[i] = false → (l.takeWhile p).length = i
 | [], i, h, _, _ => absurd h (Nat.not_lt_zero _)
 | x :: l, 0, h, _, h2 => by
  have h2 : p x = false := h2
  rw [List.takeWhile_cons, h2]
  rfl
 | x :: l, i + 1, h, h1, h2 => by
  have h0 : p x = true := h1 0 (Nat.succ_pos _)
  rw [List.takeWhile_cons, h0]
  simp only [if_true, List.length_cons]
  rw [yj p l i (by simpa using h) (fun j hj => by have := h1 (j + 1) (Nat.succ_lt_succ hj); simpa using this) (by simpa using h2)]
theorem Tt {α : Type} (l : List α) (f : α → Option α) (hf : ∀ x ∈ l, f x = some x) (hl : l.length ≤ 1000000) :
  ah (fun st : List α × List α × Int => if decide (st.2.2 < (l.length : Int)) = true then Option.bind (av st.1 st.2.2) fun x => Option.bind (f x) fun y => Option.bind (av st.1 st.2.2) fun _ => some (.inl (st.1.set st.2.2.toNat y, st.1.set st.2.2.toNat y, i64.wrap (st.2.2 + 1))) else some (.inr (st.1, st.1, st.2.2))) ab (l, l, 0) = some (l, l, (l.length : Int)) := by
 rw [eV l (fun k => (l, l, k)) (r := (l, l, (l.length : Int))) hl (fun k x hx hk hm => by
  have e : l.set k x = l := by
   obtain ⟨h1, h2⟩ := zg.1 hx
   rw [← h2]
   exact List.set_getElem_self h1
  simp only [bJ hx, if_true, aC hx, zb, hf x hm, zt, e, a6 hk hl]) (by simp only [bz, zf, if_false])]
theorem Oa {α : Type} (key : α → Int) (l : List α) (hs : jK key l) (i : Nat) (h : i < l.length) (a : α) (e : key l[i] = key a) : l.set i a = cM key l a := by
 have hp : ∀ j (hj : j < i), key l[j] < key l[i] := fun j hj => by
  have := (List.pairwise_iff_getElem.1 hs) j i (by omega) h hj
  exact this
 have k : (l.takeWhile fun x => decide (key x < key a)).length = i := yj _ l i h (fun j hj => by have := hp j hj; simp; omega) (by simp; omega)
 unfold cM
 rw [k, zq h]
 have d : (key l[i] == key a) = true := by simpa using e
 simp only [d, if_true]
 rw [List.set_eq_take_append_cons_drop, if_pos h]
def U2 (x : ByteArray) : Option ByteArray := if x.size ≤ 1000000000 then some x else none
theorem Jf {x : ByteArray} (h : x.size ≤ 1000000) : U2 x = some x := by unfold U2; rw [if_pos (by omega)]
def ku {α : Type} (xs : List α) : Option ((Unit × Unit) × List α) := Option.bind (Ft xs) fun z => some (((), ()), z)
theorem eg {α : Type} {xs : List α} (h : xs.length ≤ 1000000) : ku xs = some (((), ()), xs) := by unfold ku Ft; rw [if_pos h]; rfl
noncomputable def A6 (a : aq) : Option aq := rb (a, ())
theorem V1 (a : aq) : A6 a = Option.bind (U2 a.bF) fun q => Option.bind (ku a.bE) fun r1 => Option.bind (ku a.bM) fun r2 => Option.bind (ku a.dj) fun r3 => Option.bind (ku a.jH) fun r4 => Option.bind (ku a.jP) fun r5 => some ⟨a.fId, a.cw, q, a.cW, a.bu, a.bB, r1.2, a.bL, a.ce, r2.2, r3.2, r4.2, r5.2⟩ := by kernel_rfl
theorem A4 {a : aq} (h : SzL a) : A6 a = some a := by
 rw [V1, Jf h.queue, eg h.asks, eg h.grants, eg h.kills, eg h.told, eg h.lost]
 rfl
def RV {α : Type} (f : α → Option α) (l : List α) (st : List α × List α × Int) : Option ((List α × List α × Int) ⊕ (List α × List α × Int)) := if decide (st.2.2 < (l.length : Int)) = true then Option.bind (av st.1 st.2.2) fun x => Option.bind (f x) fun y => Option.bind (av st.1 st.2.2) fun _ => some (.inl (st.1.set st.2.2.toNat y, st.1.set st.2.2.toNat y, i64.wrap (st.2.2 + 1))) else some (.inr (st.1, st.1, st.2.2))
theorem Ff {α : Type} {f : α → Option α} {l : List α} (hf : ∀ x ∈ l, f x = some x) (hl : l.length ≤ 1000000) : ah (RV f l) ab (l, l, 0) = some (l, l, (l.length : Int)) := Tt l f hf hl
noncomputable def JJ (l : List aq) : Option ((Unit × Unit × Unit) × List aq) := om (l, (((), ()), ()))
theorem Tc (l : List aq) : JJ l = Option.bind (ku l) fun r => Option.bind (ah (RV A6 r.2) ab (r.2, r.2, 0)) fun st => some (((), (), ()), st.1) := by kernel_rfl
theorem OV {l : List aq} (hl : l.length ≤ 1000000) (h : ∀ a ∈ l, SzL a) : JJ l = some (((), (), ()), l) := by
 rw [Tc, eg hl]
 simp only [zb]
 rw [Ff (fun a ha => A4 (h a ha)) hl]
 rfl
noncomputable def RJ (l : List ByteArray) : Option (List ByteArray) := oh (l, (((), ()), ()))
theorem Ta (l : List ByteArray) : RJ l = Option.bind (ku l) fun r => Option.bind (ah (RV U2 r.2) ab (r.2, r.2, 0)) fun st => some st.1 := by kernel_rfl
noncomputable def OU (q : az) : Option az := og (q, ())
theorem VZ (q : az) : OU q = Option.bind (U2 q.aF) fun p => Option.bind (ku q.bl) fun r => some ⟨p, r.2, q.cW⟩ := by kernel_rfl
noncomputable def RK (l : List az) : Option (List az) := ol (l, (((), ()), ()))
theorem Tb (l : List az) : RK l = Option.bind (ku l) fun r => Option.bind (ah (RV OU r.2) ab (r.2, r.2, 0)) fun st => some st.1 := by kernel_rfl
noncomputable def OW (c : aw) : Option aw := qc (c, ())
theorem V0 (c : aw) : OW c = Option.bind (RJ c.ak) fun l => Option.bind (RK c.ae) fun q => some ⟨l, q⟩ := by kernel_rfl
theorem Td {c : aw} (h : SzC c) (hl : ∀ x ∈ c.ak, x.size ≤ 1000000) : OW c = some c := by
 have h1 : c.ak.length ≤ 1000000 := Nat.le_trans h.labels (by decide)
 have h2 : c.ae.length ≤ 1000000 := Nat.le_trans h.queues (by decide)
 have hq : ∀ q ∈ c.ae, OU q = some q := fun q hq => by
  rw [VZ, Jf (h.paths q hq), eg (Nat.le_trans (h.caps q hq) (by decide))]
  rfl
 rw [V0, Ta, Tb, eg h1, eg h2]
 simp only [zb]
 rw [Ff (fun x hx => Jf (hl x hx)) h1]
 simp only [zb]
 rw [Ff hq h2]
 rfl
noncomputable def OT (s : aa) : Option ((Unit × Unit) × aa) := oq (s, ())
theorem VY (s : aa) : OT s = Option.bind (OW s.bN) fun c => Option.bind (ku s.aB) fun r1 => Option.bind (JJ s.ai) fun r2 => Option.bind (ku s.ac) fun r3 => Option.bind (ku s.aQ) fun r4 => Option.bind (ku s.bg) fun r5 => some (((), ()), ⟨c, r1.2, r2.2, r3.2, r4.2, r5.2, s.bW, s.pw, s.rM⟩) := by kernel_rfl
theorem S9 {s : aa} (h : xE s) : OT s = some (((), ()), s) := by
 rw [VY, Td h.conf h.lab, eg h.nodes, OV h.apps h.app, eg h.conts, eg h.slots, eg h.plans]
 rfl
end Go.Proofs.YtmjkjaahbgikjaaGreat
