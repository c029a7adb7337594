/- My texts, in one. -/
import Derived.Test.YtmjkjaahbgikjaaGreatZF
set_option linter.all false
set_option maxRecDepth 100000
set_option maxHeartbeats 4000000
namespace Go.Proofs.YtmjkjaahbgikjaaGreat
open Go.RowKit
open IntKind (i64)
open Go.Proofs.Tryz (prog)
def X5 {α : Type} (p : α → Bool) (l : List α) : Option Int := Option.bind (ah (fun st : Int × Int => if decide (st.2 < (l.length : Int)) = true then Option.bind (av l st.2) fun x => if p x = true then some (.inr (.inr st.2)) else some (.inl (st.1, i64.wrap (st.2 + 1))) else some (.inr (.inl (st.1, st.2)))) ab ((0 : Int), (0 : Int))) fun o : (Int × Int) ⊕ Int => match o with | .inl _ => some (-1) | .inr v => some v
theorem RD {α : Type} (p : α → Bool) (l : List α) (hl : l.length ≤ 1000000) : (∃ i, ∃ h : i < l.length, X5 p l = some (i : Int) ∧ p l[i] = true ∧ ∀ j (hj : j < i), p l[j] = false) ∨ (X5 p l = some (-1) ∧ ∀ x ∈ l, p x = false) := by
 have hp : ∃ r, ah (fun st : Int × Int => if decide (st.2 < (l.length : Int)) = true then Option.bind (av l st.2) fun x => if p x = true then some (.inr (.inr st.2)) else some (.inl (st.1, i64.wrap (st.2 + 1))) else some (.inr (.inl (st.1, st.2)))) ab ((0 : Int), (0 : Int)) = some r ∧ ((∃ i, ∃ h : i < l.length, (r : (Int × Int) ⊕ Int) = .inr (i : Int) ∧ p l[i] = true ∧ ∀ j (hj : j < i), p l[j] = false) ∨ ((∃ q, r = .inl q) ∧ ∀ x ∈ l, p x = false)) := by
  refine aM (fun st => ∃ k : Nat, st.2 = (k : Int) ∧ k ≤ l.length ∧ ∀ j (hj : j < l.length), j < k → p l[j] = false) (fun st => l.length - st.2.toNat) _ (fun st ⟨k, h1, h2, h3⟩ => ?_) ab _ ⟨0, rfl, Nat.zero_le _, fun j _ h => by omega⟩ (by have := an hl; show l.length - (0 : Int).toNat < ab; omega)
  simp only [h1]
  rcases Nat.lt_or_ge k l.length with hlt | hge
  ·have d1 : decide ((k : Int) < (l.length : Int)) = true := by simpa using hlt
   rw [if_pos d1, aC (zq hlt)]
   simp only [zb]
   cases hpk : p l[k] with
   | true =>
    rw [if_pos rfl]
    exact .inr ⟨_, rfl, .inl ⟨k, hlt, rfl, hpk, fun j hj => h3 j (by omega) hj⟩⟩
   | false =>
    rw [if_neg (by decide), a6 hlt hl]
    refine .inl ⟨_, rfl, ⟨k + 1, rfl, hlt, fun j hj hjk => ?_⟩, by simp only [zt]; omega⟩
    rcases Nat.lt_or_ge j k with h | h
    ·exact h3 j hj h
    ·obtain rfl : j = k := by omega
     exact hpk
  ·have d1 : decide ((k : Int) < (l.length : Int)) = false := by simp; omega
   rw [if_neg (by rw [d1]; decide)]
   refine .inr ⟨_, rfl, .inr ⟨⟨_, rfl⟩, fun x hx => ?_⟩⟩
   obtain ⟨j, hj, rfl⟩ := List.getElem_of_mem hx
   exact h3 j hj (by omega)
 obtain ⟨r, h1, h2⟩ := hp
 unfold X5
 rw [h1]
 rcases h2 with ⟨i, h, rfl, h3, h4⟩ | ⟨⟨q, rfl⟩, h3⟩
 ·exact .inl ⟨i, h, rfl, h3, h4⟩
 ·exact .inr ⟨rfl, h3⟩
theorem Z1 {α : Type} (l : List α) (z a : α) (k : Nat) (hk : k ≤ l.length) (hl : l.length ≤ 900000) :
  (Option.bind (mkO z (i64.wrap ((l.length : Int) + 1))) fun xs => Option.bind (hiO l (k : Int)) fun lo => Option.bind (uG xs 0 xs.length lo) fun zs => Option.bind (av zs (k : Int)) fun _ => Option.bind (vwO (zs.set ((k : Int)).toNat a).length (i64.wrap ((k : Int) + 1)) ((zs.set ((k : Int)).toNat a).length : Int)) fun _ => Option.bind (loO l (k : Int)) fun hi => Option.bind (uG (zs.set ((k : Int)).toNat a) (i64.wrap ((k : Int) + 1)).toNat (((zs.set ((k : Int)).toNat a).length : Int)).toNat hi) fun r => some r) = some (l.take k ++ a :: l.drop k) := by
 have h := aaA (l.take k) (l.drop k) z a (by simp; omega)
 have e0 : (l.take k).length = k := by simp; omega
 have e1 : (l.drop k).length = l.length - k := by simp
 rw [e0, e1] at h
 have e2 : i64.wrap (i64.wrap ((k : Int) + 1) + ((l.length - k : Nat) : Int)) = i64.wrap ((l.length : Int) + 1) := by rw [IntKind.wrap_i64, IntKind.wrap_i64, IntKind.wrap_i64]; omega
 rw [e2] at h
 rw [nZ hk, ko hk]
 exact h
theorem On {α : Type} (key : α → Int) (l : List α) (a : α) (h : ∀ x ∈ l, key x ≠ key a) : l.take (l.takeWhile fun x => decide (key x < key a)).length ++ a :: l.drop (l.takeWhile fun x => decide (key x < key a)).length = cM key l a := by
 unfold cM
 cases hq : l[(l.takeWhile fun x => decide (key x < key a)).length]? with
 | none => rfl
 | some x =>
  have d : (key x == key a) = false := by
   have := h x (List.mem_of_getElem? hq)
   simpa using this
  simp only [d, zf, if_false]
def ez (v_s : aa) (v_c : aw) (st : Unit) (v_i : Int) (x_ : ByteArray) : Option ((Unit) ⊕ ((Int) ⊕ (aa × br))) :=
 (av v_c.ak v_i).bind fun b9 => if (!(b9.toList == x_.toList)) = true then
 (dE v_s 14).bind fun c10 => some (.inr (.inr c10))
 else
 some (.inl ())
theorem we (v_s : aa) (v_c : aw) (a_ : Unit) (hl : v_s.bN.ak.length ≤ 1000000) : ah (ju v_s v_c) ab (0) = ny (ez v_s v_c) (fun a_ => (.inl ((v_s.bN.ak.length : Int)))) a_ 0 v_s.bN.ak :=
 fa v_s.bN.ak (S := Int) (fun a_ k_ => (k_)) (ez v_s v_c) (fun a_ => (.inl ((v_s.bN.ak.length : Int)))) (an hl) (fun k a x hx => by
  unfold ju ez; exact bH)
  (fun a => by unfold ju; exact cF) a_
def ey (v_s : aa) (v_c : aw) (st : Unit) (x_ : aq) : Option ((Unit) ⊕ ((Int) ⊕ (aa × br))) :=
 (cX x_).bind fun c17 => (if c17 = true then (jV v_c x_.bF).bind fun c18 => some (!c18) else some false).bind fun q19 => if q19 = true then
 (dE v_s 14).bind fun c20 => some (.inr (.inr c20))
 else
 some (.inl ())
theorem wd (v_s : aa) (v_c : aw) (a_ : Unit) (hl : v_s.ai.length ≤ 1000000) : ah (jt v_s v_c) ab (0) = bk (ey v_s v_c) (fun a_ => (.inl ((v_s.ai.length : Int)))) a_ v_s.ai :=
 ay v_s.ai (S := Int) (fun a_ k_ => (k_)) (ey v_s v_c) (fun a_ => (.inl ((v_s.ai.length : Int)))) (an hl) (fun k a x hx => by
  unfold jt ey; exact bH)
  (fun a => by unfold jt; exact cF) a_
def i6 (v_s : aa) (ct : Int) (st : (List Int)) (x_ : am) : Option (((List Int)) ⊕ (((List Int) × Int))) :=
 let v_l := st
 if (x_.bG == ct) = true then
 (aU v_l [x_.fId]).bind fun b4 => let v_l : (List Int) := b4
 some (.inl v_l)
 else
 some (.inl v_l)
theorem CN (v_s : aa) (ct : Int) (a_ : (List Int)) (hl : v_s.ac.length ≤ 1000000) : ah (oS v_s ct) ab (a_, (0)) = bk (i6 v_s ct) (fun a_ => (a_, ((v_s.ac.length : Int)))) a_ v_s.ac :=
 ay v_s.ac (S := (List Int) × Int) (fun a_ k_ => (a_, (k_))) (i6 v_s ct) (fun a_ => (a_, ((v_s.ac.length : Int)))) (an hl) (fun k a x hx => by
  unfold oS i6; exact bH)
  (fun a => by unfold oS; exact cF) a_
def gg (v_x : aJ) (v_t : aa) (st : (List Int)) (x_ : Int) : Option (((List Int)) ⊕ (((List Int) × Int))) :=
 let cj := st
 (eL v_t x_).bind fun c11 => let v_c : am := c11.1
 let yg : Bool := c11.2
 (if yg = true then some (v_c.bG == v_x.fId) else some false).bind fun q12 => if q12 = true then
 (aU cj [v_c.fId]).bind fun b13 => let cj : (List Int) := b13
 some (.inl cj)
 else
 some (.inl cj)
theorem zv (v_x : aJ) (v_t : aa) (a_ : (List Int)) (hl : v_x.fW.length ≤ 1000000) : ah (lz v_x v_t) ab (a_, (0)) = bk (gg v_x v_t) (fun a_ => (a_, ((v_x.fW.length : Int)))) a_ v_x.fW :=
 ay v_x.fW (S := (List Int) × Int) (fun a_ k_ => (a_, (k_))) (gg v_x v_t) (fun a_ => (a_, ((v_x.fW.length : Int)))) (an hl) (fun k a x hx => by
  unfold lz gg; exact bH)
  (fun a => by unfold lz; exact cF) a_
def fh (cj : (List Int)) (v_s : aa) (st : (List am)) (x_ : Int) : Option (((List am)) ⊕ (((List am) × Int))) :=
 let v_l := st
 (eL v_s x_).bind fun c4 => let v_c : am := c4.1
 let bS : Bool := c4.2
 if bS = true then
 (aU v_l [v_c]).bind fun b5 => let v_l : (List am) := b5
 some (.inl v_l)
 else
 some (.inl v_l)
theorem xJ (cj : (List Int)) (v_s : aa) (a_ : (List am)) (hl : cj.length ≤ 1000000) : ah (jX cj v_s) ab (a_, (0)) = bk (fh cj v_s) (fun a_ => (a_, ((cj.length : Int)))) a_ cj :=
 ay cj (S := (List am) × Int) (fun a_ k_ => (a_, (k_))) (fh cj v_s) (fun a_ => (a_, ((cj.length : Int)))) (an hl) (fun k a x hx => by
  unfold jX fh; exact bH)
  (fun a => by unfold jX; exact cF) a_
def dR (v_s : aa) (eW : Int) (st : (List Int)) (x_ : am) : Option (((List Int)) ⊕ (((List Int) × Int))) :=
 let v_l := st
 (if (x_.bC == eW) = true then some (x_.jm != 0) else some false).bind fun q6 => if q6 = true then
 (aU v_l [x_.fId]).bind fun b7 => let v_l : (List Int) := b7
 some (.inl v_l)
 else
 some (.inl v_l)
theorem uS (v_s : aa) (eW : Int) (a_ : (List Int)) (hl : v_s.ac.length ≤ 1000000) : ah (iI v_s eW) ab (a_, (0)) = bk (dR v_s eW) (fun a_ => (a_, ((v_s.ac.length : Int)))) a_ v_s.ac :=
 ay v_s.ac (S := (List Int) × Int) (fun a_ k_ => (a_, (k_))) (dR v_s eW) (fun a_ => (a_, ((v_s.ac.length : Int)))) (an hl) (fun k a x hx => by
  unfold iI dR; exact bH)
  (fun a => by unfold iI; exact cF) a_
def fg (kj : (List aL)) (v_s : aa) (st : (List aL)) (x_ : aL) : Option (((List aL)) ⊕ (((List aL) × Int) ⊕ ((List aL) × Int))) :=
 let v_l := st
 (pB x_ (v_s.bN.ak.length : Int)).bind fun c5 => let v_e : Int := c5
 if (v_e != 0) = true then
 some (.inr (.inr ([], v_e)))
 else
 (FF v_l x_).bind fun c6 => let v_l : (List aL) := c6.1
 let v_e : Int := c6.2
 if (v_e != 0) = true then
 some (.inr (.inr ([], v_e)))
 else
 some (.inl v_l)
theorem xH (kj : (List aL)) (v_s : aa) (a_ : (List aL)) (hl : kj.length ≤ 1000000) : ah (jW kj v_s) ab (a_, (0)) = bk (fg kj v_s) (fun a_ => (.inl (a_, ((kj.length : Int))))) a_ kj :=
 ay kj (S := (List aL) × Int) (fun a_ k_ => (a_, (k_))) (fg kj v_s) (fun a_ => (.inl (a_, ((kj.length : Int))))) (an hl) (fun k a x hx => by
  unfold jW fg; exact bH)
  (fun a => by unfold jW; exact cF) a_
def ew (v_x : aJ) (st : aa × aq) (x_ : Int) : Option ((aa × aq) ⊕ ((aa × aq × Int))) :=
 let v_s := st.1
 let v_a := st.2
 (eL v_s x_).bind fun c17 => let v_c : am := c17.1
 let yg : Bool := c17.2
 (if yg = true then some (v_c.bC == v_a.fId) else some false).bind fun q18 => (if q18 = true then some (!v_c.bB) else some false).bind fun q19 => if q19 = true then
 (qa v_s v_c.fId).bind fun c20 => let v_s : aa := c20
 (je v_a.bM v_c.fId).bind fun c21 => let v_a : aq := { v_a with bM := c21.1 }
 some (.inl (v_s, v_a))
 else
 some (.inl (v_s, v_a))
theorem wb (v_x : aJ) (a_ : aa × aq) (hl : v_x.fW.length ≤ 1000000) : ah (jr v_x) ab (a_.1, a_.2, (0)) = bk (ew v_x) (fun a_ => (a_.1, a_.2, ((v_x.fW.length : Int)))) a_ v_x.fW :=
 ay v_x.fW (S := aa × aq × Int) (fun a_ k_ => (a_.1, a_.2, (k_))) (ew v_x) (fun a_ => (a_.1, a_.2, ((v_x.fW.length : Int)))) (an hl) (fun k a x hx => by
  unfold jr ew; exact bH)
  (fun a => by unfold jr; exact cF) a_
def gf (v_s : aa) (eW : Int) (st : Unit) (x_ : am) : Option ((Unit) ⊕ ((Int) ⊕ (Int))) :=
 (if (x_.bC == eW) = true then some x_.bB else some false).bind fun q5 => if q5 = true then
 some (.inr (.inr x_.fId))
 else
 some (.inl ())
theorem zu (v_s : aa) (eW : Int) (a_ : Unit) (hl : v_s.ac.length ≤ 1000000) : ah (ly v_s eW) ab (0) = bk (gf v_s eW) (fun a_ => (.inl ((v_s.ac.length : Int)))) a_ v_s.ac :=
 ay v_s.ac (S := Int) (fun a_ k_ => (k_)) (gf v_s eW) (fun a_ => (.inl ((v_s.ac.length : Int)))) (an hl) (fun k a x hx => by
  unfold ly gf; exact bH)
  (fun a => by unfold ly; exact cF) a_
def gc (v_l : (List Int)) (st : aa) (x_ : Int) : Option ((aa) ⊕ ((aa × Int))) :=
 let v_s := st
 (yZ v_s x_).bind fun c12 => (fF c12 x_).bind fun c13 => let v_s : aa := c13
 (xI v_s x_).bind fun c14 => (jg v_s c14).bind fun c15 => let v_s : aa := c15
 some (.inl v_s)
theorem zo (v_l : (List Int)) (a_ : aa) (hl : v_l.length ≤ 1000000) : ah (lx v_l) ab (a_, (0)) = bk (gc v_l) (fun a_ => (a_, ((v_l.length : Int)))) a_ v_l :=
 ay v_l (S := aa × Int) (fun a_ k_ => (a_, (k_))) (gc v_l) (fun a_ => (a_, ((v_l.length : Int)))) (an hl) (fun k a x hx => by
  unfold lx gc; exact bH)
  (fun a => by unfold lx; exact cF) a_
def gb (v_l : (List Int)) (st : aa) (x_ : Int) : Option ((aa) ⊕ ((aa × Int))) :=
 let v_s := st
 (uT v_s x_).bind fun c17 => (jg v_s ([c17] : (List Int))).bind fun c18 => let v_s : aa := c18
 some (.inl v_s)
theorem zn (v_l : (List Int)) (a_ : aa) (hl : v_l.length ≤ 1000000) : ah (lw v_l) ab (a_, (0)) = bk (gb v_l) (fun a_ => (a_, ((v_l.length : Int)))) a_ v_l :=
 ay v_l (S := aa × Int) (fun a_ k_ => (a_, (k_))) (gb v_l) (fun a_ => (a_, ((v_l.length : Int)))) (an hl) (fun k a x hx => by
  unfold lw gb; exact bH)
  (fun a => by unfold lw; exact cF) a_
def ga (v_s : aa) (st : (List a7)) (x_ : a7) : Option (((List a7)) ⊕ (((List a7) × Int))) :=
 let yd := st
 if (decide (x_.jJ > v_s.bW)) = true then
 (aU yd [x_]).bind fun b21 => let yd : (List a7) := b21
 some (.inl yd)
 else
 some (.inl yd)
theorem zl (v_s : aa) (a_ : (List a7)) (hl : v_s.bg.length ≤ 1000000) : ah (lu v_s) ab (a_, (0)) = bk (ga v_s) (fun a_ => (a_, ((v_s.bg.length : Int)))) a_ v_s.bg :=
 ay v_s.bg (S := (List a7) × Int) (fun a_ k_ => (a_, (k_))) (ga v_s) (fun a_ => (a_, ((v_s.bg.length : Int)))) (an hl) (fun k a x hx => by
  unfold lu ga; exact bH)
  (fun a => by unfold lu; exact cF) a_
def i8 (v_l : (List a7)) (af : Int) (v_t : Int) (st : ax) (x_ : a7) : Option ((ax) ⊕ ((ax × Int))) :=
 let v_v := st
 (if (x_.aY == af) = true then some (decide (x_.nG ≤ v_t)) else some false).bind fun q8 => (if q8 = true then some (decide (v_t < x_.jJ)) else some false).bind fun q9 => if q9 = true then
 (dc v_v x_.iH).bind fun c10 => let v_v : ax := c10
 some (.inl v_v)
 else
 some (.inl v_v)
theorem CP (v_l : (List a7)) (af : Int) (v_t : Int) (a_ : ax) (hl : v_l.length ≤ 1000000) : ah (oU v_l af v_t) ab (a_, (0)) = bk (i8 v_l af v_t) (fun a_ => (a_, ((v_l.length : Int)))) a_ v_l :=
 ay v_l (S := ax × Int) (fun a_ k_ => (a_, (k_))) (i8 v_l af v_t) (fun a_ => (a_, ((v_l.length : Int)))) (an hl) (fun k a x hx => by
  unfold oU i8; exact bH)
  (fun a => by unfold oU; exact cF) a_
def gu (v_l : (List a7)) (v_t : Int) (gK : Int) (v_p : a7) (fJ : ax) (st : Unit) (x_ : a7) : Option ((Unit) ⊕ ((Int) ⊕ (Bool))) :=
 let v_u : Int := x_.nG
 (if (decide (v_u > v_t)) = true then some (decide ((i64.wrap (v_u - v_t)) < gK)) else some false).bind fun q10 => (if q10 = true then (u4 v_l v_p.aY v_u).bind fun c11 => (dc c11 v_p.iH).bind fun c12 => (fL c12 fJ).bind fun c13 => some (!c13) else some false).bind fun q14 => if q14 = true then
 some (.inr (.inr false))
 else
 some (.inl ())
theorem zH (v_l : (List a7)) (v_t : Int) (gK : Int) (v_p : a7) (fJ : ax) (a_ : Unit) (hl : v_l.length ≤ 1000000) : ah (lJ v_l v_t gK v_p fJ) ab (0) = bk (gu v_l v_t gK v_p fJ) (fun a_ => (.inl ((v_l.length : Int)))) a_ v_l :=
 ay v_l (S := Int) (fun a_ k_ => (k_)) (gu v_l v_t gK v_p fJ) (fun a_ => (.inl ((v_l.length : Int)))) (an hl) (fun k a x hx => by
  unfold lJ gu; exact bH)
  (fun a => by unfold lJ; exact cF) a_
def ib (v_s : aa) (v_p : a7) (st : Int) (v_i : Int) (x_ : a7) : Option ((Int) ⊕ ((Int × Int) ⊕ (aa × Int × Int))) :=
 let v_k := st
 if (x_.fId == v_p.fId) = true then
 some (.inr (.inr (v_s, 0, 7)))
 else
 if (decide (x_.fId < v_p.fId)) = true then
 let v_k : Int := (i64.wrap (v_i + 1))
 some (.inl v_k)
 else
 some (.inl v_k)
theorem BC (v_s : aa) (v_p : a7) (a_ : Int) (hl : v_s.bg.length ≤ 1000000) : ah (np v_s v_p) ab (a_, (0)) = ny (ib v_s v_p) (fun a_ => (.inl (a_, ((v_s.bg.length : Int))))) a_ 0 v_s.bg :=
 fa v_s.bg (S := Int × Int) (fun a_ k_ => (a_, (k_))) (ib v_s v_p) (fun a_ => (.inl (a_, ((v_s.bg.length : Int))))) (an hl) (fun k a x hx => by
  unfold np ib; exact bH)
  (fun a => by unfold np; exact cF) a_
def gv (v_s : aa) (bA : Int) (st : (List a7)) (x_ : a7) : Option (((List a7)) ⊕ (((List a7) × Int))) :=
 let v_l := st
 if (x_.fId != bA) = true then
 (aU v_l [x_]).bind fun b4 => let v_l : (List a7) := b4
 some (.inl v_l)
 else
 some (.inl v_l)
theorem zI (v_s : aa) (bA : Int) (a_ : (List a7)) (hl : v_s.bg.length ≤ 1000000) : ah (lK v_s bA) ab (a_, (0)) = bk (gv v_s bA) (fun a_ => (a_, ((v_s.bg.length : Int)))) a_ v_s.bg :=
 ay v_s.bg (S := (List a7) × Int) (fun a_ k_ => (a_, (k_))) (gv v_s bA) (fun a_ => (a_, ((v_s.bg.length : Int)))) (an hl) (fun k a x hx => by
  unfold lK gv; exact bH)
  (fun a => by unfold lK; exact cF) a_
theorem Uq (l : List a7) (k t : Int) (hl : l.length ≤ 1000000) : ∃ r, u4 l k t = some r := by
 unfold u4
 dsimp only
 rw [CP l k t _ hl]
 obtain ⟨r, e1, _⟩ := aR (g := i8 l k t) (fin := fun b => (b, (l.length : Int))) (fun _ _ => True) (fun _ => True) l 0 (⟨0, 0⟩ : ax) (fun j b x hx _ => by
  unfold i8
  simp only [eu, zb, dH]
  split <;> exact ⟨_, rfl, fun _ _ => trivial, fun _ _ => trivial⟩) (fun _ _ => trivial) trivial
 rw [e1]
 exact ⟨_, rfl⟩
def AtV (l : List a7) (k t : Int) : ax := (u4 l k t).getD ⟨0, 0⟩
theorem I1 (l : List a7) (k t : Int) (hl : l.length ≤ 1000000) : u4 l k t = some (AtV l k t) := by
 obtain ⟨r, e⟩ := Uq l k t hl
 unfold AtV
 rw [e]
 rfl
theorem Nq (n : Int) : uY n = some (decide (n ≥ 0) && decide (n ≤ 1073741824)) := by unfold uY; simp only [dH, zb]
def YP (l : List a7) (v : ax) (p : a7) (t n : Int) : Bool := (sf l v p t n).getD false
theorem Nr (l : List a7) (v : ax) (p : a7) (t n : Int) (hl : l.length ≤ 1000000) : sf l v p t n = some (YP l v p t n) := by
 have : ∃ r, sf l v p t n = some r := by
  unfold sf
  simp only [I1 l _ _ hl, eu, kx, zb]
  split
  ·exact ⟨_, rfl⟩
  rw [zH l t n p v () hl]
  obtain ⟨r, e1, _⟩ := aR (g := gu l t n p v) (fin := fun _ => (.inl (l.length : Int))) (fun _ _ => True) (fun _ => True) l 0 () (fun j b x hx _ => by
   unfold gu
   simp only [I1 l _ _ hl, eu, kx, zb, dH]
   split <;> exact ⟨_, rfl, fun _ _ => trivial, fun _ _ => trivial⟩) (fun _ _ => trivial) trivial
  rw [e1]
  cases r <;> exact ⟨_, rfl⟩
 obtain ⟨r, e⟩ := this
 unfold YP
 rw [e]
 rfl
theorem KG (l : List a7) (v : ax) (p : a7) (n : Int) (hl : l.length ≤ 1000000) : ∃ r, vP l v p n = some r := by
 unfold vP
 simp only [Nq, zb, orB]
 split
 ·exact ⟨_, rfl⟩
 have hw : ∀ k : Int, -1 ≤ k → k ≤ 1000000000 → i64.wrap (k + 1) = k + 1 := fun k h1 h2 => Hj (by omega) (by omega)
 obtain ⟨r, e1, _⟩ := aM (f := oe l p n v) (fun st => -1 ≤ st.2 ∧ st.2 ≤ (l.length : Int)) (fun st => ((l.length : Int) - st.2).toNat) (fun _ => True) (fun st ⟨h1, h2⟩ => by
  unfold oe
  by_cases hlt : st.2 < (l.length : Int)
  ·have hn : ((l.length : Int) - (st.2 + 1)).toNat < ((l.length : Int) - st.2).toNat := by omega
   simp only [hlt, decide_true, if_true, Nr l _ _ _ _ hl, dH, orB, zb, hw _ h1 (by omega)]
   by_cases h0 : st.2 ≥ 0
   ·obtain ⟨x, hx, _⟩ := L2 h0 hlt
    simp only [h0, decide_true, if_true, hx, zb]
    split <;> exact .inl ⟨_, rfl, ⟨by show -1 ≤ st.2 + 1; omega, by show st.2 + 1 ≤ _; omega⟩, hn⟩
   ·simp only [h0, decide_false, zf, if_false, zb]
    split <;> exact .inl ⟨_, rfl, ⟨by show -1 ≤ st.2 + 1; omega, by show st.2 + 1 ≤ _; omega⟩, hn⟩
  ·simp only [hlt, decide_false, zf, if_false]
   exact .inr ⟨_, rfl, trivial⟩) ab (-1, -1) ⟨by simp, by show (-1 : Int) ≤ _; omega⟩ (by show ((l.length : Int) - (-1)).toNat < ab; unfold ab; omega)
 rw [e1]
 simp only [zb]
 split <;> exact ⟨_, rfl⟩
theorem SzS.plan {B : Nat} {s : aa} (h : SzS B s) {l : List a7} (hl : l.length ≤ B) : SzS B { s with bg := l } := ⟨h.conf, h.nodes, h.apps, h.conts, h.slots, hl, h.app⟩
theorem Qp {B : Nat} {s : aa} (h : SzS B s) (hB : B + 1 ≤ 1000000) (p : a7) (n : Int) : ∃ r, zJ s p n = some r ∧ SzS (B + 1) r.1 ∧ r.1.ac = s.ac ∧ r.1.ai = s.ai := by
 have k1 := h.plans; have k2 := h.nodes.1
 have hm := h.mono (Nat.le_succ B)
 unfold zJ
 simp only [zb, orB]
 split
 ·exact ⟨_, rfl, hm, rfl, rfl⟩
 rw [BC s p 0 (by omega)]
 obtain ⟨r, e1, e2⟩ := mu (g := ib s p) (fin := fun b => (.inl (b, (s.bg.length : Int)))) (fun j b => ∃ K : Nat, b = (K : Int) ∧ K ≤ j) (fun r => match r with | .inl m => ∃ K : Nat, m.1 = (K : Int) ∧ K ≤ s.bg.length | .inr m => m.1 = s) s.bg 0 0 (fun j b x hx ⟨K, hK, hj⟩ => by
  have hj2 := (zg.1 hx).1
  unfold ib
  dsimp only
  split
  ·exact ⟨_, rfl, fun a' e => (by cases e), fun r e => (by injection e with e; subst e; rfl)⟩
  split
  ·refine ⟨_, rfl, fun a' e => ?_, fun r e => by cases e⟩
   injection e with e
   subst e
   exact ⟨0 + j + 1, a6 (by omega : 0 + j < 1000000) (Nat.le_refl _), Nat.le_refl _⟩
  ·refine ⟨_, rfl, fun a' e => ?_, fun r e => by cases e⟩
   injection e with e
   subst e
   exact ⟨K, hK, by omega⟩) (fun b ⟨K, hK, hj⟩ => ⟨K, hK, by omega⟩) ⟨0, rfl, Nat.le_refl _⟩
 rw [e1]
 simp only [zb]
 cases r with
 | inr m => exact ⟨_, rfl, by rw [show m.1 = s from e2]; exact hm, by rw [show m.1 = s from e2], by rw [show m.1 = s from e2]⟩
 | inl m =>
  obtain ⟨K, hK, hK2⟩ := e2
  obtain ⟨c, hc⟩ := KG s.bg (uM s p.aY) p n (by omega)
  simp only [hK, nK s _ (Nat.le_trans k2 (by omega)), hc, zb]
  split
  ·exact ⟨_, rfl, hm, rfl, rfl⟩
  split
  ·exact ⟨_, rfl, hm, rfl, rfl⟩
  split
  ·exact ⟨_, rfl, hm, rfl, rfl⟩
  rw [nZ hK2]
  simp only [zb]
  rw [aD (by simp; omega)]
  simp only [zb]
  rw [aD (by simp; omega)]
  simp only [zb]
  rw [ko hK2]
  simp only [zb]
  rw [aD (by simp; omega)]
  exact ⟨_, rfl, hm.plan (by simp; omega), rfl, rfl⟩
theorem Nu {B : Nat} {s : aa} (h : SzS B s) (hB : B ≤ 1000000) (id : Int) : ∃ r, uZ s id = some r ∧ SzS B r.1 ∧ r.1.ac = s.ac ∧ r.1.ai = s.ai := by
 have k1 := h.plans
 unfold uZ
 dsimp only
 have e : gv s id = fun acc x => if (x.fId != id) = true then (aU acc [id' x]).map (fun a => (.inl a : List a7 ⊕ (List a7 × Int))) else some (.inl acc) := by
  funext acc x
  unfold gv
  dsimp only [id']
  split
  ·cases aU acc [x] <;> rfl
  ·rfl
 rw [zI s id [] (by omega), e, cr (fun c : a7 => c.fId != id) id' _ s.bg [] (by simp; omega)]
 simp only [zb, List.nil_append, yC]
 split
 ·exact ⟨_, rfl, h, rfl, rfl⟩
 ·exact ⟨_, rfl, h.plan (Nat.le_trans (List.length_filter_le _ _) k1), rfl, rfl⟩
theorem ky (s : aa) (e : Int) : dE s e = some (s, ⟨e, [], [], [], 0⟩) := rfl
theorem OkS.node {M : Nat} {s : aa} (h : OkS M s) {l : List aX} (hl : l.length ≤ s.aB.length + 1) (hs : jK aX.fId l) (hn : ∀ n ∈ l, (0 ≤ n.bL ∧ n.bL ≤ 1000000000) ∧ 0 ≤ n.ce) : OkS (M + 1) { s with aB := l } := by
 obtain ⟨⟨B, h1, h2⟩, h3⟩ := h
 have k := h1.mono (Nat.le_succ B)
 have k1 := h1.nodes
 exact ⟨⟨B + 1, ⟨k.conf, ⟨by show l.length ≤ B + 1; omega, hs, k1.2.2.1, hn⟩, k.apps, k.conts, k.slots, k.plans, k.app⟩, by show B + 1 + s.ac.length ≤ _; omega⟩, h3⟩
theorem OkS.nodeIn {M : Nat} {s : aa} (h : OkS M s) {n : aX} (hi : sN s n.fId = true) (hn : (0 ≤ n.bL ∧ n.bL ≤ 1000000000) ∧ 0 ≤ n.ce) : OkS M { s with aB := cM aX.fId s.aB n } := by
 obtain ⟨⟨B, h1, h2⟩, h3⟩ := h
 have k1 := h1.nodes
 unfold sN at hi
 rw [List.any_eq_true] at hi
 obtain ⟨x, hx, hxe⟩ := hi
 have hlen := qM aX.fId n s.aB k1.2.1 ⟨x, hx, by simpa using hxe⟩
 exact ⟨⟨B, ⟨h1.conf, ⟨by show (cM _ _ _).length ≤ B; omega, iR _ _ _ k1.2.1, k1.2.2.1, fun y hy => by rcases mB hy with rfl | hy; exact hn; exact k1.2.2.2 y hy⟩, h1.apps, h1.conts, h1.slots, h1.plans, h1.app⟩, h2⟩, h3⟩
theorem OkS.small {M : Nat} {s : aa} (h : OkS M s) : s.aB.length ≤ M ∧ s.ai.length ≤ M ∧ s.ac.length ≤ M ∧ s.aQ.length ≤ M ∧ s.bg.length ≤ M := ⟨h.sz.nodes.1, h.sz.apps, h.sz.conts, h.sz.slots, h.sz.plans⟩
theorem LY {s : aa} {id : Int} (h : sN s id = true) : (eP s id).fId = id := by
 unfold sN at h
 rw [List.any_eq_true] at h
 obtain ⟨x, hx, e⟩ := h
 unfold eP
 cases hf : s.aB.find? fun c => c.fId == id with
 | none => have := List.find?_eq_none.1 hf x hx; exact absurd e (by simpa using this)
 | some a => simpa using List.find?_some hf
theorem U6 {M : Nat} {s : aa} (h : OkS M s) {id : Int} : (0 ≤ (eP s id).bL ∧ (eP s id).bL ≤ 1000000000) ∧ 0 ≤ (eP s id).ce := by
 unfold eP
 cases hf : s.aB.find? fun c => c.fId == id with
 | none => exact ⟨⟨Int.le_refl _, by decide⟩, Int.le_refl _⟩
 | some a => exact h.sz.nodes.2.2.2 a (List.mem_of_find?_eq_some hf)
theorem Ze {M : Nat} {s : aa} (h : OkS M s) (n : aX) : OkS (M + 1) (XC s n).1 := by
 unfold XC
 split
 ·exact h.mono (Nat.le_succ _)
 split
 ·exact h.mono (Nat.le_succ _)
 split
 ·exact h.mono (Nat.le_succ _)
 ·exact h.node (xd _ _ _) (iR _ _ _ h.sz.nodes.2.1) (fun y hy => by rcases mB hy with rfl | hy; exact ⟨h.sz.nodes.2.2.1, Int.le_refl _⟩; exact h.sz.nodes.2.2.2 y hy)
theorem Yz {M : Nat} {s : aa} (h : OkS M s) (id b : Int) : OkS M (ML s id b).1 := by
 unfold ML
 split
 ·exact h
 split
 ·exact h
 split
 ·exact h
 split
 ·exact h
 split
 ·exact h
 ·rename_i hu _ hb _ _
  have hu : sN s id = true := by simpa using hu
  exact h.nodeIn (n := { eP s id with bL := s.bW, ce := b }) (by show sN s (eP s id).fId = true; rw [LY hu]; exact hu) ⟨h.sz.nodes.2.2.1, by simpa using hb⟩
theorem Yi {M : Nat} {s : aa} (h : OkS M s) (id : Int) : OkS M (RX s id) := by
 unfold RX
 split
 ·rename_i hu
  exact h.nodeIn (n := { eP s id with fUp := false }) (by show sN s (eP s id).fId = true; rw [LY hu]; exact hu) (U6 h)
 ·exact h
theorem OkS.fewer {M : Nat} {s : aa} (h : OkS M s) {c : List am} {l : List bt} (hc : c.length ≤ s.ac.length) (hl : l.length ≤ s.aQ.length) : OkS M { s with ac := c, aQ := l } := by
 obtain ⟨⟨B, h1, h2⟩, h3⟩ := h
 exact ⟨⟨B, h1.fewer hc hl, by show B + c.length ≤ M; omega⟩, h3⟩
theorem OkS.put {M : Nat} {s : aa} (h : OkS M s) {a : aq} {k : Nat} (ha : ∀ B, SzS B s → SzA (B + k) a) : OkS (M + k + 1) { s with ai := cM aq.fId s.ai a } := by
 obtain ⟨⟨B, h1, h2⟩, h3⟩ := h
 have k1 := (h1.mono (Nat.le_add_right B k)).put ((ha B h1).mono (Nat.le_succ _))
 exact ⟨⟨B + k + 1, k1, by show B + k + 1 + s.ac.length ≤ _; omega⟩, iR _ _ _ h3⟩
theorem OkS.now {M : Nat} {s : aa} (h : OkS M s) {n : Int} (hn : 0 ≤ n ∧ n ≤ 1000000000) : OkS M { s with bW := n } := by
 obtain ⟨⟨B, h1, h2⟩, h3⟩ := h
 exact ⟨⟨B, ⟨h1.conf, ⟨h1.nodes.1, h1.nodes.2.1, hn, h1.nodes.2.2.2⟩, h1.apps, h1.conts, h1.slots, h1.plans, h1.app⟩, h2⟩, h3⟩
theorem OkS.epoch {M : Nat} {s : aa} (h : OkS M s) (n k : Int) : OkS M { s with pw := n, rM := k } := by
 obtain ⟨⟨B, h1, h2⟩, h3⟩ := h
 exact ⟨⟨B, ⟨h1.conf, h1.nodes, h1.apps, h1.conts, h1.slots, h1.plans, h1.app⟩, h2⟩, h3⟩
theorem OkS.newConf {M : Nat} {s : aa} (h : OkS M s) {c : aw} (hc : Au c) : OkS M { s with bN := c } := by
 obtain ⟨⟨B, h1, h2⟩, h3⟩ := h
 exact ⟨⟨B, ⟨hc, h1.nodes, h1.apps, h1.conts, h1.slots, h1.plans, h1.app⟩, h2⟩, h3⟩
theorem OkS.plans {M : Nat} {s : aa} (h : OkS M s) {l : List a7} (hl : l.length ≤ s.bg.length) : OkS M { s with bg := l } := by
 obtain ⟨⟨B, h1, h2⟩, h3⟩ := h
 exact ⟨⟨B, h1.plan (Nat.le_trans hl h1.plans), h2⟩, h3⟩
theorem OkS.lose {M : Nat} {s : aa} (h : OkS M s) (ids : List Int) (hI : ids.length ≤ 1000000) (hM : M + 1 ≤ 1000000) : ∃ r, jg s ids = some r ∧ OkS M r := by
 obtain ⟨r, h1, h2, h3, _⟩ := Gj h.m h.srt ids hI hM
 exact ⟨r, h1, h2, h3⟩
theorem OkS.r14 {M : Nat} {s : aa} (h : OkS M s) (hM : M + 100 ≤ 1000000) (id : Int) : ∃ r, p8 s id = some r ∧ OkS (M + 40) r.1 := by
 obtain ⟨⟨B, h1, h2⟩, h3⟩ := h
 obtain ⟨r, r1, r2, _⟩ := ND h1 h3 (by omega) id
 have r4 := F8 r1
 exact ⟨r, r1, ⟨B + 24 + 2, r2.1, by omega⟩, r2.2⟩
theorem Tu {M : Nat} {s : aa} (h : OkS M s) (hM : M ≤ 1000000) (text : ByteArray) : ∃ r, th s text = some r ∧ OkS M r.1 := by
 obtain ⟨p, p1, p2⟩ := M6 text
 have k1 := h.small
 have kc := h.sz.conf.sz.labels
 unfold th
 simp only [p1, zb]
 have hchk : ∃ e, (if (p.2 == 0) = true then Option.bind (uP p.1) fun c3 => some c3 else some p.2) = some e ∧ (e = 0 → Au p.1) := by
  split
  ·obtain ⟨c, c1, c2⟩ := M0 p2
   rw [c1]
   exact ⟨c, rfl, fun e => (c2 e).form⟩
  ·rename_i hne
   exact ⟨_, rfl, fun e => absurd (by rw [e]; rfl) hne⟩
 obtain ⟨e, e1, e2⟩ := hchk
 rw [e1]
 simp only [zb, ky]
 split
 ·exact ⟨_, rfl, h⟩
 rename_i hz
 have hf := e2 (by simpa using hz)
 split
 ·exact ⟨_, rfl, h⟩
 rename_i hlab
 have hlab : s.bN.ak.length ≤ p.1.ak.length := by have := of_decide_eq_false (by simpa using hlab : decide ((p.1.ak.length : Int) < (s.bN.ak.length : Int)) = false); omega
 rw [we s p.1 () (by omega)]
 obtain ⟨r, r1, r2⟩ := mu (g := ez s p.1) (fin := fun _ => (.inl (s.bN.ak.length : Int))) (fun _ _ => True) (fun r => ∀ m, r = .inr m → OkS M m.1) s.bN.ak 0 () (fun j a x hx _ => by
  have hj := (zg.1 hx).1
  unfold ez
  simp only [Nat.zero_add, aC (zq (show j < p.1.ak.length by omega)), zb, ky]
  split
  ·exact ⟨_, rfl, fun a' e => (by cases e), fun r e m em => (by injection e with e; subst e; injection em with em; subst em; exact h)⟩
  ·exact ⟨_, rfl, fun a' e => trivial, fun r e => (by cases e)⟩) (fun b _ m em => by cases em) trivial
 rw [r1]
 simp only [zb]
 cases r with
 | inr m => exact ⟨m, rfl, r2 m rfl⟩
 | inl m =>
  dsimp only
  rw [wd s p.1 () (by omega)]
  obtain ⟨q, q1, q2⟩ := aR (g := ey s p.1) (fin := fun _ => (.inl (s.ai.length : Int))) (fun _ _ => True) (fun r => ∀ m, r = .inr m → OkS M m.1) s.ai 0 () (fun j a x hx _ => by
   unfold ey
   simp only [ec, xG _ _ hf.sz, zb, ky, dH]
   split
   ·exact ⟨_, rfl, fun a' e => (by cases e), fun r e m em => (by injection e with e; subst e; injection em with em; subst em; exact h)⟩
   ·exact ⟨_, rfl, fun a' e => trivial, fun r e => (by cases e)⟩) (fun b _ m em => by cases em) trivial
  rw [q1]
  simp only [zb]
  cases q with
  | inr m => exact ⟨m, rfl, q2 m rfl⟩
  | inl m => exact ⟨_, rfl, h.newConf hf⟩
theorem Vu (s : aa) (n : Int) (hl : s.ac.length ≤ 1000000) : ∃ r, xI s n = some r ∧ r.length ≤ s.ac.length := by
 unfold xI
 dsimp only
 rw [CN s n [] hl]
 obtain ⟨r, r1, r2⟩ := aR (g := i6 s n) (fin := fun b => (b, (s.ac.length : Int))) (fun k b => b.length ≤ k) (fun r => r.1.length ≤ s.ac.length) s.ac 0 [] (fun j b x hx hb => by
  have hj := (zg.1 hx).1
  unfold i6
  dsimp only
  split
  ·rw [aD (by simp; omega)]
   exact ⟨_, rfl, fun a' e => (by injection e with e; subst e; simp; omega), fun r e => (by cases e)⟩
  ·exact ⟨_, rfl, fun a' e => (by injection e with e; subst e; omega), fun r e => (by cases e)⟩) (fun b hb => (by simpa using hb)) (by simp)
 rw [r1]
 exact ⟨_, rfl, r2⟩
theorem Ek (s : aa) (n : Int) (hl : s.ac.length ≤ 1000000) : ∃ r, nP s n = some r := by
 unfold nP
 dsimp only
 rw [uS s n [] hl]
 obtain ⟨r, r1, r2⟩ := aR (g := dR s n) (fin := fun b => (b, (s.ac.length : Int))) (fun k b => b.length ≤ k) (fun _ => True) s.ac 0 [] (fun j b x hx hb => by
  have hj := (zg.1 hx).1
  unfold dR
  simp only [dH, zb]
  split
  ·rw [aD (by simp; omega)]
   exact ⟨_, rfl, fun a' e => (by injection e with e; subst e; simp; omega), fun r e => (by cases e)⟩
  ·exact ⟨_, rfl, fun a' e => (by injection e with e; subst e; omega), fun r e => (by cases e)⟩) (fun b hb => trivial) (by simp)
 rw [r1]
 exact ⟨_, rfl⟩
theorem ME (ids : List Int) (s : aa) (hl : s.ac.length ≤ 1000000) (hi : ids.length ≤ 1000000) : ∃ r, sa s ids = some r := by
 unfold sa
 dsimp only
 rw [xJ ids s [] hi]
 obtain ⟨r, r1, r2⟩ := aR (g := fh ids s) (fin := fun b => (b, (ids.length : Int))) (fun k b => b.length ≤ k) (fun _ => True) ids 0 [] (fun j b x hx hb => by
  have hj := (zg.1 hx).1
  unfold fh
  simp only [kH s x hl, zb]
  split
  ·rw [aD (by simp; omega)]
   exact ⟨_, rfl, fun a' e => (by injection e with e; subst e; simp; omega), fun r e => (by cases e)⟩
  ·exact ⟨_, rfl, fun a' e => (by injection e with e; subst e; omega), fun r e => (by cases e)⟩) (fun b hb => trivial) (by simp)
 rw [r1]
 exact ⟨_, rfl⟩
theorem US (s : aa) (l more : List aL) (hl : l.length ≤ 100000) (hm : more.length ≤ 1000000) : ∃ r, vL s l more = some r ∧ r.1.length ≤ l.length + 8 := by
 unfold vL
 dsimp only
 rw [xH more s l hm]
 obtain ⟨r, r1, r2⟩ := aR (g := fg more s) (fin := fun b => (.inl (b, (more.length : Int)))) (fun _ b => b.length ≤ l.length + 8 ∧ b.length ≤ 100000) (fun r => (∀ m, r = .inl m → m.1.length ≤ l.length + 8) ∧ ∀ m, r = .inr m → m.1.length ≤ l.length + 8) more 0 l (fun j b x hx hb => by
  unfold fg
  simp only [MQ, zb]
  split
  ·exact ⟨_, rfl, fun a' e => (by cases e), fun r e => (by injection e with e; subst e; exact ⟨fun m em => (by cases em), fun m em => (by injection em with em; subst em; exact Nat.zero_le _)⟩)⟩
  obtain ⟨t, t1, t2⟩ := TH b x hb.2
  simp only [t1, zb]
  split
  ·exact ⟨_, rfl, fun a' e => (by cases e), fun r e => (by injection e with e; subst e; exact ⟨fun m em => (by cases em), fun m em => (by injection em with em; subst em; exact Nat.zero_le _)⟩)⟩
  ·exact ⟨_, rfl, fun a' e => (by injection e with e; subst e; exact ⟨by omega, by omega⟩), fun r e => (by cases e)⟩) (fun b hb => ⟨fun m em => (by injection em with em; subst em; exact hb.1), fun m em => (by cases em)⟩) ⟨by omega, hl⟩
 rw [r1]
 simp only [zb]
 cases r with
 | inr m => exact ⟨_, rfl, r2.2 _ rfl⟩
 | inl m => exact ⟨_, rfl, r2.1 m rfl⟩
theorem Yw (s : aa) (n : Int) (hl : s.ac.length ≤ 1000000) : ∃ r, uT s n = some r := by
 unfold uT
 dsimp only
 rw [zu s n () hl]
 obtain ⟨r, r1, r2⟩ := aR (g := gf s n) (fin := fun _ => (.inl (s.ac.length : Int))) (fun _ _ => True) (fun _ => True) s.ac 0 () (fun j b x hx hb => by
  unfold gf
  simp only [dH, zb]
  split
  ·exact ⟨_, rfl, fun a' e => trivial, fun r e => trivial⟩
  ·exact ⟨_, rfl, fun a' e => trivial, fun r e => trivial⟩) (fun b hb => trivial) trivial
 rw [r1]
 simp only [zb]
 cases r <;> exact ⟨_, rfl⟩
theorem LJ {M : Nat} {s : aa} (h : OkS M s) (hM : M + 100 ≤ 1000000) (x : aJ) (hx : x.fW.length ≤ 1000000) : ∃ r, zw s x = some r ∧ OkS (M + 40) r.1 := by
 have k1 := h.small
 unfold zw
 simp only [mJ s _ (show s.aB.length ≤ 1000000 by omega), zb, dH]
 obtain ⟨o, o1, _⟩ := Vu s x.fId (by omega)
 split
 ·rw [o1]
  exact ⟨_, rfl, h.mono (by omega)⟩
 rw [Pt s _ _ (by omega)]
 simp only [zb, ky]
 split
 ·exact ⟨_, rfl, h.mono (by omega)⟩
 have hb := Yz h x.fId x.ce
 generalize (ML s x.fId x.ce).1 = t at hb
 have k2 := hb.small
 rw [zv x t [] hx]
 obtain ⟨r, r1, r2⟩ := aR (g := gg x t) (fin := fun b => (b, (x.fW.length : Int))) (fun k b => b.length ≤ k) (fun r => r.1.length ≤ x.fW.length) x.fW 0 [] (fun j b y hy hb => by
  have hj := (zg.1 hy).1
  unfold gg
  simp only [kH t y (show t.ac.length ≤ 1000000 by omega), zb, dH]
  split
  ·rw [aD (by simp; omega)]
   exact ⟨_, rfl, fun a' e => (by injection e with e; subst e; simp; omega), fun r e => (by cases e)⟩
  ·exact ⟨_, rfl, fun a' e => (by injection e with e; subst e; omega), fun r e => (by cases e)⟩) (fun b hb => (by simpa using hb)) (by simp)
 rw [r1]
 simp only [zb]
 obtain ⟨a, a1, a2⟩ := hb.lose r.1 (by omega) (by omega)
 obtain ⟨c, c1, c2⟩ := a2.r14 (by omega) x.fId
 have k3 := c2.small
 obtain ⟨o, o1, _⟩ := Vu c.1 x.fId (by omega)
 simp only [a1, c1, o1, zb]
 exact ⟨_, rfl, c2⟩
theorem mH {α : Type} (p : α → Bool) (l : List α) : (l.filter p).length ≤ l.length := List.length_filter_le _ _
theorem SW {M : Nat} {s : aa} (h : OkS M s) (hM : M + 100 ≤ 100000) (x : aJ) (hx : x.fW.length ≤ 1000000) (ha : x.bE.length ≤ 1000000) : ∃ r, tg s x = some r ∧ OkS (M + 10) r.1 := by
 have k1 := h.small
 unfold tg
 simp only [dy s _ (show s.ai.length ≤ 1000000 by omega), zb, ky]
 have stay : OkS (M + 10) s := h.mono (by omega)
 split
 ·exact ⟨_, rfl, stay⟩
 split
 ·exact ⟨_, rfl, stay⟩
 split
 ·exact ⟨_, rfl, stay⟩
 have hA := h.sz.get x.fId
 obtain ⟨n, hn⟩ := Ek s (bQ s x.fId).fId (by omega)
 have q1 := hA.told; have q2 := hA.lost; have q3 := hA.asks; have q4 := hA.grants; have q5 := hA.kills
 split
 ·obtain ⟨c, hc⟩ := ME (bQ s x.fId).jH s (by omega) (by omega)
  simp only [hc, hn, zb]
  rw [aD (by simp; omega)]
  exact ⟨_, rfl, stay⟩
 split
 ·exact ⟨_, rfl, stay⟩
 obtain ⟨w, w1, w2⟩ := US s (bQ s x.fId).bE x.bE (by omega) ha
 simp only [w1, zb]
 split
 ·exact ⟨_, rfl, stay⟩
 rw [wb x (s, bQ s x.fId) hx]
 obtain ⟨r, r1, l, g, r2, r3, r4, r5⟩ := aR (g := ew x) (fin := fun b => (b.1, b.2, (x.fW.length : Int))) (fun _ b => ∃ (l : List am) (g : List Int), b.1 = { s with ac := l } ∧ l.length ≤ s.ac.length ∧ b.2 = { bQ s x.fId with bM := g } ∧ g.length ≤ (bQ s x.fId).bM.length) (fun r => ∃ (l : List am) (g : List Int), r.1 = { s with ac := l } ∧ l.length ≤ s.ac.length ∧ r.2.1 = { bQ s x.fId with bM := g } ∧ g.length ≤ (bQ s x.fId).bM.length) x.fW 0 (s, bQ s x.fId) (fun j b y hy ⟨l, g, b1, b2, b3, b4⟩ => by
  obtain ⟨bs, ba⟩ := b
  dsimp only at b1 b3
  subst b1
  subst b3
  unfold ew
  dsimp only
  rw [kH { s with ac := l } y (show l.length ≤ 1000000 by omega)]
  simp only [zb, dH]
  split
  ·rw [Cw { s with ac := l } _ (show l.length ≤ 1000000 by omega), ve g _ (by omega)]
   simp only [zb]
   exact ⟨_, rfl, fun a' e => (by injection e with e; subst e; exact ⟨_, _, rfl, Nat.le_trans (mH _ _) b2, rfl, Nat.le_trans (mH _ _) b4⟩), fun r e => (by cases e)⟩
  ·exact ⟨_, rfl, fun a' e => (by injection e with e; subst e; exact ⟨l, g, rfl, b2, rfl, b4⟩), fun r e => (by cases e)⟩) (fun b hb => hb) ⟨s.ac, (bQ s x.fId).bM, rfl, Nat.le_refl _, rfl, Nat.le_refl _⟩
 rw [r1]
 obtain ⟨rs, ra, ri⟩ := r
 dsimp only at r2 r4
 subst r2
 subst r4
 have ht : OkS M { s with ac := l } := h.fewer (c := l) (l := s.aQ) r3 (Nat.le_refl _)
 simp only [zb]
 obtain ⟨c, hc⟩ := ME g { s with ac := l } (show l.length ≤ 1000000 by omega) (by omega)
 obtain ⟨n, hn⟩ := Ek { s with ac := l } (bQ s x.fId).fId (show l.length ≤ 1000000 by omega)
 simp only [hc, hn, zb]
 rw [aD (by simp; omega)]
 simp only [zb]
 rw [jf { s with ac := l } _ (by show s.ai.length + 1 ≤ _; omega)]
 refine ⟨_, rfl, OkS.mono (ht.put (k := 8) (fun B hB => ?_)) (by omega)⟩
 have hb : SzA B (bQ s x.fId) := hB.get x.fId
 have p1 := hb.asks; have p2 := hb.grants; have p3 := hb.kills
 exact ⟨⟨hb.queue.1, hB.nodes.2.2.1⟩, by show w.1.length ≤ _; omega, Nat.zero_le _, Nat.zero_le _, by show g.length ≤ _; omega, by show (bQ s x.fId).dj.length ≤ _; omega⟩
theorem Wb {M : Nat} {s : aa} (h : OkS M s) (hM : M + 100 ≤ 100000) (id st : Int) : ∃ r, zr s id st = some r ∧ OkS (M + 10) r.1 := by
 have k1 := h.small
 unfold zr
 simp only [dy s _ (show s.ai.length ≤ 1000000 by omega), zb, ky, ec]
 split
 ·exact ⟨_, rfl, h.mono (by omega)⟩
 split
 ·exact ⟨_, rfl, h.mono (by omega)⟩
 unfold KR
 simp only [dy s id (show s.ai.length ≤ 1000000 by omega), zb, ec, orB]
 split
 ·exact ⟨_, rfl, h.mono (by omega)⟩
 ·rw [jf s _ (by omega)]
  simp only [zb]
  rw [Cu _ _ (by show s.ac.length ≤ _; omega) (by show s.aQ.length ≤ _; omega)]
  have ht := h.put (k := 0) (a := { bQ s id with cw := st, bE := [], bM := [], dj := [], jH := [], jP := [] }) (fun B hB => ⟨(hB.get id).queue, Nat.zero_le _, Nat.zero_le _, Nat.zero_le _, Nat.zero_le _, Nat.zero_le _⟩)
  exact ⟨_, rfl, (ht.fewer (c := s.ac.filter fun c => !(c.bC == id)) (l := s.aQ.filter fun c => c.bC != id) (mH _ _) (mH _ _)).mono (by omega)⟩
theorem OX (s : aa) (hl : s.ai.length ≤ 1000000) : ∃ l, tn s = some { s with ai := l } ∧ l.Sublist s.ai := by
 unfold tn
 dsimp only
 rw [wl s (false, []) hl]
 obtain ⟨r, h1, h2⟩ := aR (g := eH s) (fin := fun b => (b.1, b.2, (s.ai.length : Int))) (fun k b => b.2.length ≤ k ∧ b.2.Sublist (s.ai.take k)) (fun r => r.2.1.Sublist s.ai) s.ai 0 (false, []) (fun j b x hx ⟨hb, hm⟩ => by
  have hj := (zg.1 hx).1
  have hmono : ∀ {l : List aq}, l.Sublist (s.ai.take (0 + j)) → l.Sublist (s.ai.take (0 + j + 1)) := fun hk => hk.trans (List.take_sublist_take_left (by omega))
  unfold eH
  simp only [ec, dH, zb]
  split
  ·exact ⟨_, rfl, fun a' e => (by injection e with e; subst e; exact ⟨by show b.2.length ≤ _; omega, hmono hm⟩), fun r e => (by cases e)⟩
  ·rw [aD (by simp; omega)]
   refine ⟨_, rfl, fun a' e => ?_, fun r e => (by cases e)⟩
   injection e with e
   subst e
   refine ⟨by simp; omega, ?_⟩
   show (b.2 ++ [x]).Sublist _
   rw [List.take_add_one, show s.ai[0 + j]? = some x by rw [Nat.zero_add]; exact hx]
   exact hm.append (List.Sublist.refl _)) (fun b ⟨hb, hm⟩ => by simpa using hm) ⟨by simp, by simp⟩
 rw [h1]
 exact ⟨_, rfl, h2⟩
theorem OkS.apps {M : Nat} {s : aa} (h : OkS M s) {l : List aq} (hl : l.Sublist s.ai) : OkS M { s with ai := l } := by
 obtain ⟨⟨B, h1, h2⟩, h3⟩ := h
 exact ⟨⟨B, ⟨h1.conf, h1.nodes, Nat.le_trans hl.length_le h1.apps, h1.conts, h1.slots, h1.plans, fun x hx => h1.app x (hl.subset hx)⟩, h2⟩, List.Pairwise.sublist hl h3⟩
theorem Sn {M : Nat} {s : aa} (h : OkS M s) (hM : M + 100 ≤ 100000) (a : aq) (hq : a.bF.size ≤ 1000000) : ∃ r, tp s a = some r ∧ OkS (M + 10) r.1 := by
 have k1 := h.small
 have stay : OkS (M + 10) s := h.mono (by omega)
 unfold tp
 simp only [NL, orB, zb, dy s _ (show s.ai.length ≤ 1000000 by omega), xG _ _ h.sz.conf.sz]
 split
 ·exact ⟨_, rfl, stay⟩
 split
 ·exact ⟨_, rfl, stay⟩
 rw [wm s 0 (by omega)]
 obtain ⟨r, hr, _⟩ := aR (g := eI s) (fin := fun b => (b, (s.ai.length : Int))) (fun _ _ => True) (fun _ => True) s.ai 0 0 (fun j b x hx _ => by
  unfold eI
  simp only [ec, zb, sy]
  exact ⟨_, rfl, fun _ _ => trivial, fun _ _ => trivial⟩) (fun _ _ => trivial) trivial
 rw [hr]
 simp only [zb]
 split
 ·exact ⟨_, rfl, stay⟩
 split
 ·exact ⟨_, rfl, stay⟩
 obtain ⟨l, hl, hl1⟩ := OX s (by omega)
 have fin : ∀ t : aa, OkS M t → ∃ r, Option.bind (pa a) (fun c17 => Option.bind (eb t ⟨a.fId, 1, a.bF, a.cW, a.bu, a.bB, c17, t.bW, 0, [], [], [], []⟩) fun c18 => some (c18, (0 : Int))) = some r ∧ OkS (M + 10) r.1 := by
  intro t ht
  have h5 := ht.small
  rw [Ad]
  simp only [zb]
  rw [jf t _ (by omega)]
  exact ⟨_, rfl, (ht.put (k := 1) (a := ⟨a.fId, 1, a.bF, a.cW, a.bu, a.bB, [⟨0, 0, a.bB, 1, -1, -1, 0⟩], t.bW, 0, [], [], [], []⟩) fun B hB => ⟨⟨hq, hB.nodes.2.2.1⟩, by simp, Nat.zero_le _, Nat.zero_le _, Nat.zero_le _, Nat.zero_le _⟩).mono (by omega)⟩
 split
 ·rw [hl]
  simp only [zb]
  exact fin { s with ai := l } (h.apps hl1)
 ·exact fin s h
theorem OkS.noSlot {M : Nat} {s : aa} (h : OkS M s) (hM : M ≤ 1000000) (n : Int) : ∃ r, fF s n = some r ∧ OkS M r := by
 have k1 := h.small
 exact ⟨_, wF s n (by omega), h.fewer (c := s.ac) (Nat.le_refl _) (mH _ _)⟩
theorem Xt {M : Nat} {s : aa} (h : OkS M s) (hM : M + 100 ≤ 100000) (n : Int) : ∃ r, zp s n = some r ∧ OkS (M + 10) r.1 := by
 have k1 := h.small
 have stay : OkS (M + 10) s := h.mono (by omega)
 unfold zp
 simp only [orB, zb, ky]
 split
 ·exact ⟨_, rfl, stay⟩
 split
 ·exact ⟨_, rfl, stay⟩
 rename_i hq1 hq2
 have hq1 : 1 ≤ n ∧ n ≤ 100 := by
  have h9 : (decide (n < 1) || decide (n > 100)) = false := by simpa using hq1
  simp at h9
  omega
 have hnow := h.sz.nodes.2.2.1
 have hq2 : i64.wrap (s.bW + n) = s.bW + n ∧ s.bW + n ≤ 1000000000 := by
  have e : i64.wrap (s.bW + n) = s.bW + n := by rw [IntKind.wrap_i64]; omega
  have h9 : ¬ (i64.wrap (s.bW + n) > 1000000000) := fun h => hq2 (by simpa using h)
  exact ⟨e, by omega⟩
 have h1 := h.now (n := i64.wrap (s.bW + n)) (by rw [hq2.1]; omega)
 have hconts : ({ s with bW := i64.wrap (s.bW + n) } : aa).ac.length ≤ M := h1.small.2.2.1
 generalize ({ s with bW := i64.wrap (s.bW + n) } : aa) = t at h1
 have k2 := h1.small
 rw [Kn t (by omega)]
 simp only [zb]
 have hl : ((t.aB.filter fun b => b.fUp && decide (i64.wrap (t.bW - b.bL) ≥ 10)).map aX.fId).length ≤ 1000000 := by
  rw [List.length_map]
  exact Nat.le_trans (mH _ _) (by omega)
 generalize ((t.aB.filter fun b => b.fUp && decide (i64.wrap (t.bW - b.bL) ≥ 10)).map aX.fId) = l at hl
 rw [zo l t hl]
 obtain ⟨r, r1, r2⟩ := aR (g := gc l) (fin := fun b => (b, (l.length : Int))) (fun _ b => OkS M b) (fun r => OkS M r.1) l 0 t (fun j b y hy hb => by
  have k3 := hb.small
  unfold gc
  dsimp only
  rw [Pr b y (by omega)]
  simp only [zb]
  obtain ⟨c, c1, c2⟩ := (Yi hb y).noSlot (by omega) y
  have k4 := c2.small
  obtain ⟨o, o1, o2⟩ := Vu c y (by omega)
  obtain ⟨z, z1, z2⟩ := c2.lose o (by omega) (by omega)
  simp only [c1, o1, z1, zb]
  exact ⟨_, rfl, fun a' e => (by injection e with e; subst e; exact z2), fun r e => (by cases e)⟩) (fun b hb => hb) h1
 rw [r1]
 simp only [zb]
 have k5 := r2.small
 rw [wK r.1 (by omega)]
 simp only [zb]
 have hl2 : ((r.1.ai.filter fun b => b.cw == 2 && decide (i64.wrap (r.1.bW - b.bL) ≥ 15)).map aq.fId).length ≤ 1000000 := by
  rw [List.length_map]
  exact Nat.le_trans (mH _ _) (by omega)
 generalize ((r.1.ai.filter fun b => b.cw == 2 && decide (i64.wrap (r.1.bW - b.bL) ≥ 15)).map aq.fId) = l2 at hl2
 rw [zn l2 r.1 hl2]
 obtain ⟨q, q1, q2⟩ := aR (g := gb l2) (fin := fun b => (b, (l2.length : Int))) (fun _ b => OkS M b) (fun r => OkS M r.1) l2 0 r.1 (fun j b y hy hb => by
  have k3 := hb.small
  unfold gb
  dsimp only
  obtain ⟨c, c1⟩ := Yw b y (by omega)
  obtain ⟨z, z1, z2⟩ := hb.lose [c] (by simp) (by omega)
  simp only [c1, z1, zb]
  exact ⟨_, rfl, fun a' e => (by injection e with e; subst e; exact z2), fun r e => (by cases e)⟩) (fun b hb => hb) r2
 rw [q1]
 simp only [zb]
 have k6 := q2.small
 rw [zl q.1 [] (by omega)]
 obtain ⟨p, p1, p2⟩ := aR (g := ga q.1) (fin := fun b => (b, (q.1.bg.length : Int))) (fun k b => b.length ≤ k) (fun r => r.1.length ≤ q.1.bg.length) q.1.bg 0 [] (fun j b y hy hb => by
  have hj := (zg.1 hy).1
  unfold ga
  dsimp only
  split
  ·rw [aD (by simp; omega)]
   exact ⟨_, rfl, fun a' e => (by injection e with e; subst e; simp; omega), fun r e => (by cases e)⟩
  ·exact ⟨_, rfl, fun a' e => (by injection e with e; subst e; omega), fun r e => (by cases e)⟩) (fun b hb => (by simpa using hb)) (by simp)
 rw [p1]
 simp only [zb]
 obtain ⟨z, z1, z2, z3⟩ := KD (q2.plans p2) (by omega)
 have k7 := z2.small
 simp only [z1, zb]
 rw [Cl s z.1 (by omega) (by omega)]
 exact ⟨_, rfl, z2.mono (by omega)⟩
theorem ZE {M : Nat} {s : aa} (h : OkS M s) (hM : M + 100 ≤ 100000) (p : a7) (n : Int) : ∃ r, zJ s p n = some r ∧ OkS (M + 10) r.1 := by
 obtain ⟨⟨B, h1, h2⟩, h3⟩ := h
 obtain ⟨r, r1, r2, r3, r4⟩ := Qp h1 (by omega) p n
 exact ⟨r, r1, ⟨B + 1, r2, by rw [r3]; omega⟩, by rw [r4]; exact h3⟩
theorem Yh {M : Nat} {s : aa} (h : OkS M s) (hM : M + 100 ≤ 100000) (id : Int) : ∃ r, uZ s id = some r ∧ OkS (M + 10) r.1 := by
 obtain ⟨⟨B, h1, h2⟩, h3⟩ := h
 obtain ⟨r, r1, r2, r3, r4⟩ := Nu h1 (by omega) id
 exact ⟨r, r1, ⟨B, r2, by rw [r3]; omega⟩, by rw [r4]; exact h3⟩
structure InP (x : aJ) : Prop where
 ids : x.fW.length ≤ 1000000
 asks : x.bE.length ≤ 1000000
 queue : x.bC.bF.size ≤ 1000000
theorem nY {α : Type} {c : Prop} [Decidable c] {a b : Option α} {Q : α → Prop} (h1 : ∃ r, a = some r ∧ Q r) (h2 : ∃ r, b = some r ∧ Q r) : ∃ r, (if c then a else b) = some r ∧ Q r := by
 by_cases h : c
 ·rw [if_pos h]; exact h1
 ·rw [if_neg h]; exact h2
theorem Sb {M : Nat} {s : aa} (h : OkS M s) (hM : M + 100 ≤ 100000) {x : aJ} (hx : InP x) : ∃ r, sd s x = some r ∧ OkS (M + 40) r.1 := by
 have k1 := h.small
 have up : ∀ {o : Option (aa × br)}, (∃ r, o = some r ∧ OkS (M + 10) r.1) → ∃ r, (Option.bind o fun c => some c) = some r ∧ OkS (M + 40) r.1 := fun ⟨r, e, hr⟩ => by
  rw [e]
  exact ⟨r, rfl, hr.mono (by omega)⟩
 unfold sd
 refine nY ?_ ?_
 ·obtain ⟨r, r1, r2⟩ := Tu h (by omega) x.Me
  exact up ⟨r, r1, r2.mono (by omega)⟩
 refine nY ?_ ?_
 ·rw [FH s _ (by omega)]
  exact ⟨_, rfl, (Ze h x.bG).mono (by omega)⟩
 refine nY ?_ ?_
 ·obtain ⟨r, r1, r2⟩ := LJ h (by omega) x hx.ids
  rw [r1]
  exact ⟨_, rfl, r2⟩
 refine nY ?_ ?_
 ·obtain ⟨r, r1, r2⟩ := Sn h hM x.bC hx.queue
  rw [r1]
  exact ⟨_, rfl, r2.mono (by omega)⟩
 refine nY ?_ ?_
 ·exact up (SW h hM x hx.ids hx.asks)
 refine nY ?_ ?_
 ·exact up (Wb h hM x.fId 3)
 refine nY ?_ ?_
 ·exact up (Wb h hM x.fId 4)
 refine nY ?_ ?_
 ·exact up (Xt h hM x.fN)
 refine nY ?_ ?_
 ·obtain ⟨r, r1, r2⟩ := ZE h hM x.pv x.fN
  rw [r1]
  exact ⟨_, rfl, r2.mono (by omega)⟩
 refine nY ?_ ?_
 ·obtain ⟨r, r1, r2⟩ := Yh h hM x.fId
  rw [r1]
  exact ⟨_, rfl, r2.mono (by omega)⟩
 refine nY ?_ ?_
 ·refine nY ?_ ?_
  ·exact ⟨_, rfl, h.mono (by omega)⟩
  ·exact ⟨_, rfl, (h.epoch (i64.wrap (s.pw + 1)) 0).mono (by omega)⟩
 ·exact ⟨_, rfl, h.mono (by omega)⟩
def AP : aa := ⟨⟨[⟨#[]⟩], [⟨⟨#[114, 111, 111, 116]⟩, [⟨10000, 10000⟩], 10000⟩]⟩, [], [], [], [], [], 0, 0, 0⟩
theorem FW : zx = some AP := rfl
theorem XA : y6 ⟨#[114, 111, 111, 116]⟩ = some [⟨#[114, 111, 111, 116]⟩] := by kernel_rfl
theorem Jz : OkS 1 AP := by
 refine ⟨⟨0, ⟨⟨⟨by decide, by decide, ?_, ?_⟩, ?_, ?_, ⟨by decide, ?_⟩, by decide, ?_, ?_⟩, ⟨by decide, List.Pairwise.nil, by decide, fun n hn => by cases hn⟩, by decide, by decide, by decide, by decide, ?_⟩, by decide⟩, List.Pairwise.nil⟩
 ·intro q hq; simp only [AP, List.mem_singleton] at hq; subst hq; decide
 ·intro q hq; simp only [AP, List.mem_singleton] at hq; subst hq; decide
 ·intro q hq; simp only [AP, List.mem_singleton] at hq; subst hq; rfl
 ·intro q hq r hr x hx
  simp only [AP, List.mem_singleton] at hq
  subst hq
  rw [XA] at hr
  injection hr with hr
  subst hr
  simp only [List.mem_singleton] at hx
  subst hx
  exact Dq (c := AP.bN) (q := ⟨⟨#[114, 111, 111, 116]⟩, [⟨10000, 10000⟩], 10000⟩) (by simp [AP])
 ·intro q hq; simp only [AP, List.mem_singleton] at hq; subst hq; show dv 6 _ ≤ 4; rw [show dv 6 ⟨#[114, 111, 111, 116]⟩ = 1 by kernel_rfl]; decide
 ·exact ⟨⟨⟨#[114, 111, 111, 116]⟩, [⟨10000, 10000⟩], 10000⟩, by simp [AP], by kernel_rfl⟩
 ·intro x hx; simp only [AP, List.mem_singleton] at hx; subst hx; decide
 ·intro a ha; cases ha
def fq (v_c : aw) (st : (List ByteArray)) (x_ : az) : Option (((List ByteArray)) ⊕ (((List ByteArray) × Int))) :=
 let v_l := st
 (jV v_c x_.aF).bind fun c5 => if c5 = true then
 (aU v_l [x_.aF]).bind fun b6 => let v_l : (List ByteArray) := b6
 some (.inl v_l)
 else
 some (.inl v_l)
theorem xV (v_c : aw) (a_ : (List ByteArray)) (hl : v_c.ae.length ≤ 1000000) : ah (kh v_c) ab (a_, (0)) = bk (fq v_c) (fun a_ => (a_, ((v_c.ae.length : Int)))) a_ v_c.ae :=
 ay v_c.ae (S := (List ByteArray) × Int) (fun a_ k_ => (a_, (k_))) (fq v_c) (fun a_ => (a_, ((v_c.ae.length : Int)))) (an hl) (fun k a x hx => by
  unfold kh fq; exact bH)
  (fun a => by unfold kh; exact cF) a_
def dg (v_s : aa) (v_p : aq) (v_a : aP) (st : aJ) (v_i : Int) (x_ : am) : Option ((aJ) ⊕ ((aJ × Int))) :=
 let v_x := st
 (if (x_.bC == v_p.fId) = true then (bh (i64.wrap (v_a.fD + v_i)) 11).bind fun c23 => some (c23 == 10) else some false).bind fun q24 => if q24 = true then
 (aU v_x.fW [x_.fId]).bind fun b25 => let v_x : aJ := { v_x with fW := b25 }
 some (.inl v_x)
 else
 some (.inl v_x)
theorem tr (v_s : aa) (v_p : aq) (v_a : aP) (a_ : aJ) (hl : v_s.ac.length ≤ 1000000) : ah (fM v_s v_p v_a) ab (a_, (0)) = ny (dg v_s v_p v_a) (fun a_ => (a_, ((v_s.ac.length : Int)))) a_ 0 v_s.ac :=
 fa v_s.ac (S := aJ × Int) (fun a_ k_ => (a_, (k_))) (dg v_s v_p v_a) (fun a_ => (a_, ((v_s.ac.length : Int)))) (an hl) (fun k a x hx => by
  unfold fM dg; exact bH)
  (fun a => by unfold fM; exact cF) a_
def dA (v_s : aa) (v_a : aP) (bA : Int) (st : aJ) (x_ : aX) : Option ((aJ) ⊕ ((aJ × Int))) :=
 let v_x := st
 if (x_.fId == bA) = true then
 (bh v_a.fB 8).bind fun c17 => let v_x : aJ := { v_x with ce := (i64.wrap ((i64.wrap (x_.ce + 1)) - (i64.wrap (Int.tdiv c17 6)))) }
 some (.inl v_x)
 else
 some (.inl v_x)
theorem tT (v_s : aa) (v_a : aP) (bA : Int) (a_ : aJ) (hl : v_s.aB.length ≤ 1000000) : ah (gU v_s v_a bA) ab (a_, (0)) = bk (dA v_s v_a bA) (fun a_ => (a_, ((v_s.aB.length : Int)))) a_ v_s.aB :=
 ay v_s.aB (S := aJ × Int) (fun a_ k_ => (a_, (k_))) (dA v_s v_a bA) (fun a_ => (a_, ((v_s.aB.length : Int)))) (an hl) (fun k a x hx => by
  unfold gU dA; exact bH)
  (fun a => by unfold gU; exact cF) a_
def dz (v_s : aa) (bA : Int) (v_a : aP) (st : aJ) (aI : Int) (x_ : am) : Option ((aJ) ⊕ ((aJ × Int))) :=
 let v_x := st
 (if (x_.bG == bA) = true then (bh (i64.wrap (v_a.fC + aI)) 9).bind fun c23 => some (c23 == 8) else some false).bind fun q24 => if q24 = true then
 (aU v_x.fW [x_.fId]).bind fun b25 => let v_x : aJ := { v_x with fW := b25 }
 some (.inl v_x)
 else
 some (.inl v_x)
theorem tS (v_s : aa) (bA : Int) (v_a : aP) (a_ : aJ) (hl : v_s.ac.length ≤ 1000000) : ah (gS v_s bA v_a) ab (a_, (0)) = ny (dz v_s bA v_a) (fun a_ => (a_, ((v_s.ac.length : Int)))) a_ 0 v_s.ac :=
 fa v_s.ac (S := aJ × Int) (fun a_ k_ => (a_, (k_))) (dz v_s bA v_a) (fun a_ => (a_, ((v_s.ac.length : Int)))) (an hl) (fun k a x hx => by
  unfold gS dz; exact bH)
  (fun a => by unfold gS; exact cF) a_
def cT (v_x : aH) (st : aa) (x_ : aP) : Option ((aa) ⊕ ((aa × Int))) :=
 let v_s := st
 (gV x_ v_s).bind fun c9 => (sd v_s c9).bind fun c10 => let v_s : aa := c10.1
 some (.inl v_s)
theorem rj (v_x : aH) (a_ : aa) (hl : v_x.mg.length ≤ 1000000) : ah (eM v_x) ab (a_, (0)) = bk (cT v_x) (fun a_ => (a_, ((v_x.mg.length : Int)))) a_ v_x.mg :=
 ay v_x.mg (S := aa × Int) (fun a_ k_ => (a_, (k_))) (cT v_x) (fun a_ => (a_, ((v_x.mg.length : Int)))) (an hl) (fun k a x hx => by
  unfold eM cT; exact bH)
  (fun a => by unfold eM; exact cF) a_
theorem aV (a : Int) {n : Int} (h0 : 0 < n) (h1 : n ≤ 1000000000) : Ok (bh a n) (fun k => 0 ≤ k ∧ k < n) := by
 unfold bh CC
 rw [if_neg (by omega)]
 have h := Df (a := a) h0
 simp only [zb]
 refine Ok.bind (P := fun k => 0 ≤ k ∧ k < n) (Ok.ite (fun hc => ?_) fun hc => ?_) fun r hr => Ok.pure hr
 ·have := zd hc
  refine Ok.pure ?_
  rw [IntKind.wrap_i64]; omega
 ·have := of_decide_eq_false (by simpa using hc : decide (a.tmod n < 0) = false)
  exact Ok.pure (by omega)
theorem xU (n : Int) : Ok (vU n) (fun _ => True) := by
 unfold vU
 exact Ok.bind (aV _ (by omega) (by omega)) fun k hk => Ok.bind (jl hk.1 hk.2) fun b _ => Ok.pure trivial
theorem KV {c : aw} (h : Au c) : Ok (vV c) (fun l => 0 < l.length ∧ l.length ≤ 1000 ∧ ∀ x ∈ l, x.size ≤ 1000000) := by
 have hq := h.sz.queues
 unfold vV
 dsimp only
 have e : fq c = fun acc x => if B3 c x.aF = true then (aU acc [x.aF]).map (fun a => (.inl a : List ByteArray ⊕ (List ByteArray × Int))) else some (.inl acc) := by
  funext acc x
  unfold fq
  simp only [xG _ _ h.sz, zb]
  split
  ·cases aU acc [x.aF] <;> rfl
  ·rfl
 rw [xV c [] (by omega), e, cr (fun q : az => B3 c q.aF) az.aF _ c.ae [] (by simp; omega)]
 simp only [zb, List.nil_append]
 refine Ok.pure ⟨?_, ?_, fun x hx => ?_⟩
 ·obtain ⟨q, hq, hl⟩ := h.leaf
  rw [List.length_map]
  exact List.length_pos_of_mem (List.mem_filter.2 ⟨hq, hl⟩)
 ·rw [List.length_map]
  exact Nat.le_trans (List.length_filter_le _ _) hq
 ·obtain ⟨q, hq, rfl⟩ := List.mem_map.1 hx
  exact h.sz.paths q (List.mem_filter.1 hq).1
theorem KU {M : Nat} {s : aa} (h : OkS M s) (hM : M ≤ 100000) (a : aP) : Ok (nw a s) InP := by
 have k1 := h.small
 have hlab := h.sz.conf.lab1
 have hlab2 := h.sz.conf.sz.labels
 unfold nw
 dsimp only
 refine Ok.ite (fun _ => Ok.pure ⟨by simp, by simp, by decide⟩) fun hc => ?_
 have hn : (s.ai.length : Int) ≠ 0 := fun e => hc (by rw [e]; rfl)
 refine Ok.bind (aV _ (by omega) (by omega)) fun w hw => Ok.bind (jl hw.1 hw.2) fun p _ => Ok.bind (aV _ (by omega) (by omega)) fun u _ => ?_
 refine Ok.bind (P := fun x : aJ => x.fW = [] ∧ x.bE.length ≤ 1 ∧ x.bC.bF.size = 0) (Ok.ite (fun _ => ?_) fun _ => Ok.pure ⟨rfl, by simp, rfl⟩) fun x ⟨x1, x2, x3⟩ => ?_
 ·refine Ok.bind (aV _ (by omega) (by omega)) fun c7 _ => Ok.bind (aV _ (by omega) (by omega)) fun c8 _ => Ok.bind (xU _) fun c9 _ => Ok.bind (aV _ (by omega) (by omega)) fun c10 _ => ?_
  refine Ok.bind (P := fun j : aL × aJ => j.2.fW = [] ∧ j.2.bC.bF.size = 0) (Ok.ite (fun _ => Ok.bind (aV _ (by omega) (by omega)) fun _ _ => Ok.pure ⟨rfl, rfl⟩) fun _ => Ok.pure ⟨rfl, rfl⟩) fun j1 ⟨j2, j3⟩ => ?_
  refine Ok.bind (P := fun j : aL × aJ => j.2.fW = [] ∧ j.2.bC.bF.size = 0) (Ok.ite (fun _ => Ok.bind (aV _ (by omega) (by omega)) fun _ _ => Ok.bind (aV _ (by omega) (by omega)) fun _ _ => Ok.pure ⟨j2, j3⟩) fun _ => Ok.pure ⟨j2, j3⟩) fun j4 ⟨j5, j6⟩ => Ok.pure ⟨j5, by simp, j6⟩
 ·rw [tr s p a x (by omega)]
  refine Ok.bind (ub (g := dg s p a) (fin := fun a_ => (a_, ((s.ac.length : Int)))) (fun k b => b.fW.length ≤ k ∧ b.bE.length ≤ 1 ∧ b.bC.bF.size = 0) s.ac x (fun j b y hy ⟨b1, b2, b3⟩ => ?_) ⟨by rw [x1]; simp, x2, x3⟩) fun r ⟨q, e, q1, q2, q3⟩ => ?_
  ·have hj := (zg.1 hy).1
   unfold dg
   dsimp only
   refine Ok.bind (P := fun _ => True) (Ok.ite (fun _ => Ok.bind (aV _ (by omega) (by omega)) fun _ _ => Ok.pure trivial) fun _ => Ok.pure trivial) fun t _ => Ok.ite (fun _ => ?_) fun _ => Ok.pure ⟨_, rfl, by omega, b2, b3⟩
   rw [aD (by simp; omega)]
   exact Ok.pure ⟨_, rfl, by simp; omega, b2, b3⟩
  ·subst e
   exact Ok.pure ⟨by dsimp only; omega, by dsimp only; omega, by dsimp only; omega⟩
theorem NS {M : Nat} {s : aa} (h : OkS M s) (hM : M ≤ 100000) (a : aP) : Ok (gV a s) InP := by
 have k1 := h.small
 have hlab := h.sz.conf.lab1
 have hlab2 := h.sz.conf.sz.labels
 have orOk : ∀ {c : Prop} [Decidable c] {d : Bool}, Ok (if c then some true else some d) (fun _ => True) := fun {c} _ {d} => Ok.ite (fun _ => Ok.pure trivial) fun _ => Ok.pure trivial
 have hx0 : ∀ k id b n t nd ap pl, ap.bF.size ≤ 1000000 → InP (⟨k, id, b, n, t, nd, ap, [], [], pl⟩ : aJ) := fun k id b n t nd ap pl hq => ⟨by simp, by simp, hq⟩
 unfold gV
 dsimp only
 refine Ok.bind (aV _ (by omega) (by omega)) fun c1 _ => Ok.bind (KV h.sz.conf) fun lv ⟨l1, l2, l3⟩ => Ok.bind (aV _ (by omega) (by omega)) fun c5 _ => Ok.bind (aV _ (by omega) (by omega)) fun c6 _ => Ok.bind orOk fun q7 _ => ?_
 refine Ok.bind (P := InP) (Ok.ite (fun _ => ?_) fun _ => ?_) fun r hr => Ok.pure hr
 ·exact Ok.bind (aV _ (by omega) (by omega)) fun _ _ => Ok.bind (aV _ (by omega) (by omega)) fun _ _ => Ok.bind (aV _ (by omega) (by omega)) fun _ _ => Ok.bind (aV _ (by omega) (by omega)) fun _ _ => Ok.pure (hx0 _ _ _ _ _ _ _ _ (by decide))
 refine Ok.bind (P := fun _ => True) (Ok.ite (fun _ => Ok.pure trivial) fun _ => Ok.ite (fun _ => Ok.pure trivial) fun _ => orOk) fun q13 _ => Ok.ite (fun _ => ?_) fun _ => ?_
 ·rw [tT s a c1 _ (by omega)]
  refine Ok.bind (D1 (g := dA s a c1) (fin := fun a_ => (a_, ((s.aB.length : Int)))) (fun k b => b.fW = [] ∧ b.bE = [] ∧ b.bC.bF.size = 0) s.aB _ (fun j b y hy ⟨b1, b2, b3⟩ => ?_) ⟨rfl, rfl, rfl⟩) fun r ⟨q, e, q1, q2, q3⟩ => ?_
  ·unfold dA
   dsimp only
   exact Ok.ite (fun _ => Ok.bind (aV _ (by omega) (by omega)) fun _ _ => Ok.pure ⟨_, rfl, b1, b2, b3⟩) fun _ => Ok.pure ⟨_, rfl, b1, b2, b3⟩
  subst e
  dsimp only
  rw [tS s c1 a q (by omega)]
  refine Ok.bind (ub (g := dz s c1 a) (fin := fun a_ => (a_, ((s.ac.length : Int)))) (fun k b => b.fW.length ≤ k ∧ b.bE = [] ∧ b.bC.bF.size = 0) s.ac q (fun j b y hy ⟨b1, b2, b3⟩ => ?_) ⟨by rw [q1]; simp, q2, q3⟩) fun r ⟨q, e, q1, q2, q3⟩ => ?_
  ·have hj := (zg.1 hy).1
   unfold dz
   dsimp only
   refine Ok.bind (P := fun _ => True) (Ok.ite (fun _ => Ok.bind (aV _ (by omega) (by omega)) fun _ _ => Ok.pure trivial) fun _ => Ok.pure trivial) fun t _ => Ok.ite (fun _ => ?_) fun _ => Ok.pure ⟨_, rfl, by omega, b2, b3⟩
   rw [aD (by simp; omega)]
   exact Ok.pure ⟨_, rfl, by simp; omega, b2, b3⟩
  ·subst e
   exact Ok.pure ⟨by dsimp only; omega, by dsimp only; rw [q2]; simp, by dsimp only; omega⟩
 refine Ok.bind orOk fun q24 _ => Ok.ite (fun _ => ?_) fun _ => ?_
 ·exact Ok.bind (aV _ (by omega) (by omega)) fun _ _ => Ok.bind (aV _ (by omega) (by omega)) fun w hw => Ok.bind (jl hw.1 hw.2) fun b hb => Ok.bind (aV _ (by omega) (by omega)) fun _ _ => Ok.bind (aV _ (by omega) (by omega)) fun _ _ => Ok.bind (xU _) fun _ _ => Ok.pure (hx0 _ _ _ _ _ _ _ _ (l3 b hb))
 refine Ok.bind (P := fun _ => True) (Ok.ite (fun _ => Ok.pure trivial) fun _ => orOk) fun q31 _ => Ok.ite (fun _ => ?_) fun _ => ?_
 ·exact Ok.bind (KU h hM a) fun x hx => Ok.pure hx
 refine Ok.ite (fun _ => ?_) fun _ => ?_
 ·exact Ok.bind (aV _ (by omega) (by omega)) fun w hw => Ok.bind (jl hw.1 hw.2) fun _ _ => Ok.bind (aV _ (by omega) (by omega)) fun _ _ => Ok.pure (hx0 _ _ _ _ _ _ _ _ (by decide))
 refine Ok.bind orOk fun q36 _ => Ok.ite (fun _ => ?_) fun _ => ?_
 ·exact Ok.bind (aV _ (by omega) (by omega)) fun _ _ => Ok.pure (hx0 _ _ _ _ _ _ _ _ (by decide))
 refine Ok.ite (fun _ => ?_) fun _ => ?_
 ·exact Ok.bind (aV _ (by omega) (by omega)) fun w hw => Ok.bind (jl hw.1 hw.2) fun _ _ => Ok.bind (aV _ (by omega) (by omega)) fun _ _ => Ok.bind (aV _ (by omega) (by omega)) fun _ _ => Ok.bind (xU _) fun _ _ => Ok.bind (aV _ (by omega) (by omega)) fun _ _ => Ok.pure (hx0 _ _ _ _ _ _ _ _ (by decide))
 refine Ok.ite (fun _ => ?_) fun _ => ?_
 ·refine Ok.bind (aV _ (by omega) (by omega)) fun w hw => Ok.bind (jl hw.1 hw.2) fun _ _ => Ok.bind (GF _ _) fun c hc => ?_
  obtain ⟨t, ht⟩ := FQ hc
  exact Ok.bind (P := fun _ => True) ⟨t, ht, trivial⟩ fun _ _ => Ok.pure (hx0 _ _ _ _ _ _ _ _ (by decide))
 ·exact Ok.pure (hx0 _ _ _ _ _ _ _ _ (by decide))
theorem WI (x : aH) (hx : x.mg.length ≤ 80) : Ok (dJ x) (OkS 10000) := by
 unfold dJ
 rw [FW]
 simp only [zb]
 refine Ok.bind (GF _ _) fun c hc => ?_
 obtain ⟨t, ht⟩ := FQ hc
 refine Ok.bind (P := fun _ => True) ⟨t, ht, trivial⟩ fun t _ => Ok.bind (P := fun r : aa × br => OkS 41 r.1) (Sb (M := 1) (x := ⟨1, 0, 0, 0, t, aX.zero, aq.zero, [], [], a7.zero⟩) Jz (by omega) ⟨by simp, by simp, Nat.zero_le _⟩) fun r hr => ?_
 refine Ok.bind (P := OkS 41) (Ok.ite (fun _ => Ok.pure hr) fun _ => Ok.pure (Jz.mono (by omega))) fun s hs => ?_
 rw [rj x s (by omega)]
 refine Ok.bind (D1 (g := cT x) (fin := fun a_ => (a_, ((x.mg.length : Int)))) (fun k b => OkS (41 + 40 * k) b) x.mg s (fun j b y hy hb => ?_) hs) fun r ⟨q, e, hq⟩ => ?_
 ·have hj := (zg.1 hy).1
  unfold cT
  dsimp only
  exact Ok.bind (NS hb (by omega) y) fun i hi => Ok.bind (Sb hb (by omega) hi) fun r hr => Ok.pure ⟨_, rfl, hr.mono (by omega)⟩
 ·subst e
  exact Ok.pure (hq.mono (by omega))
noncomputable def Rx (a : aq) : Option Bool := rf (a, ())
theorem XZ (a : aq) : Rx a = Option.bind (if (a.cw == 1) = true then some true else some (a.cw == 2)) fun q => some q := by kernel_rfl
theorem VE (a : aq) : Rx a = some (LN a) := by
 rw [XZ]
 unfold LN
 cases a.cw == 1 <;> rfl
noncomputable def JH (l : List aq) (id : Int) : Option Int := qe (l, (id, ()))
theorem HV (l : List aq) (id : Int) : JH l id = Option.bind (X5 (fun x : aq => x.fId == id) l) fun r => some r := by kernel_rfl
noncomputable def OY (s : aa) (id : Int) : Option (aq × Bool) := rh (s, (id, ()))
theorem V4 (s : aa) (id : Int) : OY s id = Option.bind (JH s.ai id) fun r => if decide (r < 0) = true then some (⟨0, 0, ⟨#[]⟩, 0, 0, ⟨0, 0⟩, [], 0, 0, [], [], [], []⟩, false) else Option.bind (av s.ai r) fun x => Option.bind (A6 x) fun y => some (y, true) := by kernel_rfl
theorem L7 {s : aa} {id : Int} {i : Nat} (h : i < s.ai.length) (h2 : (s.ai[i].fId == id) = true) (h3 : ∀ j (hj : j < i), (s.ai[j].fId == id) = false) : bQ s id = s.ai[i] ∧ wB s id = true := by
 have hf : s.ai.find? (fun c => c.fId == id) = some s.ai[i] := by
  rw [List.find?_eq_some_iff_getElem]
  exact ⟨h2, i, h, rfl, fun j hj => by rw [h3 j hj]; rfl⟩
 unfold bQ wB
 rw [hf]
 exact ⟨rfl, List.any_eq_true.2 ⟨_, List.getElem_mem h, h2⟩⟩
theorem L6 {s : aa} {id : Int} (h : ∀ x ∈ s.ai, (x.fId == id) = false) : bQ s id = aq.zero ∧ wB s id = false := by
 have hf : s.ai.find? (fun c => c.fId == id) = none := by
  rw [List.find?_eq_none]
  intro x hx
  simp [h x hx]
 unfold bQ wB
 rw [hf]
 refine ⟨rfl, ?_⟩
 rw [List.any_eq_false]
 intro x hx
 simp [h x hx]
theorem Te {s : aa} (id : Int) (hl : s.ai.length ≤ 1000000) (h : ∀ a ∈ s.ai, SzL a) : OY s id = some (bQ s id, wB s id) := by
 rw [V4, HV]
 rcases RD (fun x : aq => x.fId == id) s.ai hl with ⟨i, hi, g1, g2, g3⟩ | ⟨g1, g2⟩
 ·rw [g1, (L7 hi g2 g3).1, (L7 hi g2 g3).2]
  have d : decide ((i : Int) < 0) = false := by simp
  simp only [zb, d, zf, if_false, aC (zq hi), A4 (h _ (List.getElem_mem hi))]
 ·rw [g1, (L6 g2).1, (L6 g2).2]
  rfl
noncomputable def EB (l : List aq) (a : aq) : Option (List aq) := ou (l, (a, ()))
theorem OM (l : List aq) (a : aq) : EB l a = Option.bind (ah (fun st : Int => Option.bind (if decide (st < (l.length : Int)) = true then Option.bind (av l st) fun x => some (decide (x.fId < a.fId)) else some false) fun q => if q = true then some (.inl (i64.wrap (st + 1))) else some (.inr st)) ab 0) fun k =>
  Option.bind (mkO (⟨0, 0, ⟨#[]⟩, 0, 0, ⟨0, 0⟩, [], 0, 0, [], [], [], []⟩ : aq) (i64.wrap ((l.length : Int) + 1))) fun xs => Option.bind (hiO l k) fun lo => Option.bind (uG xs 0 xs.length lo) fun zs => Option.bind (av zs k) fun _ => Option.bind (vwO (zs.set k.toNat a).length (i64.wrap (k + 1)) ((zs.set k.toNat a).length : Int)) fun _ => Option.bind (loO l k) fun hi => Option.bind (uG (zs.set k.toNat a) (i64.wrap (k + 1)).toNat (((zs.set k.toNat a).length : Int)).toNat hi) fun r => some r := by kernel_rfl
theorem L1 {l : List aq} {a : aq} (hl : l.length ≤ 900000) (h : ∀ x ∈ l, x.fId ≠ a.fId) : EB l a = some (cM aq.fId l a) := by
 rw [OM, xl l (fun x => decide (x.fId < a.fId)) (an (by omega)) (fun k x hx => by
  have hk := (zg.1 hx).1
  simp only [bJ hx, if_true, aC hx, zb, a6 hk (show l.length ≤ 1000000 by omega)]) (by simp only [bz, zf, if_false, zb])]
 simp only [zb]
 rw [Z1 l _ a _ (oD _ _) hl, On aq.fId l a h]
noncomputable def Vi (s : aa) (a : aq) : Option aa := tq (s, (a, ()))
theorem XI (s : aa) (a : aq) : Vi s a = Option.bind (OT s) fun r => Option.bind (JH r.2.ai a.fId) fun i => if decide (i ≥ 0) = true then Option.bind (A6 a) fun b => Option.bind (av r.2.ai i) fun _ => some { r.2 with ai := r.2.ai.set i.toNat b } else Option.bind (A6 a) fun b => Option.bind (EB r.2.ai b) fun l => some { r.2 with ai := l } := by kernel_rfl
theorem Vh {s : aa} {a : aq} (h : xE s) (hl : s.ai.length ≤ 900000) (hs : jK aq.fId s.ai) (ha : SzL a) : Vi s a = some { s with ai := cM aq.fId s.ai a } := by
 rw [XI, S9 h]
 simp only [zb]
 rw [HV, A4 ha]
 rcases RD (fun x : aq => x.fId == a.fId) s.ai h.apps with ⟨i, hi, g1, g2, g3⟩ | ⟨g1, g2⟩
 ·rw [g1]
  have d : decide ((i : Int) ≥ 0) = true := by simp
  simp only [zb, d, if_true, aC (zq hi), zt]
  rw [Oa aq.fId s.ai hs i hi a (by simpa using g2)]
 ·rw [g1]
  have d : decide ((-1 : Int) ≥ 0) = false := by decide
  simp only [zb, d, zf, if_false]
  rw [L1 hl (fun x hx => by simpa using g2 x hx)]
  rfl
noncomputable def Dl (a b : Int) : Option Int := ot (a, (b, ()))
theorem SO (a b : Int) : Dl a b = if decide (b < a) = true then some 0 else some (IntKind.u64.wrap (IntKind.u64.wrap b - IntKind.u64.wrap a)) := by kernel_rfl
noncomputable def DY (s : aa) : Option (List Int) := ow (s, ())
theorem N8 (s : aa) : DY s = Option.bind (ah (fun st : List Int × Int => if decide (st.2 < (s.ai.length : Int)) = true then Option.bind (av s.ai st.2) fun x => Option.bind (if (x.cw == 2) = true then Option.bind (Dl x.bL s.bW) fun r => some (decide (r ≥ 15)) else some false) fun q => if q = true then Option.bind (aU st.1 [x.fId]) fun zs => some (.inl (zs, i64.wrap (st.2 + 1))) else some (.inl (st.1, i64.wrap (st.2 + 1))) else some (.inr (st.1, st.2))) ab (([] : List Int), (0 : Int))) fun st => some st.1 := by kernel_rfl
def HJ (s : aa) (b : aq) : Bool := b.cw == 2 && decide (i64.wrap (s.bW - b.bL) ≥ 15)
theorem VJ {s : aa} (hs : 0 ≤ s.bW ∧ s.bW ≤ 2000000000) {x : aq} (hx : 0 ≤ x.bL ∧ x.bL ≤ 1000000000) : (if (x.cw == 2) = true then Option.bind (Dl x.bL s.bW) fun r => some (decide (r ≥ 15)) else some false) = some (HJ s x) := by
 unfold HJ
 cases x.cw == 2 with
 | false => rfl
 | true =>
  have e1 : i64.wrap (s.bW - x.bL) = s.bW - x.bL := by rw [IntKind.wrap_i64]; omega
  simp only [if_true, Bool.true_and, e1, SO]
  rcases Int.lt_or_le s.bW x.bL with h | h
  ·have d1 : decide (s.bW < x.bL) = true := by simpa using h
   have d2 : decide (s.bW - x.bL ≥ 15) = false := by simp; omega
   rw [d1, d2]
   rfl
  ·have d1 : decide (s.bW < x.bL) = false := by simp; omega
   have e2 : IntKind.u64.wrap (IntKind.u64.wrap s.bW - IntKind.u64.wrap x.bL) = s.bW - x.bL := by
    rw [IntKind.wrap_u64, IntKind.wrap_u64, IntKind.wrap_u64]; omega
   rw [d1]
   simp only [zf, if_false, zb, e2]
theorem Lh {s : aa} (hl : s.ai.length ≤ 1000000) (hs : 0 ≤ s.bW ∧ s.bW ≤ 2000000000) (hx : ∀ x ∈ s.ai, 0 ≤ x.bL ∧ x.bL ≤ 1000000000) : DY s = some ((s.ai.filter (HJ s)).map aq.fId) := by
 rw [N8]
 have h := ay s.ai (S := List Int × Int) (τ := List Int × Int) (f := fun st : List Int × Int => if decide (st.2 < (s.ai.length : Int)) = true then Option.bind (av s.ai st.2) fun x => Option.bind (if (x.cw == 2) = true then Option.bind (Dl x.bL s.bW) fun r => some (decide (r ≥ 15)) else some false) fun q => if q = true then Option.bind (aU st.1 [x.fId]) fun zs => some (.inl (zs, i64.wrap (st.2 + 1))) else some (.inl (st.1, i64.wrap (st.2 + 1))) else some (.inr (st.1, st.2))) (fun a k => (a, k)) (fun acc x => if HJ s x = true then (aU acc [x.fId]).map (fun a => (.inl a : List Int ⊕ (List Int × Int))) else some (.inl acc)) (fun a => (a, (s.ai.length : Int))) (an hl) (fun k a x hk0 => by
  have hk := (zg.1 hk0).1
  simp only [bJ hk0, if_true, aC hk0, zb, a6 hk hl, VJ hs (hx x (List.mem_of_getElem? hk0))]
  split
  ·cases aU a [x.fId] <;> rfl
  ·rfl) (fun a => by simp only [bz, zf, if_false]) ([] : List Int)
 rw [show (([] : List Int), (0 : Int)) = (fun (a_ : List Int) (k_ : Int) => (a_, k_)) [] 0 from rfl, h, cr (HJ s) aq.fId _ s.ai [] (by simpa using hl)]
 rfl
noncomputable def ya (a n : Int) : Option Int := tv (a, (n, ()))
noncomputable def OL (a b : List Int) : Option Bool := xW (a, (b, ()))
noncomputable def RB : Option Bool := vm ()
theorem OJ : RB = some true := by kernel_rfl
theorem NX (a n : Int) : ya a n = Option.bind (CC a n) fun q => if decide (q < 0) = true then some (i64.wrap (q + n)) else some q := by kernel_rfl
theorem BN (a : Int) {n : Int} (h0 : 0 < n) (h1 : n ≤ 1000000000) : Ok (ya a n) (fun k => 0 ≤ k ∧ k < n) := by
 rw [NX]
 unfold CC
 rw [if_neg (by omega)]
 have h := Df (a := a) h0
 simp only [zb]
 refine Ok.ite (fun hc => ?_) fun hc => ?_
 ·have := zd hc
  refine Ok.pure ?_
  rw [IntKind.wrap_i64]; omega
 ·have := of_decide_eq_false (by simpa using hc : decide (a.tmod n < 0) = false)
  exact Ok.pure (by omega)
theorem VP (a b : List Int) : OL a b = if ((a.length : Int) != (b.length : Int)) = true then some false else Option.bind (ah (fun st : Bool × Int => if decide (st.2 < (a.length : Int)) = true then Option.bind (av a st.2) fun x => Option.bind (av b st.2) fun y => if (x != y) = true then some (.inr (.inr false)) else some (.inl (st.1, i64.wrap (st.2 + 1))) else some (.inr (.inl (st.1, st.2)))) ab (false, (0 : Int))) fun o : (Bool × Int) ⊕ Bool => match o with | .inl _ => some true | .inr v => some v := by kernel_rfl
theorem L0 (a : List Int) (hl : a.length ≤ 1000000) : OL a a = some true := by
 rw [VP, if_neg (by simp), eV a (fun k => (false, k)) (r := .inl (false, (a.length : Int))) hl (fun k x hx hk _ => by
  simp only [bJ hx, if_true, aC hx, zb, bne_self_eq_false, zf, if_false, a6 hk hl]) (by simp only [bz, zf, if_false])]
 rfl
noncomputable def Vt (a b : aq) : Option Bool := BL (a, (b, ()))
theorem XQ (a b : aq) : Vt a b = Option.bind zx fun r => Option.bind zx fun r1 => Option.bind (uU { r with ai := [a] } { r1 with ai := [b] }) fun r => some r := by kernel_rfl
theorem Oz (a : aq) (h : SzL a) : Vt a a = some true := by
 rw [XQ, FW]
 simp only [zb]
 have hs : xE AP := Jz.sz.short (by decide)
 rw [U7 { AP with ai := [a] } ⟨hs.conf, hs.nodes, by simp, hs.conts, hs.slots, hs.plans, fun x hx => by simp at hx; subst hx; exact h, hs.lab⟩]
 rfl
noncomputable def V7 (a : aq) : Option Bool := BM (a, ())
theorem Yb (a : aq) : V7 a = Option.bind (if decide ((a.bE.length : Int) ≤ 20) = true then some (decide ((a.bM.length : Int) ≤ 50)) else some false) fun q => Option.bind (if q = true then some (decide ((a.dj.length : Int) ≤ 50)) else some false) fun q => Option.bind (if q = true then some (decide ((a.jH.length : Int) ≤ 50)) else some false) fun q => Option.bind (if q = true then some (decide ((a.jP.length : Int) ≤ 50)) else some false) fun q => Option.bind (if q = true then some (decide ((a.bF.size : Int) ≤ 60)) else some false) fun q => some q := by kernel_rfl
theorem V6 (a : aq) : V7 a = some (decide ((a.bE.length : Int) ≤ 20) && decide ((a.bM.length : Int) ≤ 50) && decide ((a.dj.length : Int) ≤ 50) && decide ((a.jH.length : Int) ≤ 50) && decide ((a.jP.length : Int) ≤ 50) && decide ((a.bF.size : Int) ≤ 60)) := by
 rw [Yb]
 simp only [dH, zb]
theorem V5 {a : aq} (h : (decide ((a.bE.length : Int) ≤ 20) && decide ((a.bM.length : Int) ≤ 50) && decide ((a.dj.length : Int) ≤ 50) && decide ((a.jH.length : Int) ≤ 50) && decide ((a.jP.length : Int) ≤ 50) && decide ((a.bF.size : Int) ≤ 60)) = true) : SzL a := by
 simp only [Bool.and_eq_true, decide_eq_true_eq] at h
 exact ⟨by omega, by omega, by omega, by omega, by omega, by omega⟩
theorem Zt (x : aH) : nv x = some (decide ((x.fNs.length : Int) ≤ 30) && decide ((x.mg.length : Int) ≤ 80)) := by
 unfold nv
 simp only [dH, zb]
def OI (s : aa) (w : Int) : aa := { s with bW := i64.wrap (s.bW + w) }
noncomputable def R6 (t : aa) (p q : aq × Bool) (a : aq) : Option Bool :=
 Option.bind (if (p.2 == q.2) = true then Option.bind (Vt p.1 q.1) fun r => some r else some false) fun b => Option.bind (if b = true then Option.bind (Rx p.1) fun r => Option.bind (cX q.1) fun r2 => some (r == r2) else some false) fun b => Option.bind (if b = true then Option.bind (Rx a) fun r => Option.bind (cX a) fun r2 => some (r == r2) else some false) fun b => Option.bind (if b = true then Option.bind (Vi t a) fun r5 => Option.bind (eb t a) fun r => Option.bind (uU r5 r) fun r => some r else some false) fun b => Option.bind (if b = true then Option.bind (DY t) fun l => Option.bind (p9 t) fun m => Option.bind (OL l m) fun r => some r else some false) fun b => some b
noncomputable def Ke (t : aa) (id : Int) (a : aq) : Option Bool := Option.bind (OY t id) fun p => Option.bind (dV t id) fun q => if (Int.tmod a.fId 2 == 0) = true then R6 t p q { a with fId := id } else R6 t p q a
theorem WB (x : aH) (id : Int) (a : aq) (more : Int) : qk (x, (id, (a, (more, ())))) = Option.bind RB fun r => if (!r) = true then some false else Option.bind (nv x) fun r => Option.bind (if (!r) = true then some true else Option.bind (V7 a) fun r => some (!r)) fun q => if q = true then some true else Option.bind (dJ x) fun s => Option.bind (ya more 20) fun w => Option.bind (if decide ((s.ai.length : Int) > 0) = true then some (decide (Int.tmod id 3 > 0)) else some false) fun q => if q = true then Option.bind (ya id (s.ai.length : Int)) fun k => Option.bind (av s.ai k) fun n => Ke (OI s w) n.fId a else Ke (OI s w) id a := by kernel_rfl
structure Xh (t : aa) : Prop where
 short : xE t
 small : t.ai.length ≤ 900000
 srt : jK aq.fId t.ai
 now : 0 ≤ t.bW ∧ t.bW ≤ 2000000000
 seen : ∀ x ∈ t.ai, 0 ≤ x.bL ∧ x.bL ≤ 1000000000
 get : ∀ id, SzL (bQ t id)
theorem MF {t : aa} (h : Xh t) (id : Int) {a : aq} (ha : SzL a) : R6 t (bQ t id, wB t id) (bQ t id, wB t id) a = some true := by
 have hp : xE { t with ai := cM aq.fId t.ai a } := ⟨h.short.conf, h.short.nodes, by have := xd aq.fId t.ai a; have := h.small; show (cM _ _ _).length ≤ _; omega, h.short.conts, h.short.slots, h.short.plans, fun x hx => by rcases mB hx with rfl | hx; exact ha; exact h.short.app x hx, h.short.lab⟩
 unfold R6
 simp only [BEq.rfl, if_true, Oz _ (h.get id), zb, VE, ec, Vh h.short h.small h.srt ha, jf t a (by have := h.small; omega), U7 _ hp, Lh h.short.apps h.now h.seen, wK t h.short.apps]
 have e : (t.ai.filter (HJ t)).map aq.fId = (t.ai.filter fun b => b.cw == 2 && decide (i64.wrap (t.bW - b.bL) ≥ 15)).map aq.fId := rfl
 rw [← e, L0 _ (by rw [List.length_map]; exact Nat.le_trans (List.length_filter_le _ _) h.short.apps)]
 rfl
theorem II {t : aa} (h : Xh t) (id : Int) {a : aq} (ha : SzL a) : Ke t id a = some true := by
 unfold Ke
 rw [Te id h.short.apps h.short.app, dy t id h.short.apps]
 simp only [zb]
 split
 ·exact MF h id (a := { a with fId := id }) ⟨ha.queue, ha.asks, ha.grants, ha.kills, ha.told, ha.lost⟩
 ·exact MF h id ha
theorem OkS.fit10 {M : Nat} {s : aa} (h : OkS M s) (hM : M ≤ 100000) {w : Int} (hw : 0 ≤ w ∧ w < 20) : Xh (OI s w) := by
 have hs := h.sz.short (show M ≤ 1000000 by omega)
 have hn := h.sz.nodes.2.2.1
 refine ⟨⟨hs.conf, hs.nodes, hs.apps, hs.conts, hs.slots, hs.plans, hs.app, hs.lab⟩, by have := h.sz.apps; show s.ai.length ≤ _; omega, h.srt, ?_, fun x hx => (h.sz.app x hx).queue.2, fun id => (h.sz.get id).shorts (by omega)⟩
 show 0 ≤ i64.wrap (s.bW + w) ∧ i64.wrap (s.bW + w) ≤ 2000000000
 rw [IntKind.wrap_i64]; omega
theorem AppsAsks.plain (a0 : aH) (_k0 : aH.ok a0) (a1 : Int) (_k1 : wfI a1) (a2 : aq) (_k2 : aq.ok a2) (a3 : Int) (_k3 : wfI a3) : qk (a0, (a1, (a2, (a3, ())))) = some true := by
 rw [WB, OJ, Zt, V6]
 simp only [zb, Bool.not_true, zf, if_false]
 cases hf : (decide ((a0.fNs.length : Int) ≤ 30) && decide ((a0.mg.length : Int) ≤ 80)) with
 | false => rfl
 | true =>
  simp only [Bool.not_true, zf, if_false, zb]
  cases hg : (decide ((a2.bE.length : Int) ≤ 20) && decide ((a2.bM.length : Int) ≤ 50) && decide ((a2.dj.length : Int) ≤ 50) && decide ((a2.jH.length : Int) ≤ 50) && decide ((a2.jP.length : Int) ≤ 50) && decide ((a2.bF.size : Int) ≤ 60)) with
  | false => rfl
  | true =>
   have ha := V5 hg
   simp only [Bool.not_true, zf, if_false]
   rw [Bool.and_eq_true] at hf
   have hacts : a0.mg.length ≤ 80 := by have := zd hf.2; omega
   obtain ⟨s, h1, h2⟩ := WI a0 hacts
   obtain ⟨w, w1, w2⟩ := BN a3 (n := 20) (by decide) (by decide)
   rw [h1]
   simp only [zb]
   rw [w1]
   simp only [zb, dH]
   have hF := h2.fit10 (by decide) w2
   cases hq : (decide ((s.ai.length : Int) > 0) && decide (Int.tmod a1 3 > 0)) with
   | false => exact II hF a1 ha
   | true =>
    rw [Bool.and_eq_true] at hq
    have hpos := zd hq.1
    have hl := h2.sz.apps
    obtain ⟨k, e1, e2⟩ := BN a1 (n := (s.ai.length : Int)) (by omega) (by omega)
    obtain ⟨n, n1, _⟩ := jl e2.1 e2.2
    simp only [if_true]
    rw [e1]
    simp only [zb]
    rw [n1]
    simp only [zb]
    exact II hF _ ha
section
set_option maxHeartbeats 0
theorem ss : ∀ (w r : List Char), (∀ c ∈ w, c ≠ ' ') → wordsSigns (w ++ ' ' :: r) = w :: wordsSigns r
 | [], r, _ => by simp [wordsSigns]
 | c :: w, r, h => by
  have h1 : c ≠ ' ' := h c (List.mem_cons_self ..)
  have h2 := ss w r (fun d hd => h d (List.mem_cons_of_mem _ hd))
  rw [List.cons_append, wordsSigns.eq_3 _ _ (fun e => h1 e), h2]
theorem Fl (R : List (List Char)) : stripLifts liftWords (['c', 'u', 't'] :: R) = ([], ['c', 'u', 't'] :: R) := by kernel_rfl
theorem VB (P : Program) {R : List (List Char)} (h : behindMainWord (wordsSigns P.initOrder.toList) = ['c', 'u', 't'] :: R) : P.make = some .cut := by
 unfold Program.make
 rw [h]
 rfl
theorem VQ (P : Program) {R : List (List Char)} (h : behindMainWord (wordsSigns P.initOrder.toList) = ['c', 'u', 't'] :: R) : P.headLifts = [] := by
 unfold Program.headLifts
 rw [h, Fl]
 rfl
theorem SY (P : Program) {R : List (List Char)} (h : behindMainWord (wordsSigns P.initOrder.toList) = ['c', 'u', 't'] :: R) : P.liftsFinal = false := by
 unfold Program.liftsFinal
 rw [h, VQ P h]
 rfl
theorem Th (P : Program) {R : List (List Char)} (h : behindMainWord (wordsSigns P.initOrder.toList) = ['c', 'u', 't'] :: R) (h1 : P.laysLater = false) (h2 : P.bearsReflect = false) (h3 : P.doorFits [] = true) : P.mayEnter = true := by
 unfold Program.mayEnter
 rw [h]
 dsimp only
 rw [Fl, h1, h2]
 dsimp only
 rw [h3]
 rfl
theorem Yj (P : Program) (h : P.doorRows = []) : P.doorFits [] = true := by
 unfold Program.doorFits
 rw [h]
 rfl
theorem io : prog.initOrder = "harness ecb36c0af394d46bca573ace7f10ef24f6dfa040f45835f5fd4445f34a207c8c cut at dispatch/dispatchlaw10.AppsSubmit dispatch/dispatchlaw10.AppsAsks dispatch/dispatchlaw10.AppsQueue" := by kernel_rfl
theorem ioL : prog.initOrder.toList = ['h', 'a', 'r', 'n', 'e', 's', 's'] ++ ' ' :: (['e', 'c', 'b', '3', '6', 'c', '0', 'a', 'f', '3', '9', '4', 'd', '4', '6', 'b', 'c', 'a', '5', '7', '3', 'a', 'c', 'e', '7', 'f', '1', '0', 'e', 'f', '2', '4', 'f', '6', 'd', 'f', 'a', '0', '4', '0', 'f', '4', '5', '8', '3', '5', 'f', '5', 'f', 'd', '4', '4', '4', '5', 'f', '3', '4', 'a', '2', '0', '7', 'c', '8', 'c'] ++ ' ' :: (['c', 'u', 't'] ++ ' ' :: ['a', 't', ' ', 'd', 'i', 's', 'p', 'a', 't', 'c', 'h', '/', 'd', 'i', 's', 'p', 'a', 't', 'c', 'h', 'l', 'a', 'w', '1', '0', '.', 'A', 'p', 'p', 's', 'S', 'u', 'b', 'm', 'i', 't', ' ', 'd', 'i', 's', 'p', 'a', 't', 'c', 'h', '/', 'd', 'i', 's', 'p', 'a', 't', 'c', 'h', 'l', 'a', 'w', '1', '0', '.', 'A', 'p', 'p', 's', 'A', 's', 'k', 's', ' ', 'd', 'i', 's', 'p', 'a', 't', 'c', 'h', '/', 'd', 'i', 's', 'p', 'a', 't', 'c', 'h', 'l', 'a', 'w', '1', '0', '.', 'A', 'p', 'p', 's', 'Q', 'u', 'e', 'u', 'e'])) := by rw [io]; exact String.toList_ofList
theorem ioW : ∃ R, wordsSigns prog.initOrder.toList = ['h', 'a', 'r', 'n', 'e', 's', 's'] :: ['e', 'c', 'b', '3', '6', 'c', '0', 'a', 'f', '3', '9', '4', 'd', '4', '6', 'b', 'c', 'a', '5', '7', '3', 'a', 'c', 'e', '7', 'f', '1', '0', 'e', 'f', '2', '4', 'f', '6', 'd', 'f', 'a', '0', '4', '0', 'f', '4', '5', '8', '3', '5', 'f', '5', 'f', 'd', '4', '4', '4', '5', 'f', '3', '4', 'a', '2', '0', '7', 'c', '8', 'c'] :: ['c', 'u', 't'] :: R := by
 rw [ioL, ss _ _ (by decide), ss _ _ (by decide), ss _ _ (by decide)]
 exact ⟨_, rfl⟩
theorem ioB : ∃ R, behindMainWord (wordsSigns prog.initOrder.toList) = ['c', 'u', 't'] :: R := by
 obtain ⟨R, h⟩ := ioW
 rw [h]
 exact ⟨R, by kernel_rfl⟩
theorem ZZ : prog.laysLater = false := by kernel_rfl
theorem aad : prog.bearsReflect = false := by kernel_rfl
theorem Z8 : prog.doorRows = [] := by kernel_rfl
theorem Zx : prog.mayEnter = true := by
 obtain ⟨R, h⟩ := ioB
 exact Th _ h ZZ aad (Yj _ Z8)
theorem ZX : prog.liftsFinal = false := by
 obtain ⟨R, h⟩ := ioB
 exact SY _ h
theorem ZU : prog.make = some .cut := by
 obtain ⟨R, h⟩ := ioB
 exact VB _ h
end
end Go.Proofs.YtmjkjaahbgikjaaGreat
