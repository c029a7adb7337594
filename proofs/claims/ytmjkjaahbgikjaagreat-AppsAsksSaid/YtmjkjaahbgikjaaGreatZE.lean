/- My texts, in one. -/
import Derived.Test.YtmjkjaahbgikjaaGreatZD
set_option linter.all false
set_option maxRecDepth 100000
set_option maxHeartbeats 4000000
namespace Go.Proofs.YtmjkjaahbgikjaaGreat
open Go.RowKit
open IntKind (i64)
open Go.Proofs.Tryz (prog)
def zx : Option (aa) :=
 some (⟨(⟨([(⟨#[]⟩ : ByteArray)] : (List ByteArray)), ([(⟨(⟨#[114, 111, 111, 116]⟩ : ByteArray), ([(⟨10000, 10000⟩ : ei)] : (List ei)), 10000⟩ : az)] : (List az))⟩ : aw), [], [], [], [], [], 0, 0, 0⟩ : aa)
def dE (v_s : aa) (v_e : Int) : Option (aa × br) :=
 some (v_s, (⟨v_e, [], [], [], 0⟩ : br))
def ju (v_s : aa) (v_c : aw) (st : Int) : Option ((Int) ⊕ ((Int) ⊕ (aa × br))) :=
 let v_i := st
 if (decide (v_i < (v_s.bN.ak.length : Int))) = true then
 (av v_c.ak v_i).bind fun b6 => (av v_s.bN.ak v_i).bind fun b7 => if (!(b6.toList == b7.toList)) = true then
 (dE v_s 14).bind fun c8 => some (.inr (.inr c8))
 else
 let v_i : Int := (i64.wrap (v_i + 1))
 some (.inl v_i)
 else
 some (.inr (.inl v_i))
def jt (v_s : aa) (v_c : aw) (st : Int) : Option ((Int) ⊕ ((Int) ⊕ (aa × br))) :=
 let aI := st
 if (decide (aI < (v_s.ai.length : Int))) = true then
 (av v_s.ai aI).bind fun b11 => (cX b11).bind fun c12 => (if c12 = true then (av v_s.ai aI).bind fun b13 => (jV v_c b13.bF).bind fun c14 => some (!c14) else some false).bind fun q15 => if q15 = true then
 (dE v_s 14).bind fun c16 => some (.inr (.inr c16))
 else
 let aI : Int := (i64.wrap (aI + 1))
 some (.inl aI)
 else
 some (.inr (.inl aI))
def th (v_s : aa) (Y3 : ByteArray) : Option (aa × br) :=
 (zc Y3).bind fun c1 => let v_c : aw := c1.1
 let v_e : Int := c1.2
 (if (v_e == 0) = true then
 (uP v_c).bind fun c3 => let v_e : Int := c3
 some v_e
 else
 some v_e).bind fun j2 => let v_e := j2
 if (v_e != 0) = true then
 (dE v_s v_e).bind fun c4 => some c4
 else
 if (decide ((v_c.ak.length : Int) < (v_s.bN.ak.length : Int))) = true then
 (dE v_s 14).bind fun c5 => some c5
 else
 let v_i : Int := 0
 (ah (ju v_s v_c) ab v_i).bind fun r9 => match r9 with
 | .inr m10 => some m10
 | .inl m10 =>
 let v_i := m10
 let aI : Int := 0
 (ah (jt v_s v_c) ab aI).bind fun r17 => match r17 with
 | .inr m18 => some m18
 | .inl m18 =>
 let aI := m18
 let v_s : aa := { v_s with bN := v_c }
 some (v_s, (⟨0, [], [], [], 0⟩ : br))
def oS (v_s : aa) (ct : Int) (st : (List Int) × Int) : Option (((List Int) × Int) ⊕ (((List Int) × Int))) :=
 let v_l := st.1
 let v_i := st.2
 if (decide (v_i < (v_s.ac.length : Int))) = true then
 (av v_s.ac v_i).bind fun b1 => if (b1.bG == ct) = true then
 (av v_s.ac v_i).bind fun b2 => (aU v_l [b2.fId]).bind fun b3 => let v_l : (List Int) := b3
 let v_i : Int := (i64.wrap (v_i + 1))
 some (.inl (v_l, v_i))
 else
 let v_i : Int := (i64.wrap (v_i + 1))
 some (.inl (v_l, v_i))
 else
 some (.inr (v_l, v_i))
def xI (v_s : aa) (ct : Int) : Option ((List Int)) :=
 let v_l : (List Int) := []
 let v_i : Int := 0
 (ah (oS v_s ct) ab (v_l, v_i)).bind fun r4 =>
 let v_l := r4.1
 let v_i := r4.2
 some v_l
def lz (v_x : aJ) (v_t : aa) (st : (List Int) × Int) : Option (((List Int) × Int) ⊕ (((List Int) × Int))) :=
 let cj := st.1
 let v_i := st.2
 if (decide (v_i < (v_x.fW.length : Int))) = true then
 (av v_x.fW v_i).bind fun b7 => (eL v_t b7).bind fun c8 => let v_c : am := c8.1
 let yg : Bool := c8.2
 (if yg = true then some (v_c.bG == v_x.fId) else some false).bind fun q9 => if q9 = true then
 (aU cj [v_c.fId]).bind fun b10 => let cj : (List Int) := b10
 let v_i : Int := (i64.wrap (v_i + 1))
 some (.inl (cj, v_i))
 else
 let v_i : Int := (i64.wrap (v_i + 1))
 some (.inl (cj, v_i))
 else
 some (.inr (cj, v_i))
def zw (v_s : aa) (v_x : aJ) : Option (aa × br) :=
 (nc v_s v_x.fId).bind fun c1 => let v_n : aX := c1.1
 let bS : Bool := c1.2
 (if bS = true then some v_n.fUp else some false).bind fun q2 => (if q2 = true then some (v_n.ce == v_x.ce) else some false).bind fun q3 => if q3 = true then
 (xI v_s v_x.fId).bind fun c4 => some (v_s, (⟨0, [], c4, [], 0⟩ : br))
 else
 (DA v_s v_x.fId v_x.ce).bind fun c5 => let v_t : aa := c5.1
 let v_e : Int := c5.2
 if (v_e != 0) = true then
 (dE v_s v_e).bind fun c6 => some c6
 else
 let cj : (List Int) := []
 let v_i : Int := 0
 (ah (lz v_x v_t) ab (cj, v_i)).bind fun r11 =>
 let cj := r11.1
 let v_i := r11.2
 (jg v_t cj).bind fun c12 => let v_t : aa := c12
 (p8 v_t v_x.fId).bind fun c13 => let v_t : aa := c13.1
 (xI v_t v_x.fId).bind fun c14 => some (v_t, (⟨0, [], c14, [], 0⟩ : br))
def jX (cj : (List Int)) (v_s : aa) (st : (List am) × Int) : Option (((List am) × Int) ⊕ (((List am) × Int))) :=
 let v_l := st.1
 let v_i := st.2
 if (decide (v_i < (cj.length : Int))) = true then
 (av cj v_i).bind fun b1 => (eL v_s b1).bind fun c2 => let v_c : am := c2.1
 let bS : Bool := c2.2
 if bS = true then
 (aU v_l [v_c]).bind fun b3 => let v_l : (List am) := b3
 let v_i : Int := (i64.wrap (v_i + 1))
 some (.inl (v_l, v_i))
 else
 let v_i : Int := (i64.wrap (v_i + 1))
 some (.inl (v_l, v_i))
 else
 some (.inr (v_l, v_i))
def sa (v_s : aa) (cj : (List Int)) : Option ((List am)) :=
 let v_l : (List am) := []
 let v_i : Int := 0
 (ah (jX cj v_s) ab (v_l, v_i)).bind fun r4 =>
 let v_l := r4.1
 let v_i := r4.2
 some v_l
def iI (v_s : aa) (eW : Int) (st : (List Int) × Int) : Option (((List Int) × Int) ⊕ (((List Int) × Int))) :=
 let v_l := st.1
 let v_i := st.2
 if (decide (v_i < (v_s.ac.length : Int))) = true then
 (av v_s.ac v_i).bind fun b1 => (if (b1.bC == eW) = true then (av v_s.ac v_i).bind fun b2 => some (b2.jm != 0) else some false).bind fun q3 => if q3 = true then
 (av v_s.ac v_i).bind fun b4 => (aU v_l [b4.fId]).bind fun b5 => let v_l : (List Int) := b5
 let v_i : Int := (i64.wrap (v_i + 1))
 some (.inl (v_l, v_i))
 else
 let v_i : Int := (i64.wrap (v_i + 1))
 some (.inl (v_l, v_i))
 else
 some (.inr (v_l, v_i))
def nP (v_s : aa) (eW : Int) : Option ((List Int)) :=
 let v_l : (List Int) := []
 let v_i : Int := 0
 (ah (iI v_s eW) ab (v_l, v_i)).bind fun r6 =>
 let v_l := r6.1
 let v_i := r6.2
 some v_l
def jW (kj : (List aL)) (v_s : aa) (st : (List aL) × Int) : Option (((List aL) × Int) ⊕ (((List aL) × Int) ⊕ ((List aL) × Int))) :=
 let v_l := st.1
 let v_i := st.2
 if (decide (v_i < (kj.length : Int))) = true then
 (av kj v_i).bind fun b1 => (pB b1 (v_s.bN.ak.length : Int)).bind fun c2 => let v_e : Int := c2
 if (v_e != 0) = true then
 some (.inr (.inr ([], v_e)))
 else
 (av kj v_i).bind fun b3 => (FF v_l b3).bind fun c4 => let v_l : (List aL) := c4.1
 let v_e : Int := c4.2
 if (v_e != 0) = true then
 some (.inr (.inr ([], v_e)))
 else
 let v_i : Int := (i64.wrap (v_i + 1))
 some (.inl (v_l, v_i))
 else
 some (.inr (.inl (v_l, v_i)))
def vL (v_s : aa) (v_l : (List aL)) (kj : (List aL)) : Option ((List aL) × Int) :=
 let v_i : Int := 0
 (ah (jW kj v_s) ab (v_l, v_i)).bind fun r5 => match r5 with
 | .inr m6 => some m6
 | .inl m6 =>
 let v_l := m6.1
 let v_i := m6.2
 some (v_l, 0)
def jr (v_x : aJ) (st : aa × aq × Int) : Option ((aa × aq × Int) ⊕ ((aa × aq × Int))) :=
 let v_s := st.1
 let v_a := st.2.1
 let v_i := st.2.2
 if (decide (v_i < (v_x.fW.length : Int))) = true then
 (av v_x.fW v_i).bind fun b11 => (eL v_s b11).bind fun c12 => let v_c : am := c12.1
 let yg : Bool := c12.2
 (if yg = true then some (v_c.bC == v_a.fId) else some false).bind fun q13 => (if q13 = true then some (!v_c.bB) else some false).bind fun q14 => if q14 = true then
 (qa v_s v_c.fId).bind fun c15 => let v_s : aa := c15
 (je v_a.bM v_c.fId).bind fun c16 => let v_a : aq := { v_a with bM := c16.1 }
 let v_i : Int := (i64.wrap (v_i + 1))
 some (.inl (v_s, v_a, v_i))
 else
 let v_i : Int := (i64.wrap (v_i + 1))
 some (.inl (v_s, v_a, v_i))
 else
 some (.inr (v_s, v_a, v_i))
def tg (v_s : aa) (v_x : aJ) : Option (aa × br) :=
 (dV v_s v_x.fId).bind fun c1 => let v_a : aq := c1.1
 let bS : Bool := c1.2
 if (!bS) = true then
 (dE v_s 2).bind fun c2 => some c2
 else
 if (v_a.cw != 2) = true then
 (dE v_s 14).bind fun c3 => some c3
 else
 if (decide (v_x.ce < v_a.ce)) = true then
 (dE v_s 15).bind fun c4 => some c4
 else
 if (v_x.ce == v_a.ce) = true then
 (sa v_s v_a.jH).bind fun c5 => (nP v_s v_a.fId).bind fun c6 => (aU ([] : (List Int)) v_a.jP).bind fun b7 => some (v_s, (⟨0, c5, c6, b7, 0⟩ : br))
 else
 if (decide ((i64.wrap (v_x.ce - 1)) > v_a.ce)) = true then
 (dE v_s 1).bind fun c8 => some c8
 else
 (vL v_s v_a.bE v_x.bE).bind fun c9 => let v_l : (List aL) := c9.1
 let v_e : Int := c9.2
 if (v_e != 0) = true then
 (dE v_s v_e).bind fun c10 => some c10
 else
 let v_i : Int := 0
 (ah (jr v_x) ab (v_s, v_a, v_i)).bind fun r17 =>
 let v_s := r17.1
 let v_a := r17.2.1
 let v_i := r17.2.2
 (sa v_s v_a.bM).bind fun c18 => (nP v_s v_a.fId).bind fun c19 => (aU ([] : (List Int)) v_a.dj).bind fun b20 => let v_o : br := (⟨0, c18, c19, b20, 0⟩ : br)
 let t21 : (List aL) := v_l
 let t22 : Int := v_s.bW
 let t23 : Int := v_x.ce
 let v_a : aq := { v_a with bE := t21 }
 let v_a : aq := { v_a with bL := t22 }
 let v_a : aq := { v_a with ce := t23 }
 let t24 : (List Int) := v_a.bM
 let t25 : (List Int) := v_a.dj
 let t26 : (List Int) := []
 let t27 : (List Int) := []
 let v_a : aq := { v_a with jH := t24 }
 let v_a : aq := { v_a with jP := t25 }
 let v_a : aq := { v_a with bM := t26 }
 let v_a : aq := { v_a with dj := t27 }
 (eb v_s v_a).bind fun c28 => some (c28, v_o)
def zr (v_s : aa) (bA : Int) (I9 : Int) : Option (aa × br) :=
 (dV v_s bA).bind fun c1 => let v_a : aq := c1.1
 let bS : Bool := c1.2
 if (!bS) = true then
 (dE v_s 2).bind fun c2 => some c2
 else
 (cX v_a).bind fun c3 => if (!c3) = true then
 (dE v_s 14).bind fun c4 => some c4
 else
 (KR v_s bA I9).bind fun c5 => let v_t : aa := c5.1
 let jI : (List Int) := c5.2
 some (v_t, (⟨0, [], [], jI, 0⟩ : br))
def ly (v_s : aa) (eW : Int) (st : Int) : Option ((Int) ⊕ ((Int) ⊕ (Int))) :=
 let v_i := st
 if (decide (v_i < (v_s.ac.length : Int))) = true then
 (av v_s.ac v_i).bind fun b1 => (if (b1.bC == eW) = true then (av v_s.ac v_i).bind fun b2 => some b2.bB else some false).bind fun q3 => if q3 = true then
 (av v_s.ac v_i).bind fun b4 => some (.inr (.inr b4.fId))
 else
 let v_i : Int := (i64.wrap (v_i + 1))
 some (.inl v_i)
 else
 some (.inr (.inl v_i))
def uT (v_s : aa) (eW : Int) : Option (Int) :=
 let v_i : Int := 0
 (ah (ly v_s eW) ab v_i).bind fun r5 => match r5 with
 | .inr m6 => some m6
 | .inl m6 =>
 let v_i := m6
 some (-1)
def lx (v_l : (List Int)) (st : aa × Int) : Option ((aa × Int) ⊕ ((aa × Int))) :=
 let v_s := st.1
 let v_i := st.2
 if (decide (v_i < (v_l.length : Int))) = true then
 (av v_l v_i).bind fun b5 => (yZ v_s b5).bind fun c6 => (av v_l v_i).bind fun b7 => (fF c6 b7).bind fun c8 => let v_s : aa := c8
 (av v_l v_i).bind fun b9 => (xI v_s b9).bind fun c10 => (jg v_s c10).bind fun c11 => let v_s : aa := c11
 let v_i : Int := (i64.wrap (v_i + 1))
 some (.inl (v_s, v_i))
 else
 some (.inr (v_s, v_i))
def lw (v_l : (List Int)) (st : aa × Int) : Option ((aa × Int) ⊕ ((aa × Int))) :=
 let v_s := st.1
 let aI := st.2
 if (decide (aI < (v_l.length : Int))) = true then
 (av v_l aI).bind fun b14 => (uT v_s b14).bind fun c15 => (jg v_s ([c15] : (List Int))).bind fun c16 => let v_s : aa := c16
 let aI : Int := (i64.wrap (aI + 1))
 some (.inl (v_s, aI))
 else
 some (.inr (v_s, aI))
def lu (v_s : aa) (st : (List a7) × Int) : Option (((List a7) × Int) ⊕ (((List a7) × Int))) :=
 let yd := st.1
 let oB := st.2
 if (decide (oB < (v_s.bg.length : Int))) = true then
 (av v_s.bg oB).bind fun b18 => if (decide (b18.jJ > v_s.bW)) = true then
 (av v_s.bg oB).bind fun b19 => (aU yd [b19]).bind fun b20 => let yd : (List a7) := b20
 let oB : Int := (i64.wrap (oB + 1))
 some (.inl (yd, oB))
 else
 let oB : Int := (i64.wrap (oB + 1))
 some (.inl (yd, oB))
 else
 some (.inr (yd, oB))
def zp (v_s : aa) (v_n : Int) : Option (aa × br) :=
 (if (decide (v_n < 1)) = true then some true else some (decide (v_n > 100))).bind fun q1 => if q1 = true then
 (dE v_s 1).bind fun c2 => some c2
 else
 if (decide ((i64.wrap (v_s.bW + v_n)) > 1000000000)) = true then
 (dE v_s 11).bind fun c3 => some c3
 else
 let kO : aa := v_s
 let v_s : aa := { v_s with bW := (i64.wrap (v_s.bW + v_n)) }
 (vF v_s).bind fun c4 => let v_l : (List Int) := c4
 let v_i : Int := 0
 (ah (lx v_l) ab (v_s, v_i)).bind fun r12 =>
 let v_s := r12.1
 let v_i := r12.2
 (p9 v_s).bind fun c13 => let v_l : (List Int) := c13
 let aI : Int := 0
 (ah (lw v_l) ab (v_s, aI)).bind fun r17 =>
 let v_s := r17.1
 let aI := r17.2
 let yd : (List a7) := []
 let oB : Int := 0
 (ah (lu v_s) ab (yd, oB)).bind fun r21 =>
 let yd := r21.1
 let oB := r21.2
 let v_s : aa := { v_s with bg := yd }
 (vN v_s).bind fun c22 => let v_s : aa := c22.1
 (uW kO v_s).bind fun c23 => some (v_s, (⟨0, [], [], c23, 0⟩ : br))
def sd (v_s : aa) (v_x : aJ) : Option (aa × br) :=
 if (v_x.g6 == 1) = true then
 (th v_s v_x.Me).bind fun c1 => some c1
 else
 if (v_x.g6 == 2) = true then
 (qG v_s v_x.bG).bind fun c2 => let v_t : aa := c2.1
 let v_e : Int := c2.2
 some (v_t, (⟨v_e, [], [], [], 0⟩ : br))
 else
 if (v_x.g6 == 3) = true then
 (zw v_s v_x).bind fun c3 => some c3
 else
 if (v_x.g6 == 4) = true then
 (tp v_s v_x.bC).bind fun c4 => let aar : aa := c4.1
 let aau : Int := c4.2
 some (aar, (⟨aau, [], [], [], 0⟩ : br))
 else
 if (v_x.g6 == 5) = true then
 (tg v_s v_x).bind fun c5 => some c5
 else
 if (v_x.g6 == 6) = true then
 (zr v_s v_x.fId 3).bind fun c6 => some c6
 else
 if (v_x.g6 == 7) = true then
 (zr v_s v_x.fId 4).bind fun c7 => some c7
 else
 if (v_x.g6 == 8) = true then
 (zp v_s v_x.fN).bind fun c8 => some c8
 else
 if (v_x.g6 == 9) = true then
 (zJ v_s v_x.pv v_x.fN).bind fun c9 => let aaq : aa := c9.1
 let v_n : Int := c9.2.1
 let aat : Int := c9.2.2
 some (aaq, (⟨aat, [], [], [], v_n⟩ : br))
 else
 if (v_x.g6 == 10) = true then
 (uZ v_s v_x.fId).bind fun c10 => let aap : aa := c10.1
 let aas : Int := c10.2
 some (aap, (⟨aas, [], [], [], 0⟩ : br))
 else
 if (v_x.g6 == 11) = true then
 if (decide (v_s.pw ≥ 1048576)) = true then
 (dE v_s 11).bind fun c11 => some c11
 else
 let t12 : Int := (i64.wrap (v_s.pw + 1))
 let t13 : Int := 0
 let v_s : aa := { v_s with pw := t12 }
 let v_s : aa := { v_s with rM := t13 }
 some (v_s, (⟨0, [], [], [], 0⟩ : br))
 else
 (dE v_s 3).bind fun c14 => some c14
def aan (v_s : aa) : Option (Bool) :=
 let v_i : Int := 0
 (ah (R19_fit_loop1 v_s) ab v_i).bind fun r6 => match r6 with
 | .inr m7 => some m7
 | .inl m7 =>
 let v_i := m7
 some true
def pN (v_a : (List Int)) (v_b : (List Int)) (st : Int) : Option ((Int) ⊕ ((Int) ⊕ (Bool))) :=
 let v_i := st
 if (decide (v_i < (v_a.length : Int))) = true then
 (av v_a v_i).bind fun b1 => (av v_b v_i).bind fun b2 => if (b1 != b2) = true then
 some (.inr (.inr false))
 else
 let v_i : Int := (i64.wrap (v_i + 1))
 some (.inl v_i)
 else
 some (.inr (.inl v_i))
def pO (v_a : (List Int)) (v_b : (List Int)) : Option (Bool) :=
 if ((v_a.length : Int) != (v_b.length : Int)) = true then
 some false
 else
 let v_i : Int := 0
 (ah (pN v_a v_b) ab v_i).bind fun r3 => match r3 with
 | .inr m4 => some m4
 | .inl m4 =>
 let v_i := m4
 some true
def qZ (v_a : aq) (v_b : aq) (st : Int) : Option ((Int) ⊕ ((Int) ⊕ (Bool))) :=
 let v_i := st
 if (decide (v_i < (v_a.bE.length : Int))) = true then
 (av v_a.bE v_i).bind fun b9 => (av v_b.bE v_i).bind fun b10 => if (!((b9.bu == b10.bu) && ((b9.aY == b10.aY) && ((b9.cC.bD == b10.cC.bD) && ((b9.cC.bj == b10.cC.bj) && ((b9.fX == b10.fX) && ((b9.bG == b10.bG) && ((b9.eR == b10.eR) && (b9.gM == b10.gM))))))))) = true then
 some (.inr (.inr false))
 else
 let v_i : Int := (i64.wrap (v_i + 1))
 some (.inl v_i)
 else
 some (.inr (.inl v_i))
def DE (v_a : aq) (v_b : aq) : Option (Bool) :=
 (if (v_a.fId != v_b.fId) = true then some true else some (v_a.cw != v_b.cw)).bind fun q1 => (if q1 = true then some true else some (!(v_a.bF.toList == v_b.bF.toList))).bind fun q2 => (if q2 = true then some true else some (v_a.cW != v_b.cW)).bind fun q3 => (if q3 = true then some true else some (v_a.bu != v_b.bu)).bind fun q4 => (if q4 = true then some true else some (!((v_a.bB.bD == v_b.bB.bD) && (v_a.bB.bj == v_b.bB.bj)))).bind fun q5 => (if q5 = true then some true else some (v_a.bL != v_b.bL)).bind fun q6 => (if q6 = true then some true else some (v_a.ce != v_b.ce)).bind fun q7 => (if q7 = true then some true else some ((v_a.bE.length : Int) != (v_b.bE.length : Int))).bind fun q8 => if q8 = true then
 some false
 else
 let v_i : Int := 0
 (ah (qZ v_a v_b) ab v_i).bind fun r11 => match r11 with
 | .inr m12 => some m12
 | .inl m12 =>
 let v_i := m12
 (pO v_a.bM v_b.bM).bind fun c13 => (if c13 = true then (pO v_a.dj v_b.dj).bind fun c14 => some c14 else some false).bind fun q15 => (if q15 = true then (pO v_a.jH v_b.jH).bind fun c16 => some c16 else some false).bind fun q17 => (if q17 = true then (pO v_a.jP v_b.jP).bind fun c18 => some c18 else some false).bind fun q19 => some q19
def pU (v_a : aa) (v_b : aa) (st : Bool × Int) : Option ((Bool × Int) ⊕ ((Bool × Int))) :=
 let ek := st.1
 let v_i := st.2
 if (decide (v_i < (v_a.aB.length : Int))) = true then
 (if ek = true then (av v_a.aB v_i).bind fun b10 => (av v_b.aB v_i).bind fun b11 => some ((b10.fId == b11.fId) && ((b10.aY == b11.aY) && ((b10.eR == b11.eR) && ((b10.kJ.bD == b11.kJ.bD) && ((b10.kJ.bj == b11.kJ.bj) && ((b10.bL == b11.bL) && ((b10.ce == b11.ce) && (b10.fUp == b11.fUp)))))))) else some false).bind fun q12 => let ek : Bool := q12
 let v_i : Int := (i64.wrap (v_i + 1))
 some (.inl (ek, v_i))
 else
 some (.inr (ek, v_i))
def pT (v_a : aa) (v_b : aa) (st : Bool × Int) : Option ((Bool × Int) ⊕ ((Bool × Int))) :=
 let ek := st.1
 let aI := st.2
 if (decide (aI < (v_a.ai.length : Int))) = true then
 (if ek = true then (av v_a.ai aI).bind fun b14 => (av v_b.ai aI).bind fun b15 => (DE b14 b15).bind fun c16 => some c16 else some false).bind fun q17 => let ek : Bool := q17
 let aI : Int := (i64.wrap (aI + 1))
 some (.inl (ek, aI))
 else
 some (.inr (ek, aI))
def pR (v_a : aa) (v_b : aa) (st : Bool × Int) : Option ((Bool × Int) ⊕ ((Bool × Int))) :=
 let ek := st.1
 let oB := st.2
 if (decide (oB < (v_a.ac.length : Int))) = true then
 (if ek = true then (av v_a.ac oB).bind fun b19 => (av v_b.ac oB).bind fun b20 => some ((b19.fId == b20.fId) && ((b19.bC == b20.bC) && ((b19.bG == b20.bG) && ((b19.cC.bD == b20.cC.bD) && ((b19.cC.bj == b20.cC.bj) && ((b19.bu == b20.bu) && ((b19.aY == b20.aY) && ((b19.bB == b20.bB) && (b19.jm == b20.jm))))))))) else some false).bind fun q21 => let ek : Bool := q21
 let oB : Int := (i64.wrap (oB + 1))
 some (.inl (ek, oB))
 else
 some (.inr (ek, oB))
def pQ (v_a : aa) (v_b : aa) (st : Bool × Int) : Option ((Bool × Int) ⊕ ((Bool × Int))) :=
 let ek := st.1
 let GM := st.2
 if (decide (GM < (v_a.aQ.length : Int))) = true then
 (if ek = true then (av v_a.aQ GM).bind fun b23 => (av v_b.aQ GM).bind fun b24 => some ((b23.bG == b24.bG) && ((b23.bC == b24.bC) && (b23.bu == b24.bu))) else some false).bind fun q25 => let ek : Bool := q25
 let GM : Int := (i64.wrap (GM + 1))
 some (.inl (ek, GM))
 else
 some (.inr (ek, GM))
def pP (v_a : aa) (v_b : aa) (st : Bool × Int) : Option ((Bool × Int) ⊕ ((Bool × Int))) :=
 let ek := st.1
 let GL := st.2
 if (decide (GL < (v_a.bg.length : Int))) = true then
 (if ek = true then (av v_a.bg GL).bind fun b27 => (av v_b.bg GL).bind fun b28 => some ((b27.fId == b28.fId) && ((b27.aY == b28.aY) && ((b27.nG == b28.nG) && ((b27.jJ == b28.jJ) && ((b27.iH.bD == b28.iH.bD) && (b27.iH.bj == b28.iH.bj)))))) else some false).bind fun q29 => let ek : Bool := q29
 let GL : Int := (i64.wrap (GL + 1))
 some (.inl (ek, GL))
 else
 some (.inr (ek, GL))
def uU (v_a : aa) (v_b : aa) : Option (Bool) :=
 (DD v_a.bN v_b.bN).bind fun c1 => (if (!c1) = true then some true else some (v_a.bW != v_b.bW)).bind fun q2 => (if q2 = true then some true else some (v_a.pw != v_b.pw)).bind fun q3 => (if q3 = true then some true else some (v_a.rM != v_b.rM)).bind fun q4 => (if q4 = true then some true else some ((v_a.aB.length : Int) != (v_b.aB.length : Int))).bind fun q5 => (if q5 = true then some true else some ((v_a.ai.length : Int) != (v_b.ai.length : Int))).bind fun q6 => (if q6 = true then some true else some ((v_a.ac.length : Int) != (v_b.ac.length : Int))).bind fun q7 => (if q7 = true then some true else some ((v_a.aQ.length : Int) != (v_b.aQ.length : Int))).bind fun q8 => (if q8 = true then some true else some ((v_a.bg.length : Int) != (v_b.bg.length : Int))).bind fun q9 => if q9 = true then
 some false
 else
 let ek : Bool := true
 let v_i : Int := 0
 (ah (pU v_a v_b) ab (ek, v_i)).bind fun r13 =>
 let ek := r13.1
 let v_i := r13.2
 let aI : Int := 0
 (ah (pT v_a v_b) ab (ek, aI)).bind fun r18 =>
 let ek := r18.1
 let aI := r18.2
 let oB : Int := 0
 (ah (pR v_a v_b) ab (ek, oB)).bind fun r22 =>
 let ek := r22.1
 let oB := r22.2
 let GM : Int := 0
 (ah (pQ v_a v_b) ab (ek, GM)).bind fun r26 =>
 let ek := r26.1
 let GM := r26.2
 let GL : Int := 0
 (ah (pP v_a v_b) ab (ek, GL)).bind fun r30 =>
 let ek := r30.1
 let GL := r30.2
 some ek
def Ud : Ent := ⟨[.lf (.int .i64)], [.lf (.bool)], fun x => zi x.1⟩
theorem Uc : EOk prog 194 Ud := aE .n [] [] [] .nil Tryz.mixed Tryz.func194
def WR : Ent := ⟨[.ag 0], [.lf (.bool)], fun x => tf x.1⟩
theorem M8 : EOk prog 191 WR := aE .n [] [] [] (.cons Uc .nil) Tryz.mixed Tryz.func191
def Ui : Ent := ⟨[.ag 0, .ag 0], [.lf (.bool)], fun x => fL x.1 x.2.1⟩
theorem o8 : EOk prog 149 Ui := aE .n [] [] [] .nil Tryz.mixed Tryz.func149
def Uh : Ent := ⟨[.ag 0, .ag 0], [.ag 0], fun x => vK x.1 x.2.1⟩
theorem IZ : EOk prog 171 Uh := aE .n [] [4] [] .nil Tryz.mixed Tryz.func171
def Ub : Ent := ⟨[.lf (.int .i64), .lf (.int .i64)], [.lf (.int .i64), .lf (.int .i64)], fun x => zh x.1 x.2.1⟩
theorem Ua : EOk prog 198 Ub := aE .n [] [] [] .nil Tryz.mixed Tryz.func198
def PR : Ent := ⟨[.ag 17, .ag 17], [.lf (.int .i64)], fun x => pM x.1 x.2.1⟩
theorem FR : EOk prog 196 PR := aE (.s .n (.s (.s .n (.j [.box 2 243 17 []] .n)) (.s (.s .n (.j [.box 3 243 17 []] .n)) .n))) [] [] [] (.cons Ua .nil) Tryz.mixed Tryz.func196
def Uf : Ent := ⟨[.ag 0, .ag 0], [.ag 17], fun x => zj x.1 x.2.1⟩
theorem Ue : EOk prog 197 Uf := aE .n [] [4] [] (.cons FR .nil) Tryz.mixed Tryz.func197
def PY : Ent := ⟨[.ag 0, .ag 0, .ag 0, .ag 0], [.lf (.int .i64)], fun x => zk x.1 x.2.1 x.2.2.1 x.2.2.2.1⟩
theorem PX : EOk prog 195 PY := aE .n [] [] [] (.cons M8 (.cons Ue (.cons FR .nil))) Tryz.mixed Tryz.func195
def Ug : Ent := ⟨[.ag 0, .ag 0], [.ag 0], fun x => dc x.1 x.2.1⟩
theorem iz : EOk prog 126 Ug := aE .n [] [4] [] .nil Tryz.mixed Tryz.func126
def PP : Ent := ⟨[.lf (.int .i64), .lf (.int .i64)], [.lf (.int .i64)], fun x => uQ x.1 x.2.1⟩
theorem PO : EOk prog 192 PP := aE .n [] [] [] .nil Tryz.mixed Tryz.func192
def PW : Ent := ⟨[.ag 0, .lf (.int .i64)], [.ag 0, .lf (.int .i64)], fun x => uR x.1 x.2.1⟩
theorem FS : EOk prog 187 PW := aE .n [] [4] [] (.cons M8 (.cons PO .nil)) Tryz.mixed Tryz.func187
def T4 : Ent := ⟨[.lf (.str)], [.lf (.bool)], fun x => vI x.1⟩
theorem IU : EOk prog 135 T4 := aE (.s .n (.s .n (.s (.s .n (.s (.lp [.leaf 3 (.int .i64)] 0 true .n) .n)) .n))) [] [] [] .nil Tryz.mixed Tryz.func135
def MX : Ent := ⟨[.ag 5], [.lf (.int .i64)], fun x => rX x.1⟩
theorem MW : EOk prog 114 MX := aE (.s .n (.s .n (.s .n (.s (.s .n (.s (.lp [.leaf 3 (.int .i64)] 0 true .n) .n)) (.s (.s .n (.s (.lp [.leaf 4 (.int .i64)] 2 true (.s .n (.s (.s (.s .n (.s (.lp [.leaf 5 (.int .i64)] 4 true .n) .n)) .n) .n))) .n)) .n))))) [] [] [] (.cons IU .nil) Tryz.mixed Tryz.func114
def MZ : Ent := ⟨[.lf (.str)], [.lf (.bool)], fun x => vH x.1⟩
theorem MY : EOk prog 136 MZ := aE (.s .n (.s .n (.s (.s .n (.s (.lp [.leaf 3 (.int .i64), .leaf 4 (.int .i64), .leaf 5 (.int .i64)] 0 true .n) .n)) .n))) [] [] [] (.cons IU .nil) Tryz.mixed Tryz.func136
def PA : Ent := ⟨[.lf (.str)], [.lf (.str)], fun x => dQ x.1⟩
theorem xF : EOk prog 102 PA := aE (.s .n (.s .n (.s (.s (.lp [.leaf 3 (.int .i64)] 0 false .n) .n) .n))) [] [] [] .nil Tryz.mixed Tryz.func102
def T7 : Ent := ⟨[.ag 5, .lf (.str)], [.ag 4, .lf (.bool)], fun x => jq x.1 x.2.1⟩
theorem rZ : EOk prog 60 T7 := aE (.s .n (.s (.s .n (.s (.lp [.leaf 6 (.int .i64)] 0 true .n) .n)) .n)) [] [4] [] .nil Tryz.mixed Tryz.func60
def Pz : Ent := ⟨[.ag 5, .lf (.int .i64)], [.lf (.int .i64)], fun x => uN x.1 x.2.1⟩
theorem Py : EOk prog 115 Pz := aE (.s .n (.s .n (.s .n (.s .n (.s .n (.s .n (.s .n (.s (.s .n (.s (.lp [.leaf 8 (.int .i64)] 0 true .n) .n)) .n)))))))) [] [] [] (.cons MY (.cons xF (.cons rZ .nil))) Tryz.mixed Tryz.func115
def IV : Ent := ⟨[.ag 5, .lf (.str)], [.lf (.sl (.str))], fun x => ff x.1 x.2.1⟩
theorem vJ : EOk prog 55 IV := aE (.s .n (.s .n (.s (.s .n (.s (.lp [.row 5 5 9 1 (.str), .leaf 6 (.int .i64)] 0 false .n) .n)) .n))) [] [] [] (.cons xF .nil) Tryz.mixed Tryz.func55
def T3 : Ent := ⟨[.ag 5], [.lf (.bool)], fun x => DC x.1⟩
theorem T2 : EOk prog 116 T3 := aE (.s .n (.s (.s .n (.s (.lp [.leaf 3 (.int .i64)] 0 true (.s .n (.s (.s (.s .n (.s .n (.s (.lp [.leaf 5 (.int .i64)] 2 true (.s .n (.s (.s (.s .n (.s (.s .n (.s (.lp [.leaf 6 (.int .i64), .leaf 7 (.int .i64)] 4 false .n) .n)) .n)) .n) .n))) .n))) .n) .n))) .n)) .n)) [] [] [] (.cons vJ (.cons rZ .nil)) Tryz.mixed Tryz.func116
def PD : Ent := ⟨[.ag 5], [.lf (.int .i64)], fun x => uP x.1⟩
theorem PB : EOk prog 79 PD := aE (.s .n (.s .n (.s .n (.s (.s .n (.s (.lp [.leaf 3 (.int .i64)] 0 true .n) .n)) (.s (.s .n (.s (.lp [.leaf 4 (.int .i64)] 2 true .n) .n)) .n))))) [] [] [] (.cons MW (.cons Py (.cons T2 .nil))) Tryz.mixed Tryz.func79
def T5 : Ent := ⟨[.ag 5, .lf (.str)], [.lf (.bool)], fun x => jV x.1 x.2.1⟩
theorem Bw : EOk prog 30 T5 := aE .n [] [] [] (.cons rZ (.cons vJ .nil)) Tryz.mixed Tryz.func30
def YA : Ent := ⟨[.lf (.str)], [.lf (.sl (.str))], fun x => y6 x.1⟩
theorem Kq : EOk prog 173 YA := aE (.s .n (.s .n (.s (.s (.lp [.row 3 3 9 1 (.str), .leaf 0 (.str)] 0 false .n) .n) .n))) [] [] [] (.cons xF .nil) Tryz.mixed Tryz.func173
def T1 : Ent := ⟨[.ag 12, .lf (.int .i64)], [.ag 0], fun x => tb x.1 x.2.1⟩
theorem T0 : EOk prog 175 T1 := aE (.s .n (.s .n (.s (.s .n (.s (.lp [.box 5 27 0 [], .leaf 6 (.int .i64)] 0 false .n) .n)) .n))) [] [4] [] (.cons iz .nil) Tryz.mixed Tryz.func175
def Pv : Ent := ⟨[.ag 12, .lf (.int .i64)], [.ag 0], fun x => iY x.1 x.2.1⟩
theorem pC : EOk prog 101 Pv := aE (.s .n (.s .n (.s (.s .n (.s (.lp [.box 5 27 0 [], .leaf 6 (.int .i64)] 0 false .n) .n)) .n))) [] [4] [] (.cons iz .nil) Tryz.mixed Tryz.func101
def TX : Ent := ⟨[.ag 12, .lf (.str), .lf (.int .i64), .lf (.bool)], [.ag 0], fun x => ta x.1 x.2.1 x.2.2.1 x.2.2.2.1⟩
theorem IQ : EOk prog 183 TX := aE (.s .n (.s .n (.s .n (.s .n (.s .n (.s (.s .n (.s (.lp [.box 11 27 0 [], .leaf 13 (.int .i64)] 0 false (.s .n (.s (.s (.s .n (.s .n (.s (.s .n (.j [.leaf 16 (.int .i64)] .n)) .n))) .n) .n))) .n)) .n)))))) [] [8] [] (.cons rZ (.cons pC (.cons Kq (.cons FS .nil)))) Tryz.mixed Tryz.func183
def FL : Ent := ⟨[.ag 12, .lf (.str), .lf (.int .i64)], [.ag 0], fun x => lq x.1 x.2.1 x.2.2.1⟩
theorem pD : EOk prog 164 FL := aE .n [] [6] [] (.cons IQ .nil) Tryz.mixed Tryz.func164
def IT : Ent := ⟨[.ag 12, .lf (.str), .lf (.int .i64)], [.ag 0], fun x => vG x.1 x.2.1 x.2.2.1⟩
theorem IR : EOk prog 174 IT := aE .n [] [6] [] (.cons IQ .nil) Tryz.mixed Tryz.func174
def TZ : Ent := ⟨[.ag 12, .lf (.str), .lf (.int .i64)], [.ag 0], fun x => DB x.1 x.2.1 x.2.2.1⟩
theorem TY : EOk prog 170 TZ := aE .n [] [6] [] (.cons rZ (.cons pD (.cons FS .nil))) Tryz.mixed Tryz.func170
def QP : Ent := ⟨[.ag 12, .lf (.int .i64)], [.ag 12], fun x => qa x.1 x.2.1⟩
theorem Gm : EOk prog 91 QP := aE (.s .n (.s .n (.s (.s .n (.s (.lp [.row 5 5 91 9 (.st 6), .leaf 6 (.int .i64)] 0 false .n) .n)) .n))) [] [4] [] .nil Tryz.mixed Tryz.func91
def QO : Ent := ⟨[.ag 12, .lf (.int .i64)], [.ag 6, .lf (.bool)], fun x => eL x.1 x.2.1⟩
theorem mS : EOk prog 85 QO := aE (.s .n (.s (.s .n (.s (.lp [.leaf 6 (.int .i64)] 0 true .n) .n)) .n)) [] [4] [] .nil Tryz.mixed Tryz.func85
def Gl : Ent := ⟨[.ag 12, .lf (.int .i64)], [.ag 2, .lf (.bool)], fun x => dV x.1 x.2.1⟩
theorem fH : EOk prog 16 Gl := aE (.s .n (.s (.s .n (.s (.lp [.leaf 6 (.int .i64)] 0 true .n) .n)) .n)) [] [4] [] .nil Tryz.mixed Tryz.func16
def Gk : Ent := ⟨[.ag 2], [.lf (.bool)], fun x => cX x.1⟩
theorem fG : EOk prog 19 Gk := aE .n [] [] [] .nil Tryz.mixed Tryz.func19
def I4 : Ent := ⟨[.ag 12, .ag 2], [.ag 12], fun x => eb x.1 x.2.1⟩
theorem mR : EOk prog 21 I4 := aE (.s .n (.s .n (.s (.s (.lp [.leaf 5 (.int .i64)] 0 false .n) .n) (.s .n (.s .n (.s (.s .n (.j [.leaf 5 (.int .i64)] .n)) .n)))))) [] [4] [] .nil Tryz.mixed Tryz.func21
def QK : Ent := ⟨[.ag 12, .lf (.int .i64)], [.ag 12, .lf (.sl (.int .i64))], fun x => sk x.1 x.2.1⟩
theorem Gi : EOk prog 117 QK := aE (.s .n (.s .n (.s .n (.s .n (.s (.s .n (.s (.lp [.row 8 8 3 1 (.int .i64), .row 6 6 91 9 (.st 6), .leaf 9 (.int .i64)] 0 false .n) .n)) (.s (.s .n (.s (.lp [.row 7 7 93 3 (.st 11), .leaf 10 (.int .i64)] 2 false .n) .n)) .n)))))) [] [4] [] .nil Tryz.mixed Tryz.func117
def UA : Ent := ⟨[.ag 12, .lf (.int .i64), .lf (.int .i64)], [.ag 12, .lf (.sl (.int .i64))], fun x => KR x.1 x.2.1 x.2.2.1⟩
theorem Uz : EOk prog 93 UA := aE .n [] [6] [] (.cons fH (.cons fG (.cons mR (.cons Gi .nil)))) Tryz.mixed Tryz.func93
def NM : Ent := ⟨[.ag 2], [.lf (.sl (.st 1))], fun x => pa x.1⟩
theorem Cv : EOk prog 39 NM := aE .n [] [] [] .nil Tryz.mixed Tryz.func39
def Hc : Ent := ⟨[.lf (.sl (.int .i64)), .lf (.int .i64)], [.lf (.sl (.int .i64)), .lf (.bool)], fun x => je x.1 x.2.1⟩
theorem wJ : EOk prog 92 Hc := aE (.s .n (.s .n (.s (.s .n (.s (.lp [.row 6 6 3 1 (.int .i64), .leaf 7 (.int .i64)] 0 false .n) .n)) .n))) [] [] [] .nil Tryz.mixed Tryz.func92
def QN : Ent := ⟨[.ag 12, .lf (.sl (.int .i64))], [.ag 12], fun x => jg x.1 x.2.1⟩
theorem xR : EOk prog 86 QN := aE (.s .n (.s (.s .n (.s (.lp [.box 2 43 12 [], .leaf 5 (.int .i64)] 0 false (.s .n (.s (.s (.s .n (.s .n (.s .n (.s .n (.s .n (.s .n (.s .n (.s (.s .n (.j [.box 8 30 2 []] .n)) .n)))))))) .n) .n))) .n)) .n)) [(4, [73, 76, 79, 80]), (6, [73, 76, 79, 80]), (8, [73, 76, 79, 80]), (11, [73, 76, 79, 80]), (12, [73, 76, 79, 80]), (14, [73, 76, 79, 80]), (17, [73, 76, 79, 80])] [4] [] (.cons mS (.cons fH (.cons Cv (.cons mR (.cons Gi (.cons Gm (.cons wJ .nil))))))) Tryz.mixed Tryz.func86
def Af : Ent := ⟨[.ag 12], [.lf (.sl (.int .i64))], fun x => p9 x.1⟩
theorem Ae : EOk prog 24 Af := aE (.s .n (.s .n (.s (.s .n (.s (.lp [.row 3 3 3 1 (.int .i64), .leaf 4 (.int .i64)] 0 false .n) .n)) .n))) [] [] [] .nil Tryz.mixed Tryz.func24
def QM : Ent := ⟨[.lf (.int .i64)], [.lf (.bool)], fun x => vb x.1⟩
theorem QL : EOk prog 37 QM := aE .n [] [] [] .nil Tryz.mixed Tryz.func37
def KO : Ent := ⟨[.ag 12], [.ag 12], fun x => tn x.1⟩
theorem KN : EOk prog 38 KO := aE (.s .n (.s .n (.s .n (.s (.s .n (.s (.lp [.leaf 4 (.bool), .row 3 3 30 14 (.st 2), .leaf 5 (.int .i64)] 0 false .n) .n)) .n)))) [(6, [30, 31])] [2] [] (.cons fG .nil) Tryz.mixed Tryz.func38
def KQ : Ent := ⟨[.ag 12, .ag 2], [.ag 12, .lf (.int .i64)], fun x => tp x.1 x.2.1⟩
theorem KP : EOk prog 13 KQ := aE (.s .n (.s .n (.s .n (.s .n (.s .n (.s (.s .n (.s (.lp [.leaf 8 (.int .i64), .leaf 9 (.int .i64)] 0 false .n) .n)) (.s .n (.s .n (.s (.s .n (.j [.box 2 43 12 []] .n)) .n))))))))) [] [4] [] (.cons QL (.cons fH (.cons fG (.cons Bw (.cons KN (.cons Cv (.cons mR .nil))))))) Tryz.mixed Tryz.func13
def TE : Ent := ⟨[.lf (.int .i64)], [.lf (.bool)], fun x => yW x.1⟩
theorem TD : EOk prog 140 TE := aE .n [] [] [] .nil Tryz.mixed Tryz.func140
def Pn : Ent := ⟨[.ag 1, .lf (.int .i64)], [.lf (.int .i64)], fun x => pB x.1 x.2.1⟩
theorem Pm : EOk prog 119 Pn := aE .n [] [] [] (.cons TD .nil) Tryz.mixed Tryz.func119
def WN : Ent := ⟨[.lf (.sl (.st 1)), .lf (.int .i64)], [.ag 1, .lf (.bool)], fun x => Km x.1 x.2.1⟩
theorem WL : EOk prog 152 WN := aE (.s .n (.s (.s .n (.s (.lp [.leaf 6 (.int .i64)] 0 true .n) .n)) .n)) [] [4] [] .nil Tryz.mixed Tryz.func152
def TK : Ent := ⟨[.lf (.sl (.st 1)), .lf (.int .i64)], [.lf (.sl (.st 1))], fun x => Dx x.1 x.2.1⟩
theorem TJ : EOk prog 178 TK := aE (.s .n (.s .n (.s (.s .n (.s (.lp [.row 5 7 123 8 (.st 1), .leaf 6 (.int .i64)] 0 false .n) .n)) .n))) [] [] [] .nil Tryz.mixed Tryz.func178
def Kl : Ent := ⟨[.lf (.sl (.st 1)), .lf (.int .i64)], [.ag 0], fun x => kw x.1 x.2.1⟩
theorem Kk : EOk prog 184 Kl := aE (.s .n (.s .n (.s (.s .n (.s (.lp [.box 5 27 0 [], .leaf 6 (.int .i64)] 0 false .n) .n)) .n))) [] [4] [] (.cons iz .nil) Tryz.mixed Tryz.func184
def WK : Ent := ⟨[.lf (.sl (.st 1)), .ag 1], [.lf (.sl (.st 1)), .lf (.int .i64)], fun x => FF x.1 x.2.1⟩
theorem WJ : EOk prog 120 WK := aE (.s .n (.s .n (.s .n (.s .n (.s (.s .n (.s (.lp [.row 6 6 123 8 (.st 1), .leaf 7 (.bool), .leaf 8 (.int .i64)] 0 false (.s .n (.s (.s (.s (.s .n (.j [.row 6 6 123 8 (.st 1), .leaf 7 (.bool)] .n)) .n) .n) .n))) .n)) (.s (.s .n (.j [.row 6 6 123 8 (.st 1)] .n)) .n)))))) [] [] [] .nil Tryz.mixed Tryz.func120
def TG : Ent := ⟨[.lf (.sl (.st 1)), .lf (.int .i64)], [.lf (.sl (.st 1)), .lf (.bool)], fun x => Dw x.1 x.2.1⟩
theorem TF : EOk prog 176 TG := aE (.s .n (.s .n (.s .n (.s (.s .n (.s (.lp [.leaf 7 (.bool), .row 6 6 123 8 (.st 1), .leaf 8 (.int .i64)] 0 false .n) .n)) .n)))) [] [] [] .nil Tryz.mixed Tryz.func176
def NK : Ent := ⟨[.lf (.str), .lf (.str)], [.lf (.bool)], fun x => mQ x.1 x.2.1⟩
theorem Cs : EOk prog 181 NK := aE (.s .n (.s .n (.s (.s .n (.s (.lp [.leaf 6 (.int .i64)] 0 true .n) .n)) .n))) [] [] [] (.cons Kq .nil) Tryz.mixed Tryz.func181
def wI : Ent := ⟨[.ag 12, .lf (.str), .lf (.int .i64)], [.ag 0], fun x => nR x.1 x.2.1 x.2.2.1⟩
theorem wH : EOk prog 165 wI := aE (.s .n (.s .n (.s (.s .n (.s (.lp [.box 7 27 0 [], .leaf 8 (.int .i64)] 0 false .n) .n)) .n))) [] [6] [] (.cons fG (.cons Cs (.cons Kk (.cons iz .nil)))) Tryz.mixed Tryz.func165
def QI : Ent := ⟨[.ag 12, .lf (.str), .lf (.int .i64), .lf (.bool), .lf (.int .i64)], [.ag 0], fun x => u6 x.1 x.2.1 x.2.2.1 x.2.2.2.1 x.2.2.2.2.1⟩
theorem Gb : EOk prog 162 QI := aE (.s .n (.s .n (.s (.s .n (.s (.lp [.box 11 27 0 [], .leaf 12 (.int .i64)] 0 false .n) .n)) .n))) [] [10] [] (.cons fH (.cons Cs (.cons iz .nil))) Tryz.mixed Tryz.func162
def Gg : Ent := ⟨[.ag 12, .lf (.str), .lf (.int .i64)], [.ag 0], fun x => eG x.1 x.2.1 x.2.2.1⟩
theorem kz : EOk prog 141 Gg := aE .n [] [6] [] (.cons Gb .nil) Tryz.mixed Tryz.func141
def QJ : Ent := ⟨[.ag 12, .lf (.str), .lf (.int .i64), .ag 0], [.lf (.bool)], fun x => u7 x.1 x.2.1 x.2.2.1 x.2.2.2.1⟩
theorem Gh : EOk prog 157 QJ := aE (.s .n (.s .n (.s (.s .n (.s (.lp [.leaf 10 (.int .i64)] 0 true .n) .n)) .n))) [] [] [] (.cons Kq (.cons kz (.cons iz (.cons IR (.cons o8 (.cons pC (.cons T0 (.cons IZ .nil)))))))) Tryz.mixed Tryz.func157
def Gf : Ent := ⟨[.ag 12, .lf (.str), .lf (.int .i64), .lf (.int .i64)], [.ag 0], fun x => oV x.1 x.2.1 x.2.2.1 x.2.2.2.1⟩
theorem Gc : EOk prog 169 Gf := aE .n [] [8] [] (.cons Gb .nil) Tryz.mixed Tryz.func169
def QH : Ent := ⟨[.ag 12, .lf (.str)], [.lf (.sl (.int .i64))], fun x => zW x.1 x.2.1⟩
theorem QF : EOk prog 160 QH := aE (.s .n (.s .n (.s (.s .n (.s (.lp [.leaf 5 (.sl (.st 2)), .leaf 6 (.int .i64)] 0 false (.s .n (.s (.s (.s .n (.s .n (.s .n (.s (.s (.lp [.leaf 8 (.int .i64)] 2 false .n) .n) .n)))) .n) .n))) .n)) (.s .n (.s (.s .n (.s (.lp [.row 10 10 3 1 (.int .i64), .leaf 11 (.int .i64)] 4 false .n) .n)) .n))))) [(6, [5, 53, 56, 57, 62, 75, 76])] [] [] (.cons fG .nil) Tryz.mixed Tryz.func160
def NH : Ent := ⟨[.ag 12, .lf (.str), .lf (.str), .lf (.int .i64)], [.lf (.bool)], fun x => vT x.1 x.2.1 x.2.2.1 x.2.2.2.1⟩
theorem NG : EOk prog 193 NH := aE .n [] [] [] (.cons kz (.cons pD (.cons PX .nil))) Tryz.mixed Tryz.func193
def Ga : Ent := ⟨[.ag 12, .lf (.str), .lf (.int .i64)], [.lf (.sl (.str))], fun x => zT x.1 x.2.1 x.2.2.1⟩
theorem QE : EOk prog 188 Ga := aE (.s .n (.s .n (.s .n (.s (.s .n (.s (.lp [.leaf 8 (.sl (.str)), .leaf 9 (.int .i64)] 0 false (.s .n (.s (.s (.s .n (.s (.s (.lp [.leaf 10 (.int .i64)] 2 false .n) .n) .n)) .n) .n))) .n)) .n)))) [(1, [8, 46, 52, 53, 58]), (7, [8, 46, 52, 53, 58])] [] [] (.cons vJ (.cons NG .nil)) Tryz.mixed Tryz.func188
theorem KJ (k : Nat) (x : cp [.ag 12, .lf (.str), .lf (.int .i64)]) : fS ⟨prog, [(177, ⟨[.ag 12, .lf (.str), .lf (.int .i64)], [.lf (.sl (.str))], fun x => jb k x.1 x.2.1 x.2.2.1⟩), (188, Ga)], 35, [.lf (.sl (.str))], [.tmp 6], [(1, [18, 33]), (8, [18])], [], []⟩ ((Tryz.f177).body.getD .skip) (.s (.n) (.s (.n) (.s (.n) (.s (.n) (.s (.s (.n) (.s (.lp [.row 8 8 9 1 (.str), .leaf 9 (.int .i64)] 0 false (.n)) .n)) (.n)))))) [.ag 12, .lf (.str), .lf (.int .i64)] x = jb (k + 1) x.1 x.2.1 x.2.2.1 := by kernel_rfl
theorem zR : ∀ k : Nat, bK prog 177 [.ag 12, .lf (.str), .lf (.int .i64)] [.lf (.sl (.str))] (fun x => jb k x.1 x.2.1 x.2.2.1)
 | 0 => fun x r h => by cases h
 | k + 1 => cd (n := 35) (.cons (zR k) (.cons (QE) (.nil))) Tryz.mixed Tryz.func177 rfl (by kernel_rfl) rfl rfl rfl (KJ k)
def KM : Ent := ⟨[.ag 12, .lf (.int .i64)], [.lf (.sl (.str))], fun x => tm x.1 x.2.1⟩
theorem KL : EOk prog 159 KM := aE .n [] [] [] (.cons (zR ab) .nil) Tryz.mixed Tryz.func159
def NF : Ent := ⟨[.ag 1, .ag 7], [.lf (.int .i64)], fun x => mP x.1 x.2.1⟩
theorem Cq : EOk prog 168 NF := aE .n [] [] [] .nil Tryz.mixed Tryz.func168
def Uy : Ent := ⟨[.ag 1, .ag 7], [.lf (.bool)], fun x => tj x.1 x.2.1⟩
theorem I3 : EOk prog 153 Uy := aE .n [] [] [] (.cons Cq .nil) Tryz.mixed Tryz.func153
def TS : Ent := ⟨[.ag 12, .lf (.int .i64)], [.ag 7, .lf (.bool)], fun x => nc x.1 x.2.1⟩
theorem o6 : EOk prog 81 TS := aE (.s .n (.s (.s .n (.s (.lp [.leaf 6 (.int .i64)] 0 true .n) .n)) .n)) [] [4] [] .nil Tryz.mixed Tryz.func81
def WO : Ent := ⟨[.ag 12, .ag 7], [.ag 12], fun x => Br x.1 x.2.1⟩
theorem FG : EOk prog 82 WO := aE (.s .n (.s .n (.s (.s (.lp [.leaf 5 (.int .i64)] 0 false .n) .n) (.s .n (.s .n (.s (.s .n (.j [.leaf 5 (.int .i64)] .n)) .n)))))) [] [4] [] .nil Tryz.mixed Tryz.func82
def TW : Ent := ⟨[.ag 12, .lf (.int .i64), .lf (.int .i64)], [.ag 12, .lf (.int .i64)], fun x => DA x.1 x.2.1 x.2.2.1⟩
theorem TV : EOk prog 84 TW := aE .n [] [6] [] (.cons o6 (.cons FG .nil)) Tryz.mixed Tryz.func84
def TU : Ent := ⟨[.ag 12, .lf (.int .i64)], [.ag 12], fun x => yZ x.1 x.2.1⟩
theorem TT : EOk prog 96 TU := aE .n [] [4] [] (.cons o6 (.cons FG .nil)) Tryz.mixed Tryz.func96
def TQ : Ent := ⟨[.ag 12, .lf (.int .i64)], [.ag 0], fun x => Dy x.1 x.2.1⟩
theorem TP : EOk prog 172 TQ := aE (.s .n (.s .n (.s (.s .n (.s (.lp [.box 5 27 0 [], .leaf 6 (.int .i64)] 0 false .n) .n)) .n))) [] [4] [] (.cons iz .nil) Tryz.mixed Tryz.func172
def TR : Ent := ⟨[.ag 12, .lf (.int .i64)], [.ag 0], fun x => yY x.1 x.2.1⟩
theorem IP : EOk prog 156 TR := aE .n [] [4] [] (.cons o6 (.cons TP (.cons IZ .nil))) Tryz.mixed Tryz.func156
def TO : Ent := ⟨[.lf (.int .i64)], [.lf (.bool)], fun x => yX x.1⟩
theorem TN : EOk prog 80 TO := aE .n [] [] [] .nil Tryz.mixed Tryz.func80
def G4 : Ent := ⟨[.ag 12, .ag 7], [.ag 12, .lf (.int .i64)], fun x => qG x.1 x.2.1⟩
theorem G3 : EOk prog 45 G4 := aE .n [] [4] [] (.cons TN (.cons o6 (.cons FG .nil))) Tryz.mixed Tryz.func45
def MS : Ent := ⟨[.ag 12], [.lf (.sl (.int .i64))], fun x => vF x.1⟩
theorem MR : EOk prog 94 MS := aE (.s .n (.s .n (.s (.s .n (.s (.lp [.row 3 3 3 1 (.int .i64), .leaf 4 (.int .i64)] 0 false .n) .n)) .n))) [] [] [] .nil Tryz.mixed Tryz.func94
def Qr : Ent := ⟨[.ag 12, .lf (.int .i64)], [.ag 11, .lf (.bool)], fun x => zL x.1 x.2.1⟩
theorem Qq : EOk prog 137 Qr := aE (.s .n (.s (.s .n (.s (.lp [.leaf 6 (.int .i64)] 0 true .n) .n)) .n)) [] [4] [] .nil Tryz.mixed Tryz.func137
def Ut : Ent := ⟨[.ag 12, .lf (.str), .ag 1], [.lf (.bool)], fun x => zO x.1 x.2.1 x.2.2.1⟩
theorem I2 : EOk prog 154 Ut := aE .n [] [] [] (.cons kz (.cons iz (.cons pD (.cons o8 .nil)))) Tryz.mixed Tryz.func154
def Qt : Ent := ⟨[.ag 12, .lf (.str), .lf (.int .i64), .lf (.int .i64)], [.lf (.bool)], fun x => u5 x.1 x.2.1 x.2.2.1 x.2.2.2.1⟩
theorem F4 : EOk prog 155 Qt := aE .n [] [] [] (.cons Gc (.cons TY (.cons o8 .nil))) Tryz.mixed Tryz.func155
def KI : Ent := ⟨[.ag 12, .lf (.int .i64)], [.ag 12], fun x => fF x.1 x.2.1⟩
theorem zP : EOk prog 95 KI := aE (.s .n (.s .n (.s (.s .n (.s (.lp [.row 5 5 93 3 (.st 11), .leaf 6 (.int .i64)] 0 false .n) .n)) .n))) [] [4] [] .nil Tryz.mixed Tryz.func95
def NC : Ent := ⟨[.ag 12, .ag 7, .ag 2, .ag 1], [.ag 12, .ag 6], fun x => mO x.1 x.2.1 x.2.2.1 x.2.2.2.1⟩
theorem Cp : EOk prog 158 NC := aE (.s .n (.s .n (.s .n (.s .n (.s (.s .n (.j [.box 6 30 2 []] .n)) (.s .n (.s (.s (.lp [.leaf 11 (.int .i64)] 0 false .n) .n) .n))))))) [(3, [54, 57, 60, 61, 86, 89, 90, 96]), (13, [54, 57, 60, 61, 81, 86, 89, 90, 96])] [8, 9] [] (.cons TF (.cons mR .nil)) Tryz.mixed Tryz.func158
def Qv : Ent := ⟨[.ag 12, .ag 7, .ag 11], [.ag 12, .lf (.int .i64), .ag 6, .lf (.bool)], fun x => sg x.1 x.2.1 x.2.2.1⟩
theorem Qu : EOk prog 138 Qv := aE .n [] [6, 8] [] (.cons fH (.cons WL (.cons fG (.cons I3 (.cons o8 (.cons I2 (.cons F4 (.cons zP (.cons IP (.cons Gh (.cons Cp .nil))))))))))) Tryz.mixed Tryz.func138
def NA : Ent := ⟨[.ag 12, .lf (.int .i64), .lf (.int .i64)], [.lf (.bool)], fun x => vQ x.1 x.2.1 x.2.2.1⟩
theorem Nz : EOk prog 179 NA := aE (.s .n (.s (.s .n (.s (.lp [.leaf 7 (.int .i64)] 0 true .n) .n)) .n)) [] [] [] .nil Tryz.mixed Tryz.func179
def Qx : Ent := ⟨[.ag 12, .ag 11], [.ag 12], fun x => si x.1 x.2.1⟩
theorem Qw : EOk prog 180 Qx := aE (.s .n (.s .n (.s (.s (.lp [.leaf 5 (.int .i64)] 0 false .n) .n) .n))) [] [4] [] .nil Tryz.mixed Tryz.func180
def Uv : Ent := ⟨[.ag 12, .ag 7, .ag 2, .ag 1, .lf (.bool)], [.ag 12, .lf (.int .i64), .ag 6], fun x => vR x.1 x.2.1 x.2.2.1 x.2.2.2.1 x.2.2.2.2.1⟩
theorem Uu : EOk prog 161 Uv := aE (.s .n (.s .n (.s .n (.s (.s .n (.s (.s (.s .n (.j [.box 7 30 2 [], .box 5 43 12 []] .n)) .n) .n)) .n)))) [] [10, 12] [] (.cons I2 (.cons Cq (.cons o8 (.cons I3 (.cons TJ (.cons mR (.cons Gh (.cons IP (.cons Cp (.cons Nz (.cons Qw .nil))))))))))) Tryz.mixed Tryz.func161
def Nx : Ent := ⟨[.ag 12, .ag 7, .lf (.bool)], [.ag 12, .lf (.int .i64), .ag 6], fun x => eh x.1 x.2.1 x.2.2.1⟩
theorem Nw : EOk prog 139 Nx := aE (.s .n (.s .n (.s (.s .n (.s (.lp [.box 3 43 12 [], .leaf 10 (.int .i64)] 0 true (.s .n (.s (.s (.s .n (.s .n (.s (.lp [.box 3 43 12 [], .leaf 12 (.int .i64)] 2 true (.s .n (.s (.s (.s .n (.s .n (.s .n (.s (.lp [.box 3 43 12 [], .leaf 15 (.int .i64)] 4 true .n) .n)))) .n) .n))) .n))) .n) .n))) .n)) .n))) [] [6, 8] [] (.cons KL (.cons QF (.cons fH (.cons F4 (.cons Uu .nil))))) Tryz.mixed Tryz.func139
def Ux : Ent := ⟨[.ag 12, .lf (.int .i64)], [.ag 12, .lf (.int .i64), .ag 6], fun x => vS x.1 x.2.1⟩
theorem Uw : EOk prog 118 Ux := aE .n [] [4, 6] [] (.cons o6 (.cons Qq (.cons Qu (.cons Nw .nil)))) Tryz.mixed Tryz.func118
def QB : Ent := ⟨[.ag 12, .lf (.int .i64)], [.ag 12, .lf (.sl (.st 6))], fun x => p8 x.1 x.2.1⟩
theorem QA : EOk prog 87 QB := aE (.s .n (.s .n (.s (.s .n (.s (.lp [.box 2 43 12 [], .row 6 6 91 9 (.st 6), .leaf 7 (.int .i64)] 0 false .n) .n)) .n))) [(5, [27, 28])] [4] [] (.cons Uw .nil) Tryz.mixed Tryz.func87
def Qg : Ent := ⟨[.lf (.int .i64)], [.lf (.int .i64)], fun x => lH x.1⟩
theorem Qf : EOk prog 189 Qg := aE .n [] [] [] .nil Tryz.mixed Tryz.func189
def Cn : Ent := ⟨[.lf (.int .i64), .lf (.sl (.int .i64)), .lf (.sl (.int .i64)), .lf (.sl (.int .i64))], [.lf (.sl (.int .i64))], fun x => vO x.1 x.2.1 x.2.2.1 x.2.2.2.1⟩
theorem Np : EOk prog 182 Cn := aE (.s .n (.s .n (.s .n (.s .n (.s (.s .n (.s (.lp [.row 11 11 3 1 (.int .i64), .leaf 10 (.int .i64), .leaf 12 (.int .i64)] 0 false .n) .n)) (.s (.s .n (.s (.lp [.row 11 11 3 1 (.int .i64), .leaf 10 (.int .i64), .leaf 14 (.int .i64)] 2 false .n) .n)) .n)))))) [(2, [49, 50]), (7, [49, 50]), (13, [49, 50])] [] [] (.cons Qf .nil) Tryz.mixed Tryz.func182
theorem Qh (k : Nat) (x : cp [.ag 12, .lf (.str), .lf (.int .i64), .lf (.int .i64)]) : fS ⟨prog, [(163, ⟨[.ag 12, .lf (.str), .lf (.int .i64), .lf (.int .i64)], [.lf (.sl (.st 18))], fun x => lI k x.1 x.2.1 x.2.2.1 x.2.2.2.1⟩), (55, IV), (164, FL), (174, IT), (141, Gg), (165, wI), (182, Cn)], 101, [.lf (.sl (.st 18))], [.tmp 8], [(1, [27, 43, 44, 54, 55, 74, 75, 99]), (8, [27, 54, 55, 74, 75, 99]), (9, [27, 43, 44, 74, 75, 99]), (10, [27, 43, 44, 54, 55, 99]), (11, [10, 11, 12, 27, 43, 44, 54, 55, 74, 75, 99]), (16, [10, 11, 12, 27, 43, 44, 54, 55, 74, 75])], [], []⟩ ((Tryz.f163).body.getD .skip) (.s (.n) (.s (.n) (.s (.n) (.s (.n) (.s (.s (.n) (.s (.lp [.row 10 10 3 1 (.int .i64), .row 12 12 3 1 (.int .i64), .row 11 11 3 1 (.int .i64), .leaf 13 (.int .i64)] 0 false (.n)) .n)) (.s (.n) (.s (.n) (.s (.s (.n) (.s (.lp [.row 15 15 199 2 (.st 18), .leaf 16 (.int .i64)] 2 false (.n)) .n)) (.n))))))))) [.ag 12, .lf (.str), .lf (.int .i64), .lf (.int .i64)] x = lI (k + 1) x.1 x.2.1 x.2.2.1 x.2.2.2.1 := by kernel_rfl
theorem F3 : ∀ k : Nat, bK prog 163 [.ag 12, .lf (.str), .lf (.int .i64), .lf (.int .i64)] [.lf (.sl (.st 18))] (fun x => lI k x.1 x.2.1 x.2.2.1 x.2.2.2.1)
 | 0 => fun x r h => by cases h
 | k + 1 => cd (n := 101) (.cons (F3 k) (.cons (vJ) (.cons (pD) (.cons (IR) (.cons (kz) (.cons (wH) (.cons (Np) (.nil)))))))) Tryz.mixed Tryz.func163 rfl (by kernel_rfl) rfl rfl rfl (Qh k)
def KF : Ent := ⟨[.ag 12, .lf (.int .i64)], [.lf (.sl (.st 18))], fun x => p7 x.1 x.2.1⟩
theorem zG : EOk prog 145 KF := aE (.s .n (.s .n (.s .n (.s (.s .n (.s (.lp [.leaf 5 (.sl (.st 18)), .leaf 7 (.int .i64)] 0 false (.s .n (.s (.s (.s .n (.s (.s (.lp [.leaf 8 (.int .i64)] 2 false .n) .n) .n)) .n) .n))) .n)) .n)))) [(2, [5, 46, 52, 53, 58])] [] [] (.cons pC (.cons (F3 ab) .nil)) Tryz.mixed Tryz.func145
def Up : Ent := ⟨[.ag 12, .lf (.int .i64), .lf (.str)], [.lf (.int .i64)], fun x => zF x.1 x.2.1 x.2.2.1⟩
theorem Uo : EOk prog 144 Up := aE (.s .n (.s .n (.s (.s .n (.s (.lp [.leaf 8 (.int .i64)] 0 true .n) .n)) .n))) [] [] [] (.cons zG .nil) Tryz.mixed Tryz.func144
def Qe : Ent := ⟨[.ag 12, .ag 12], [.lf (.sl (.int .i64))], fun x => uW x.1 x.2.1⟩
theorem FY : EOk prog 99 Qe := aE (.s .n (.s .n (.s (.s .n (.s (.lp [.row 5 5 3 1 (.int .i64), .leaf 6 (.int .i64)] 0 false .n) .n)) .n))) [(5, [36, 37])] [] [] (.cons mS .nil) Tryz.mixed Tryz.func99
def Ni : Ent := ⟨[.ag 12, .lf (.str), .lf (.int .i64)], [.lf (.int .i64)], fun x => se x.1 x.2.1 x.2.2.1⟩
theorem Nh : EOk prog 146 Ni := aE (.s .n (.s .n (.s (.s .n (.s (.lp [.leaf 9 (.int .i64)] 0 true (.s .n (.s (.s (.s .n (.s .n (.s (.lp [.leaf 11 (.int .i64)] 2 true .n) .n))) .n) .n))) .n)) .n))) [] [] [] (.cons kz (.cons pD (.cons fG (.cons wH .nil)))) Tryz.mixed Tryz.func146
def P9 : Ent := ⟨[.ag 12, .ag 6], [.lf (.str)], fun x => i7 x.1 x.2.1⟩
theorem xM : EOk prog 142 P9 := aE .n [] [] [] (.cons fH .nil) Tryz.mixed Tryz.func142
def WT : Ent := ⟨[.lf (.sl (.int .i64)), .lf (.int .i64)], [.lf (.bool)], fun x => xN x.1 x.2.1⟩
theorem Nk : EOk prog 166 WT := aE (.s .n (.s (.s .n (.s (.lp [.leaf 5 (.int .i64)] 0 true .n) .n)) .n)) [] [] [] .nil Tryz.mixed Tryz.func166
def KC : Ent := ⟨[.ag 12, .lf (.str), .lf (.int .i64), .lf (.sl (.int .i64))], [.lf (.int .i64)], fun x => mN x.1 x.2.1 x.2.2.1 x.2.2.2.1⟩
theorem KB : EOk prog 147 KC := aE (.s .n (.s .n (.s (.s .n (.s (.lp [.leaf 9 (.int .i64), .leaf 10 (.int .i64)] 0 false .n) .n)) .n))) [] [] [] (.cons xM (.cons Nk .nil)) Tryz.mixed Tryz.func147
def Kz : Ent := ⟨[.ag 12, .lf (.str), .lf (.int .i64), .lf (.sl (.int .i64))], [.ag 6, .lf (.bool)], fun x => pX x.1 x.2.1 x.2.2.1 x.2.2.2.1⟩
theorem Ky : EOk prog 148 Kz := aE (.s .n (.s .n (.s (.s .n (.s (.lp [.box 10 91 6 [], .leaf 11 (.bool), .leaf 12 (.int .i64)] 0 false .n) .n)) .n))) [] [8] [] (.cons xM (.cons Nk .nil)) Tryz.mixed Tryz.func148
def Qd : Ent := ⟨[.ag 12, .lf (.int .i64)], [.lf (.sl (.int .i64))], fun x => zD x.1 x.2.1⟩
theorem Qc : EOk prog 122 Qd := aE (.s .n (.s .n (.s .n (.s (.s .n (.s (.lp [.leaf 6 (.int .i64), .leaf 7 (.int .i64)] 0 false .n) .n)) (.s .n (.s (.s (.lp [.row 8 8 3 1 (.int .i64)] 2 true (.s .n (.s (.s .n (.s (.s .n (.s (.lp [.leaf 9 (.int .i64), .box 10 91 6 [], .leaf 11 (.int .i64)] 4 false .n) .n)) .n)) .n))) .n) .n)))))) [(1, [103, 104]), (2, [103, 104]), (6, [103, 104]), (8, [103, 104]), (14, [103, 104]), (15, [103, 104])] [] [] (.cons zG (.cons pC (.cons kz (.cons Nh (.cons KB (.cons Ky .nil)))))) Tryz.mixed Tryz.func122
def Kx : Ent := ⟨[.ag 12, .ag 6], [.lf (.int .i64)], fun x => pV x.1 x.2.1⟩
theorem Kw : EOk prog 143 Kx := aE (.s .n (.s .n (.s (.s .n (.s (.lp [.leaf 5 (.int .i64), .leaf 6 (.int .i64)] 0 false .n) .n)) .n))) [] [] [] .nil Tryz.mixed Tryz.func143
def P8 : Ent := ⟨[.ag 12, .lf (.int .i64), .lf (.int .i64)], [.ag 12], fun x => nQ x.1 x.2.1 x.2.2.1⟩
theorem FX : EOk prog 123 P8 := aE (.s .n (.s .n (.s (.s .n (.s (.lp [.row 7 9 91 9 (.st 6), .leaf 8 (.int .i64)] 0 false .n) .n)) .n))) [] [6] [] .nil Tryz.mixed Tryz.func123
def Qb : Ent := ⟨[.ag 12, .lf (.int .i64)], [.ag 12], fun x => zA x.1 x.2.1⟩
theorem Qa : EOk prog 121 Qb := aE (.s .n (.s .n (.s (.s .n (.s (.lp [.row 5 5 91 9 (.st 6), .leaf 6 (.int .i64)] 0 false .n) .n)) (.s (.s .n (.s (.lp [.box 2 43 12 [], .leaf 8 (.int .i64)] 2 false .n) .n)) .n)))) [(11, [5, 43, 44, 84]), (13, [5, 43, 44, 84]), (14, [5, 43, 44]), (15, [5, 43, 44, 84])] [4] [] (.cons mS (.cons xM (.cons kz (.cons Kw (.cons Uo (.cons xR (.cons FX .nil))))))) Tryz.mixed Tryz.func121
def Nm : Ent := ⟨[.ag 12], [.ag 12, .lf (.sl (.int .i64))], fun x => vN x.1⟩
theorem Nl : EOk prog 98 Nm := aE (.s .n (.s .n (.s (.s .n (.s (.lp [.box 1 43 12 [], .leaf 5 (.int .i64)] 0 false (.s .n (.s (.s (.s .n (.s .n (.s .n (.s (.lp [.box 1 43 12 [], .leaf 7 (.int .i64)] 2 false .n) .n)))) .n) .n))) .n)) .n))) [] [2] [] (.cons Qa (.cons Qc (.cons FX (.cons FY .nil)))) Tryz.mixed Tryz.func98
def Qk : Ent := ⟨[.lf (.int .i64)], [.lf (.bool)], fun x => uY x.1⟩
theorem Qj : EOk prog 124 Qk := aE .n [] [] [] .nil Tryz.mixed Tryz.func124
def WV : Ent := ⟨[.lf (.sl (.st 8)), .lf (.int .i64), .lf (.int .i64)], [.ag 0], fun x => u4 x.1 x.2.1 x.2.2.1⟩
theorem WU : EOk prog 150 WV := aE (.s .n (.s .n (.s (.s .n (.s (.lp [.box 7 27 0 [], .leaf 8 (.int .i64)] 0 false .n) .n)) .n))) [] [6] [] (.cons iz .nil) Tryz.mixed Tryz.func150
def Qm : Ent := ⟨[.lf (.sl (.st 8)), .ag 0, .ag 8, .lf (.int .i64), .lf (.int .i64)], [.lf (.bool)], fun x => sf x.1 x.2.1 x.2.2.1 x.2.2.2.1 x.2.2.2.2.1⟩
theorem Ql : EOk prog 125 Qm := aE (.s .n (.s .n (.s (.s .n (.s (.lp [.leaf 11 (.int .i64)] 0 true .n) .n)) .n))) [] [] [] (.cons WU (.cons iz (.cons o8 .nil))) Tryz.mixed Tryz.func125
def Nt : Ent := ⟨[.lf (.sl (.st 8)), .ag 0, .ag 8, .lf (.int .i64)], [.lf (.int .i64), .lf (.int .i64)], fun x => vP x.1 x.2.1 x.2.2.1 x.2.2.2.1⟩
theorem Ns : EOk prog 100 Nt := aE (.s .n (.s .n (.s .n (.s (.s .n (.s (.lp [.leaf 10 (.int .i64), .leaf 11 (.int .i64)] 0 false (.s .n (.s (.s (.s .n (.s (.s .n (.j [.leaf 12 (.int .i64)] .n)) .n)) .n) .n))) .n)) .n)))) [] [] [] (.cons Qj (.cons Ql .nil)) Tryz.mixed Tryz.func100
def Us : Ent := ⟨[.ag 12, .ag 8, .lf (.int .i64)], [.ag 12, .lf (.int .i64), .lf (.int .i64)], fun x => zJ x.1 x.2.1 x.2.2.1⟩
theorem Ur : EOk prog 50 Us := aE (.s .n (.s .n (.s .n (.s (.s .n (.s (.lp [.leaf 9 (.int .i64), .leaf 10 (.int .i64)] 0 true .n) .n)) .n)))) [] [6] [] (.cons pC (.cons Ns .nil)) Tryz.mixed Tryz.func50
def Qo : Ent := ⟨[.ag 12, .lf (.int .i64)], [.ag 12, .lf (.int .i64)], fun x => uZ x.1 x.2.1⟩
theorem Qn : EOk prog 51 Qo := aE (.s .n (.s .n (.s (.s .n (.s (.lp [.row 6 6 74 6 (.st 8), .leaf 7 (.int .i64)] 0 false .n) .n)) .n))) [] [4] [] .nil Tryz.mixed Tryz.func51
theorem Kr (k : Nat) (x : cp [.lf (.int .i64)]) : fS ⟨prog, [(53, ⟨[.lf (.int .i64)], [.lf (.str)], fun x => dn k x.1⟩)], 25, [.lf (.str)], [.tmp 2], [], [], []⟩ ((Tryz.f53).body.getD .skip) (.n) [.lf (.int .i64)] x = dn (k + 1) x.1 := by kernel_rfl
theorem ze : ∀ k : Nat, bK prog 53 [.lf (.int .i64)] [.lf (.str)] (fun x => dn k x.1)
 | 0 => fun x r h => by cases h
 | k + 1 => cd (n := 25) (.cons (ze k) (.nil)) Tryz.mixed Tryz.func53 rfl (by kernel_rfl) rfl rfl rfl (Kr k)
def WP : Ent := ⟨[.lf (.str), .lf (.int .u8)], [.lf (.sl (.str))], fun x => FP x.1 x.2.1⟩
theorem M5 : EOk prog 111 WP := aE (.s .n (.s .n (.s .n (.s (.s .n (.s (.lp [.row 5 5 9 1 (.str), .leaf 6 (.int .i64), .leaf 7 (.int .i64)] 0 false .n) .n)) (.s (.s .n (.j [.row 5 5 9 1 (.str)] .n)) .n))))) [] [] [] .nil Tryz.mixed Tryz.func111
def PF : Ent := ⟨[.lf (.str)], [.lf (.sl (.str))], fun x => y7 x.1⟩
theorem PE : EOk prog 112 PF := aE (.s .n (.s .n (.s .n (.s (.s .n (.s (.lp [.row 3 3 9 1 (.str), .leaf 5 (.int .i64)] 0 false .n) .n)) .n)))) [] [] [] (.cons M5 .nil) Tryz.mixed Tryz.func112
def M4 : Ent := ⟨[.lf (.str)], [.lf (.int .i64), .lf (.bool)], fun x => o7 x.1⟩
theorem Ci : EOk prog 133 M4 := aE (.s .n (.s .n (.s .n (.s (.s .n (.s (.lp [.leaf 4 (.int .i64), .leaf 5 (.int .i64)] 0 true .n) .n)) .n)))) [] [] [] .nil Tryz.mixed Tryz.func133
def PH : Ent := ⟨[.lf (.str)], [.ag 3, .lf (.bool)], fun x => y8 x.1⟩
theorem PG : EOk prog 134 PH := aE (.s .n (.s .n (.s (.s (.lp [.leaf 4 (.int .i64)] 0 false .n) .n) .n))) [] [2] [] (.cons Ci .nil) Tryz.mixed Tryz.func134
def PJ : Ent := ⟨[.lf (.sl (.str)), .lf (.int .i64)], [.ag 4, .lf (.bool)], fun x => y9 x.1 x.2.1⟩
theorem PI : EOk prog 113 PJ := aE (.s .n (.s .n (.s .n (.s .n (.s (.s .n (.s (.lp [.leaf 7 (.bool), .box 8 63 4 [(1, 1161, 98, 2, .st 3)], .leaf 9 (.int .i64)] 0 false .n) .n)) .n))))) [] [4] [] (.cons Ci (.cons PG .nil)) Tryz.mixed Tryz.func113
def PM : Ent := ⟨[.lf (.str)], [.ag 5, .lf (.int .i64)], fun x => zc x.1⟩
theorem PK : EOk prog 78 PM := aE (.s .n (.s .n (.s .n (.s .n (.s .n (.s (.s .n (.s (.lp [.box 4 36 5 [], .leaf 5 (.bool), .leaf 7 (.int .i64)] 0 true (.s .n (.s (.s (.s .n (.s .n (.s .n (.s .n (.s .n (.s .n (.s .n (.s (.s (.lp [.leaf 11 (.int .i64)] 2 false .n) .n) .n)))))))) .n) .n))) .n)) .n)))))) [] [2] [] (.cons M5 (.cons PE (.cons PI .nil))) Tryz.mixed Tryz.func78
def T9 : Ent := ⟨[.ag 5, .ag 5], [.lf (.bool)], fun x => DD x.1 x.2.1⟩
theorem T8 : EOk prog 40 T9 := aE (.s .n (.s .n (.s (.s .n (.s (.lp [.leaf 5 (.int .i64)] 0 true .n) .n)) (.s (.s .n (.s (.lp [.leaf 6 (.int .i64)] 2 true (.s .n (.s (.s (.s .n (.s .n (.s .n (.s (.lp [.leaf 9 (.int .i64)] 4 true .n) .n)))) .n) .n))) .n)) .n)))) [] [] [] .nil Tryz.mixed Tryz.func40
def Bz : Ent := ⟨[.ag 5], [.lf (.str)], fun x => za x.1⟩
theorem IX : EOk prog 27 Bz := aE (.s .n (.s .n (.s (.s .n (.s (.lp [.leaf 3 (.str), .leaf 4 (.int .i64)] 0 false .n) .n)) (.s .n (.s (.s .n (.s (.lp [.leaf 3 (.str), .leaf 5 (.int .i64)] 2 false (.s .n (.s (.s (.s .n (.s .n (.s (.s .n (.s (.lp [.leaf 3 (.str), .leaf 7 (.int .i64)] 4 false .n) .n)) .n))) .n) .n))) .n)) .n))))) [] [] [] (.cons (ze ab) .nil) Tryz.mixed Tryz.func27
def vM : Ent := ⟨[], [.ag 12], fun x => zx ⟩
theorem BA : EOk prog 25 vM := aE .n [] [0] [] .nil Tryz.mixed Tryz.func25
def P2 : Ent := ⟨[.lf (.sl (.int .i64)), .lf (.sl (.int .i64))], [.lf (.bool)], fun x => pO x.1 x.2.1⟩
theorem P1 : EOk prog 76 P2 := aE (.s .n (.s .n (.s (.s .n (.s (.lp [.leaf 5 (.int .i64)] 0 true .n) .n)) .n))) [] [] [] .nil Tryz.mixed Tryz.func76
def Un : Ent := ⟨[.ag 2, .ag 2], [.lf (.bool)], fun x => DE x.1 x.2.1⟩
theorem Um : EOk prog 41 Un := aE (.s .n (.s .n (.s (.s .n (.s (.lp [.leaf 5 (.int .i64)] 0 true .n) .n)) .n))) [] [] [] (.cons P1 .nil) Tryz.mixed Tryz.func41
def xK : Ent := ⟨[.ag 12, .ag 12], [.lf (.bool)], fun x => uU x.1 x.2.1⟩
theorem FV : EOk prog 14 xK := aE (.s .n (.s .n (.s .n (.s (.s .n (.s (.lp [.leaf 5 (.bool), .leaf 6 (.int .i64)] 0 false .n) .n)) (.s (.s .n (.s (.lp [.leaf 5 (.bool), .leaf 7 (.int .i64)] 2 false .n) .n)) (.s (.s .n (.s (.lp [.leaf 5 (.bool), .leaf 8 (.int .i64)] 4 false .n) .n)) (.s (.s .n (.s (.lp [.leaf 5 (.bool), .leaf 9 (.int .i64)] 6 false .n) .n)) (.s (.s .n (.s (.lp [.leaf 5 (.bool), .leaf 10 (.int .i64)] 8 false .n) .n)) .n)))))))) [] [] [] (.cons T8 (.cons Um .nil)) Tryz.mixed Tryz.func14
def Ul : Ent := ⟨[.ag 12, .lf (.int .i64)], [.ag 12, .ag 10], fun x => dE x.1 x.2.1⟩
theorem o9 : EOk prog 52 Ul := aE .n [] [4, 5] [] .nil Tryz.mixed Tryz.func52
def Kv : Ent := ⟨[.ag 12, .lf (.str)], [.ag 12, .ag 10], fun x => th x.1 x.2.1⟩
theorem Ku : EOk prog 44 Kv := aE (.s .n (.s .n (.s (.s .n (.j [.leaf 7 (.int .i64)] .n)) (.s .n (.s .n (.s (.s .n (.s (.lp [.leaf 8 (.int .i64)] 0 true .n) .n)) (.s (.s .n (.s (.lp [.leaf 9 (.int .i64)] 2 true .n) .n)) .n))))))) [] [4, 5] [] (.cons PK (.cons PB (.cons o9 (.cons fG (.cons Bw .nil))))) Tryz.mixed Tryz.func44
def WS : Ent := ⟨[.ag 12, .lf (.int .i64)], [.lf (.sl (.int .i64))], fun x => xI x.1 x.2.1⟩
theorem Nc : EOk prog 83 WS := aE (.s .n (.s .n (.s (.s .n (.s (.lp [.row 5 5 3 1 (.int .i64), .leaf 6 (.int .i64)] 0 false .n) .n)) .n))) [] [] [] .nil Tryz.mixed Tryz.func83
def P6 : Ent := ⟨[.ag 12, .ag 9], [.ag 12, .ag 10], fun x => zw x.1 x.2.1⟩
theorem P5 : EOk prog 46 P6 := aE (.s .n (.s .n (.s .n (.s .n (.s .n (.s .n (.s (.s .n (.s (.lp [.row 10 10 3 1 (.int .i64), .leaf 11 (.int .i64)] 0 false .n) .n)) .n))))))) [(1, [83, 84]), (3, [83, 84]), (4, [83, 84]), (6, [83, 84]), (11, [83, 84]), (14, [10, 83, 84]), (15, [10, 83, 84]), (16, [10, 83, 84])] [4, 5] [] (.cons o6 (.cons Nc (.cons TV (.cons o9 (.cons mS (.cons xR (.cons QA .nil))))))) Tryz.mixed Tryz.func46
def Nf : Ent := ⟨[.ag 12, .lf (.sl (.int .i64))], [.lf (.sl (.st 6))], fun x => sa x.1 x.2.1⟩
theorem Nd : EOk prog 88 Nf := aE (.s .n (.s .n (.s (.s .n (.s (.lp [.row 5 5 91 9 (.st 6), .leaf 6 (.int .i64)] 0 false .n) .n)) .n))) [(5, [27, 28])] [] [] (.cons mS .nil) Tryz.mixed Tryz.func88
def G6 : Ent := ⟨[.ag 12, .lf (.int .i64)], [.lf (.sl (.int .i64))], fun x => nP x.1 x.2.1⟩
theorem G5 : EOk prog 89 G6 := aE (.s .n (.s .n (.s (.s .n (.s (.lp [.row 5 5 3 1 (.int .i64), .leaf 6 (.int .i64)] 0 false .n) .n)) .n))) [] [] [] .nil Tryz.mixed Tryz.func89
def Nb : Ent := ⟨[.ag 12, .lf (.sl (.st 1)), .lf (.sl (.st 1))], [.lf (.sl (.st 1)), .lf (.int .i64)], fun x => vL x.1 x.2.1 x.2.2.1⟩
theorem Na : EOk prog 90 Nb := aE (.s .n (.s (.s .n (.s (.lp [.leaf 1 (.sl (.st 1)), .leaf 8 (.int .i64)] 0 true .n) .n)) .n)) [] [] [] (.cons Pm (.cons WJ .nil)) Tryz.mixed Tryz.func90
def Kt : Ent := ⟨[.ag 12, .ag 9], [.ag 12, .ag 10], fun x => tg x.1 x.2.1⟩
theorem Ks : EOk prog 47 Kt := aE (.s .n (.s .n (.s .n (.s .n (.s .n (.s (.s .n (.s (.lp [.box 2 43 12 [], .box 6 30 2 [], .leaf 10 (.int .i64)] 1 false .n) .n)) .n)))))) [(1, [61, 64, 144, 147]), (3, [61, 64, 144, 147]), (5, [61, 64, 144, 147]), (7, [61, 64, 144, 147]), (9, [144, 147]), (11, [61, 64, 144, 147]), (12, [61, 64, 144, 147]), (14, [61, 64, 144, 147]), (18, [61, 64, 144, 147]), (20, [61, 64, 144, 147]), (21, [61, 64, 144, 147]), (22, [61, 64]), (25, [61, 64, 144, 147])] [4, 5] [] (.cons fH (.cons o9 (.cons Nd (.cons G5 (.cons Na (.cons mS (.cons Gm (.cons wJ (.cons mR .nil))))))))) Tryz.mixed Tryz.func47
def Uk : Ent := ⟨[.ag 12, .lf (.int .i64), .lf (.int .i64)], [.ag 12, .ag 10], fun x => zr x.1 x.2.1 x.2.2.1⟩
theorem Uj : EOk prog 48 Uk := aE .n [] [6, 7] [] (.cons fH (.cons o9 (.cons fG (.cons Uz .nil)))) Tryz.mixed Tryz.func48
def P4 : Ent := ⟨[.ag 12, .lf (.int .i64)], [.lf (.int .i64)], fun x => uT x.1 x.2.1⟩
theorem P3 : EOk prog 97 P4 := aE (.s .n (.s (.s .n (.s (.lp [.leaf 5 (.int .i64)] 0 true .n) .n)) .n)) [] [] [] .nil Tryz.mixed Tryz.func97
def P0 : Ent := ⟨[.ag 12, .lf (.int .i64)], [.ag 12, .ag 10], fun x => zp x.1 x.2.1⟩
theorem PZ : EOk prog 49 P0 := aE (.s .n (.s .n (.s .n (.s .n (.s .n (.s .n (.s (.s .n (.s (.lp [.box 2 43 12 [], .leaf 8 (.int .i64)] 0 false .n) .n)) (.s .n (.s (.s .n (.s (.lp [.box 2 43 12 [], .leaf 9 (.int .i64)] 2 false .n) .n)) (.s .n (.s (.s .n (.s (.lp [.row 10 10 74 6 (.st 8), .leaf 11 (.int .i64)] 4 false .n) .n)) .n))))))))))) [(2, [79, 103, 104]), (4, [79, 103, 104]), (7, [79, 103, 104]), (11, [79, 103, 104]), (12, [79, 103, 104]), (13, [79, 103, 104]), (17, [103, 104]), (25, [10, 79, 103, 104]), (26, [10, 79, 103, 104])] [4, 5] [] (.cons o9 (.cons MR (.cons TT (.cons zP (.cons Nc (.cons xR (.cons Ae (.cons P3 (.cons Nl (.cons FY .nil)))))))))) Tryz.mixed Tryz.func49
def FU : Ent := ⟨[.ag 12, .ag 9], [.ag 12, .ag 10], fun x => sd x.1 x.2.1⟩
theorem P7 : EOk prog 26 FU := aE .n [] [4, 5] [] (.cons Ku (.cons G3 (.cons P5 (.cons KP (.cons Ks (.cons Uj (.cons PZ (.cons Ur (.cons Qn (.cons o9 .nil)))))))))) Tryz.mixed Tryz.func26
abbrev Tx := List UInt8
def sv (l : Tx) : Value := .string ⟨l.toArray⟩
theorem ZL (S : ByteArray) : sv S.data.toList = .string S := by cases S; rfl
structure QD where
 path : Tx
 caps : List (Int × Int)
 user : Int
def above (l : Tx) : Tx := ((l.reverse.dropWhile (fun b => b != 46)).drop 1).reverse
theorem WF {l : Tx} (h : (46 : UInt8) ∉ l) : above l = [] := by
 unfold above
 have hp : ∀ x ∈ l.reverse, (x != 46) = true := fun x hx => by
  simp
  intro e
  subst e
  exact h (List.mem_reverse.1 hx)
 have := List.dropWhile_append_of_pos (l₂ := []) hp
 rw [List.append_nil] at this
 rw [this]
 rfl
theorem WG {a t : Tx} (h : (46 : UInt8) ∉ t) : above (a ++ 46 :: t) = a := by
 unfold above
 have hp : ∀ x ∈ t.reverse, (x != 46) = true := fun x hx => by simp; intro e; subst e; exact h (List.mem_reverse.1 hx)
 rw [List.reverse_append, List.reverse_cons, List.append_assoc, List.dropWhile_append_of_pos hp]
 simp
def ld (p : Tx) (q : QD) : Bool := decide (p ≠ []) && decide (above q.path = p)
def cz (p : Tx) (l : List QD) : List Tx := (l.filter (ld p)).map (·.path)
theorem Ex (l : List QD) : cz [] l = [] := by
 unfold cz
 have : l.filter (ld []) = [] := by
  rw [List.filter_eq_nil_iff]
  intro q _
  simp [ld]
 rw [this]; rfl
theorem S1 {p : Tx} {l : List QD} {k : Nat} (h : k < l.length) : cz p (l.take (k + 1)) = cz p (l.take k) ++ if ld p l[k] then [l[k].path] else [] := by
 unfold cz
 rw [List.take_succ_eq_append_getElem h, List.filter_append, List.map_append]
 congr 1
 by_cases hk : ld p l[k] = true
 ·simp [hk]
 ·simp [hk]
theorem VL (p : Tx) (l : List QD) : (cz p l).length ≤ l.length := by
 unfold cz
 rw [List.length_map]
 exact List.length_filter_le _ _
theorem X4 {p : Tx} {q : QD} (h0 : p ≠ []) (h : above q.path = p) : ld p q = true := by simp [ld, h0, h]
theorem Zr {p : Tx} {q : QD} (h : ¬ above q.path = p) : ld p q = false := by simp [ld, h]
theorem YS {z x : ByteArray} (h : ¬ z = x) : (z.toList == x.toList) = false := by
 rw [beq_eq_false_iff_ne]
 intro e
 rw [ByteArray.toList_eq, ByteArray.toList_eq] at e
 apply h
 cases z; cases x
 simp only at e
 rw [Array.toList_inj] at e
 rw [e]
theorem vE (S : ByteArray) : S.size = S.data.toList.length := by cases S; rfl
theorem Wy (S : ByteArray) (k : Nat) (h : k < S.size) : S[k] = S.data.toList[k]'(by rw [← vE]; exact h) := by cases S; rfl
theorem ZD {S : ByteArray} : S = ⟨#[]⟩ ↔ S.data.toList = [] := by
 cases S with
 | mk d => constructor
           ·intro h; injection h with h; rw [h]
           ·intro h; simp at h; rw [h]
theorem RQ (S : ByteArray) (i j : Nat) : (S.extract i j).data.toList = (S.data.toList.drop i).take (j - i) := by
 cases S with
 | mk d => simp [ByteArray.extract, ByteArray.copySlice, Array.toList_extract, List.extract_eq_take_drop]
theorem YT {T S : ByteArray} (e : T.data.toList = S.data.toList) : T = S := by
 cases T; cases S; simp only at e; rw [Array.toList_inj] at e; rw [e]
def cf (cs : List (Int × Int)) : List Value := cs.flatMap fun p => [.int .i64 p.1, .int .i64 p.2]
theorem G0 (cs : List (Int × Int)) (a b : Int) : cf (cs ++ [(a, b)]) = cf cs ++ [.int .i64 a, .int .i64 b] := by simp [cf]
structure QC where
 p : ByteArray
 A : Option Addr
 n : Nat
 c : Nat
 u : Int
def Ls (q : QC) : List Value := [.string q.p, .slice q.A q.n q.c, .int .i64 q.u]
def fT (qs : List QC) : List Value := qs.flatMap Ls
theorem Lu (qs : List QC) (q : QC) : fT (qs ++ [q]) = fT qs ++ Ls q := by simp [fT]
theorem Tryz.infoStr : (prog.info? 9).map (fun i => (i.zero, i.size, i.bytes)) = some (some (.string ⟨#[]⟩), 1, 16) := by kernel_rfl
theorem Tryz.infoQ : (prog.info? 63).map (fun i => (i.zero, i.size, i.bytes)) = some (some (.agg #[.string ⟨#[]⟩, .slice none 0 0, .int .i64 0]), 3, 48) := by kernel_rfl
theorem aax {s : ByteArray} {A : Option Addr} {n c : Nat} {i : Int} : ∀ u ∈ [Value.string s, Value.slice A n c, Value.int .i64 i], u.oneCell' = true := by
 intro u hu
 simp only [List.mem_cons, List.mem_nil_iff, or_false] at hu
 rcases hu with rfl | rfl | rfl <;> rfl
structure YW (w : World) (g k : Nat) (q : QD) : Prop where
 ex : ∃ (P : ByteArray) (A : Option Addr) (c : Nat), w.cell? ⟨g, k * 3, none⟩ = some (.string P) ∧ w.cell? ⟨g, k * 3 + 1, none⟩ = some (.slice A q.caps.length c) ∧ w.cell? ⟨g, k * 3 + 2, none⟩ = some (.int .i64 q.user) ∧ P.data.toList = q.path ∧ RdK 2 w (.slice A q.caps.length c) q.caps.length (cf q.caps)
def QAt (w : World) (v : Value) (ds : List QD) : Prop := ∃ A c, v = .slice A ds.length c ∧ ds.length ≤ c ∧ c ≤ maxLen ∧ (0 < ds.length → ∃ g, A = some ⟨g, 0, none⟩ ∧ g < w.heap.size ∧ ∀ k (h : k < ds.length), YW w g k ds[k])
theorem QAt.open {w : World} {v : Value} {ds : List QD} (h : QAt w v ds) : ∃ A N c, v = .slice A N c ∧ N = ds.length ∧ N ≤ c ∧ c ≤ 9223372036854775807 ∧ (0 < N → ∃ g, A = some ⟨g, 0, none⟩ ∧ g < w.heap.size ∧ ∀ k (h : k < ds.length), YW w g k ds[k]) := by
 obtain ⟨A, c, rfl, h1, h2, h3⟩ := h
 unfold maxLen at h2
 exact ⟨A, _, c, rfl, rfl, h1, by omega, h3⟩
theorem K3 (a n : Int) (w : World) (hn : 0 < n ∧ n ≤ 1125899906842625) :
  Calls prog 54 #[.int .i64 a, .int .i64 n] w fun e w' => e = .returned (.int .i64 (a % n)) ∧ w = w' := by
 obtain ⟨n0, n1⟩ := hn
 have hz : (n == 0) = false := by simp; omega
 have l1 : a.tmod n < n := Int.tmod_lt_of_pos a n0
 have l2 : -n < a.tmod n := by have := Int.lt_tmod_of_pos a n0; omega
 by_cases hneg : a.tmod n < 0
 ·rw [Mm n0 hneg]
  go_enter Tryz.func54, Tryz.ntmps54
  go_wp2
  go_ret
  exact ⟨rfl, rfl⟩
 ·rw [Ml n0 hneg]
  go_enter Tryz.func54, Tryz.ntmps54
  go_wp2
  go_ret
  exact ⟨rfl, rfl⟩
theorem gI (a : Int) (n : Nat) (m : Int) (w : World) (hm : m = (n : Int)) (hn : 0 < n ∧ n ≤ 1125899906842625) :
  Calls prog 54 #[.int .i64 a, .int .i64 m] w fun e w' => ∃ y : Nat, e = .returned (.int .i64 (y : Int)) ∧ (y : Int) = a % (n : Int) ∧ y < n ∧ w = w' := by
 subst hm
 refine (K3 a n w ⟨by omega, by omega⟩).mono ?_
 rintro e w' ⟨rfl, rfl⟩
 have h0 := Int.emod_nonneg a (show (n : Int) ≠ 0 by omega)
 have h1 := Int.emod_lt_of_pos a (show (0 : Int) < n by omega)
 refine ⟨(a % (n : Int)).toNat, ?_, by omega, by omega, rfl⟩
 rw [show (((a % (n : Int)).toNat : Nat) : Int) = a % (n : Int) from by omega]
theorem Ov {w : World} {base : Nat} {e : TypeId} {k : Nat} {v : Value} {n : Nat} {xs : List Value} (h : w.ownsRow base e k v n xs) {B : Nat} (hB : B ≤ base) : ∀ k, v.ownBlock = some k → B ≤ k :=
 fun k hk => Nat.le_trans hB (h.lt k hk).1
theorem Ol (S : ByteArray) (w : World) (hs : S.size ≤ 1000000000) : Calls prog 102 #[.string S] w fun e w' => ∃ T : ByteArray, e = .returned (.string T) ∧ T.data.toList = above S.data.toList ∧ T.size ≤ S.size ∧ w = w' := by
 go_enter Tryz.func102, Tryz.ntmps102
 go_wp2
 go_loop [3] (fun i => ∃ k : Nat, k ≤ S.size ∧ i = .int .i64 ((k : Int) - 1) ∧ (46 : UInt8) ∉ S.data.toList.drop k) (fun i => (intOf i + 1).toNat)
 case atStart => exact ⟨S.size, Nat.le_refl _, rfl, by rw [List.drop_of_length_le (by rw [vE]; omega)]; simp⟩
 case round =>
  obtain ⟨k, hk, rfl, hno⟩ := hrel
  have HNO := Lib.hid hno
  clear hno
  cases k with
  | zero =>
   have H2 := Lib.hid (WF (l := S.data.toList) (by have := HNO.out; simpa using this))
   go_wp2
   go_ret
   exact ⟨⟨#[]⟩, rfl, H2.out.symm, Nat.zero_le _, rfl⟩
  | succ k =>
   have hkl : k < S.data.toList.length := by rw [← vE]; omega
   have e1 : ((k + 1 : Nat) : Int) - 1 = (k : Int) := by omega
   rw [e1]
   have i0 : (0 : Int) ≤ (k : Int) := by omega
   have i1 : (k : Int) < (S.size : Int) := by omega
   have i2 : (k : Int) ≤ 1000000000 := by omega
   clear e1
   by_cases hd : S[k]'(by omega) = 46
   ·have H2 := Lib.hid (show above S.data.toList = S.data.toList.take k by
     have e : S.data.toList = S.data.toList.take k ++ 46 :: S.data.toList.drop (k + 1) := by
      have h4 : S.data.toList[k] = 46 := by rw [← Wy S k (by omega)]; exact hd
      have := List.take_append_drop k S.data.toList
      rw [List.drop_eq_getElem_cons hkl, h4] at this
      exact this.symm
     have := WG (a := S.data.toList.take k) HNO.out
     rw [← e] at this
     exact this)
    have hq : (((S[k]'(by omega)).toNat : Int) != 46) = false := by rw [hd]; rfl
    have hq2 : ((S[k]'(by omega)).toNat : Int) = 46 := by rw [hd]; rfl
    clear hd
    go_wp2
    go_ret
    refine ⟨_, rfl, ?_, ?_, rfl⟩
    ·rw [RQ, H2.out]; simp
    ·rw [vE, RQ, vE]; simp; omega
   ·have hq : ¬ ((S[k]'(by omega)).toNat : Int) = 46 := fun h => hd (UInt8.toNat.inj (by have : (46 : UInt8).toNat = 46 := rfl; omega))
    have hq2 : (((S[k]'(by omega)).toNat : Int) != 46) = true := by simpa using hq
    have HN2 := Lib.hid (show (46 : UInt8) ∉ S.data.toList.drop k by
     rw [List.drop_eq_getElem_cons hkl, List.mem_cons, not_or]
     exact ⟨fun e => hd (by rw [Wy S k (by omega)]; exact e.symm), HNO.out⟩)
    clear hd
    go_wp2
    go_round
    case rel => exact ⟨k, by omega, by simp, HN2.out⟩
    case measure => simp [intOf]
def W7 (p : Tx) (ds : List QD) (w : World) (e : Ending) (w' : World) : Prop := ∃ A n c, e = .returned (.slice A n c) ∧ n = (cz p ds).length ∧ w'.ownsRow w.heap.size 9 1 (.slice A n c) n ((cz p ds).map sv) ∧ Ext w w'
theorem Ee {w : World} {B B' : Nat} {e : TypeId} {k : Nat} {v : Value} {n : Nat} {xs : List Value} (h : w.ownsRow B e k v n xs) (hB : B' ≤ B) : w.ownsRow B' e k v n xs := by
 refine ⟨h.1, ?_⟩
 rcases h.2 with hn | ⟨g, cap, cur, rfl, hb, hr⟩
 ·exact .inl hn
 ·exact .inr ⟨g, cap, cur, rfl, Nat.le_trans hB hb, hr⟩
theorem Kj {w wr V w3 : World} {B n : Nat} {v v' : Value} {l : List Tx} {T : ByteArray} (HX : Ext w wr) (hV : Ext wr V) (hn : n = l.length) (HO : wr.ownsRow B 9 1 v n (l.map sv)) (hB : w.heap.size ≤ B)
  (ho3 : w3.ownsRow B 9 1 v' (n + 1) (l.map sv ++ [.string T])) (hg3 : V.grownBy w3 v.ownBlock) : w3.ownsRow B 9 1 v' (l ++ [T.data.toList]).length ((l ++ [T.data.toList]).map sv) ∧ Ext w w3 := by
 refine ⟨?_, (HX.trans hV).trans' (cJ hg3 ?_ (Ov HO hB))⟩
 ·rw [List.length_append, List.length_singleton, ← hn, List.map_append, List.map_singleton, ZL]
  exact ho3
 ·exact Nat.le_trans HX.size hV.size
theorem SC (ds : List QD) (vl vq : Value) (S : ByteArray) (w : World) (hq : QAt w vq ds) (hlen : ds.length ≤ 1000) (hp : ∀ q ∈ ds, q.path.length ≤ 1000000000) :
  Calls prog 55 #[.agg #[vl, vq], .string S] w (W7 S.data.toList ds w) := by
 obtain ⟨j0, hj, hy0, hy1, hy2⟩ := info_parts Tryz.infoStr
 obtain ⟨A, N, c, rfl, hN, hc1, hc2, hcell⟩ := hq.open
 have HC := Lib.hid hcell
 have HN := Lib.hid hN
 have HP := Lib.hid hp
 have hN1 : N ≤ 1000 := by omega
 clear hcell hN hq hp
 go_enter Tryz.func55, Tryz.ntmps55
 go_wp2
 refine WA (fun W0 hW0 => ?_)
 have X0 := Lib.hid (show Ext w W0 by rw [hW0]; exact aO _ _)
 have b1 : W0.cell? ⟨w.heap.size, 1, none⟩ = some (.slice A N c) := by rw [hW0]; simp [go_sem]
 clear hW0
 go_loopw [5, 6] (fun v i wr => ∃ (k : Nat), k ≤ N ∧ i = .int .i64 k ∧ wr.ownsRow W0.heap.size 9 1 v (cz S.data.toList (ds.take k)).length ((cz S.data.toList (ds.take k)).map sv) ∧ Ext W0 wr) (fun _ i _ => N - (intOf i).toNat)
 case atStart => exact ⟨0, by omega, rfl, World.ownsRow_nil W0 _ _ 1, Ext.refl _⟩
 case round =>
  obtain ⟨k, hkN, rfl, ho, hx⟩ := hrel
  have HX := Lib.hid hx
  have b1r := hx.cell' b1
  have hkd := VL S.data.toList (ds.take k)
  rw [List.length_take] at hkd
  obtain ⟨n, hn⟩ : ∃ n, n = (cz S.data.toList (ds.take k)).length := ⟨_, rfl⟩
  rw [← hn] at ho hkd
  obtain ⟨Av, cv, rfl, hv1, hv2⟩ := cD ho
  have HNN := Lib.hid hn
  have HO := Lib.hid ho
  have hn1 : n ≤ 1000 := by omega
  clear hx ho hn hkd
  have i0 : (0 : Int) ≤ (k : Int) := by omega
  by_cases hlt : k < N
  ·have i1 : (k : Int) < (N : Int) := by omega
   have hkl : k < ds.length := by have := HN.out; omega
   have HS := Lib.hid (S1 (p := S.data.toList) hkl)
   by_cases hS : S = ⟨#[]⟩
   ·have hE : S.toList = [] := by rw [hS, ByteArray.toList_eq]
    have HK := Lib.hid (show cz S.data.toList (ds.take (k + 1)) = cz S.data.toList (ds.take k) by rw [hS]; show cz [] _ = cz [] _; rw [Ex, Ex])
    clear hS
    go_wp2
    go_roundw
    case rel => exact ⟨k + 1, by omega, by simp, by rw [HK.out, ← HNN.out]; exact HO.out, HX.out⟩
    case measure => simp [intOf]; omega
   ·have hne : S.data.toList ≠ [] := fun h => hS (ZD.2 h)
    have hE : ¬ S.toList = [] := by rw [ByteArray.toList_eq]; exact hne
    have hE2 : S.toList.isEmpty = false := by simp [hE]
    have hE3 : (!S.toList.isEmpty) = true := by simp [hE]
    obtain ⟨g, rfl, hg, hqc⟩ := HC.out (by omega)
    obtain ⟨P, Ac, cc, h1, h2, h3, h4, h5⟩ := (hqc k hkl).ex
    have c0 := (X0.out.trans HX.out).cell h1
    have HPP := Lib.hid h4
    have hPs : P.size ≤ 1000000000 := by rw [vE, h4]; exact HP.out _ (List.getElem_mem hkl)
    clear hqc h1 h2 h3 h4 h5 hS
    go_wp2_with fail
    (with_reducible refine (Ol P _ hPs).mono ?_)
    rintro e w2 ⟨T, rfl, hT, hTs, rfl⟩
    have HT := Lib.hid hT
    clear hT
    by_cases hTS : T = S
    ·have HK := Lib.hid (show cz S.data.toList (ds.take (k + 1)) = cz S.data.toList (ds.take k) ++ [P.data.toList] by
      rw [HS.out, X4 hne (by rw [← HPP.out, ← HT.out, hTS]), HPP.out]; rfl)
     have q1 : (T.toList == S.toList) = true := by rw [hTS]; simp
     clear hTS hne
     go_wp2_with (at_builtin; refine DI _ rfl (.tmp 27) (.tmp 34) 33 33 rfl W0.heap.size 9 j0 (.string ⟨#[]⟩) 16 Tryz.underlying33 hj hy0 hy1 hy2 rfl _ n ((cz S.data.toList (ds.take k)).map sv) rfl (HO.out.alloc _) _ 1 _ rfl ((Rd.one _ _ _ _ _ rfl rfl).src ?c1 Tryz.underlying33) ?c3 ?c4 ?c5 ?_)
     case c1 => first | rfl | (intro u hu; simp at hu; subst hu; rfl)
     case c3 => simp [maxLen]; omega
     case c4 => omega
     case c5 => have h2 := HX.out.size; simp; omega
     intro v' w3 ho3 hg3 _ _
     obtain ⟨y1, y2⟩ := Kj HX.out (aO wr _) HNN.out HO.out (Nat.le_refl _) ho3 hg3
     have Y1 := Lib.hid y1
     have Y2 := Lib.hid y2
     obtain ⟨A3, c3, rfl, _, _⟩ := cD ho3
     clear y1 y2 ho3 hg3
     go_wp2
     go_roundw
     case rel => exact ⟨k + 1, by omega, by simp, by rw [HK.out]; exact Y1.out, Y2.out⟩
     case measure => simp [intOf]; omega
    ·have HK := Lib.hid (show cz S.data.toList (ds.take (k + 1)) = cz S.data.toList (ds.take k) by
      rw [HS.out, Zr (by intro e; apply hTS; rw [← HPP.out, ← HT.out] at e; cases T; cases S; simp only at e; rw [Array.toList_inj] at e; rw [e])]; simp)
     have q1 : (T.toList == S.toList) = false := YS hTS
     clear hTS hne
     go_wp2
     go_roundw
     case rel => exact ⟨k + 1, by omega, by simp, by rw [HK.out, ← HNN.out]; exact HO.out, HX.out⟩
     case measure => simp [intOf]; omega
  ·have i1 : ¬ (k : Int) < (N : Int) := by omega
   have HK := Lib.hid (show cz S.data.toList (ds.take k) = cz S.data.toList ds by rw [List.take_of_length_le (by have := HN.out; omega)])
   go_wp2
   go_ret
   exact ⟨Av, n, cv, rfl, by rw [← HK.out]; exact HNN.out, by rw [← HK.out]; exact Ee HO.out X0.out.size, X0.out.trans HX.out⟩
theorem yR : ∀ (cs : List (Int × Int)) (k : Nat) (a b : Int), k < cs.length → cf (cs.set k (a, b)) = ((cf cs).set (k * 2) (.int .i64 a)).set (k * 2 + 1) (.int .i64 b)
 | [], k, _, _, h => by simp at h
 | p :: cs, 0, a, b, _ => rfl
 | p :: cs, k + 1, a, b, h => by
  have ih := yR cs k a b (by simpa using h)
  rw [List.set_cons_succ]
  show [Value.int .i64 p.1, .int .i64 p.2] ++ cf (cs.set k (a, b)) = ((([Value.int .i64 p.1, .int .i64 p.2] ++ cf cs).set ((k + 1) * 2) (.int .i64 a)).set ((k + 1) * 2 + 1) (.int .i64 b))
  rw [ih, show (k + 1) * 2 = k * 2 + 1 + 1 by omega]
  rfl
theorem Kc (cs : List (Int × Int)) (k : Nat) (h : k < cs.length) : (cf cs)[k * 2]? = some (.int .i64 cs[k].1) ∧ (cf cs)[k * 2 + 1]? = some (.int .i64 cs[k].2) := by
 induction cs generalizing k with
 | nil => simp at h
 | cons p cs ih =>
  cases k with
  | zero => exact ⟨rfl, rfl⟩
  | succ k =>
   obtain ⟨h1, h2⟩ := ih k (by simpa using h)
   have e : cf (p :: cs) = .int .i64 p.1 :: .int .i64 p.2 :: cf cs := rfl
   rw [e, show (k + 1) * 2 = k * 2 + 1 + 1 by omega]
   exact ⟨h1, h2⟩
theorem uf (qs : List QC) (k : Nat) (q : QC) (h : qs[k]? = some q) : (fT qs)[k * 3]? = some (.string q.p) ∧ (fT qs)[k * 3 + 1]? = some (.slice q.A q.n q.c) ∧ (fT qs)[k * 3 + 2]? = some (.int .i64 q.u) := by
 induction qs generalizing k with
 | nil => simp at h
 | cons p qs ih =>
  have e : fT (p :: qs) = .string p.p :: .slice p.A p.n p.c :: .int .i64 p.u :: fT qs := rfl
  cases k with
  | zero =>
   simp at h
   subst h
   exact ⟨rfl, rfl, rfl⟩
  | succ k =>
   obtain ⟨h1, h2, h3⟩ := ih k (by simpa using h)
   rw [e, show (k + 1) * 3 = k * 3 + 1 + 1 + 1 by omega]
   exact ⟨h1, h2, h3⟩
def cb (q : QC) : Option Nat := (Value.slice q.A q.n q.c).ownBlock
def wR (w : World) (B : Nat) (q : QC) (d : QD) : Prop := q.p.data.toList = d.path ∧ q.u = d.user ∧ q.n = d.caps.length ∧ w.ownsRow B 98 2 (.slice q.A q.n q.c) q.n (cf d.caps)
theorem wR.ext {w w' : World} {B : Nat} {q : QC} {d : QD} (h : wR w B q d) (x : Ext w w') : wR w' B q d := ⟨h.1, h.2.1, h.2.2.1, kZ h.2.2.2 x⟩
theorem wR.kept {w w' : World} {B : Nat} {row : Option Nat} {q : QC} {d : QD} (h : wR w B q d) (x : w.grownBy w' row) (hr : cb q = none ∨ cb q ≠ row) : wR w' B q d := ⟨h.1, h.2.1, h.2.2.1, h.2.2.2.kept x hr⟩
structure iM (w : World) (B : Nat) (v : Value) (ds : List QD) (qs : List QC) : Prop where
 row : w.ownsRow B 63 3 v ds.length (fT qs)
 len : qs.length = ds.length
 each : ∀ (k : Nat) (q : QC) (h : k < ds.length), qs[k]? = some q → wR w B q ds[k]
 apart : ∀ (i j : Nat) (qi qj : QC), i ≠ j → qs[i]? = some qi → qs[j]? = some qj → ∀ g, cb qi = some g → cb qj ≠ some g
theorem iM.nil (w : World) (B : Nat) : iM w B (.slice none 0 0) [] [] := ⟨World.ownsRow_nil w _ _ 3, rfl, fun k _ h => absurd h (by simp), fun i j qi qj _ h => by simp at h⟩
theorem iM.ext {w w' : World} {B : Nat} {v : Value} {ds : List QD} {qs : List QC} (h : iM w B v ds qs) (x : Ext w w') : iM w' B v ds qs :=
 ⟨kZ h.row x, h.len, fun k q hk hq => (h.each k q hk hq).ext x, h.apart⟩
theorem o0 {w : World} {B e e' k n R : Nat} {v : Value} {xs : List Value} {cur : Array Value} {f : Nat × Nat} (h : w.ownsRow B e k v n xs) (hR : w.heap[R]? = some (.cells cur e' f)) (he : e ≠ e') : v.ownBlock ≠ some R := by
 rcases h.2 with ⟨rfl, _⟩ | ⟨g, cap, cur', rfl, _, hg, _⟩
 ·intro e1; cases e1
 ·intro e1
  simp [Value.ownBlock] at e1
  subst e1
  rw [hg] at hR
  injection hR with hR
  injection hR with _ h2
  exact he h2
theorem iM.kept {w w' : World} {B R : Nat} {v : Value} {ds : List QD} {qs : List QC} {cur : Array Value} {e' : TypeId} {f : Nat × Nat} (h : iM w B v ds qs) (x : w.grownBy w' (some R)) (hR : w.heap[R]? = some (.cells cur e' f)) (h1 : 63 ≠ e') (h2 : 98 ≠ e') : iM w' B v ds qs :=
 ⟨h.row.kept x (.inr (o0 h.row hR h1)), h.len, fun k q hk hq => (h.each k q hk hq).kept x (.inr (o0 (h.each k q hk hq).2.2.2 hR h2)), h.apart⟩
theorem iM.rd {w : World} {B : Nat} {v : Value} {ds : List QD} {qs : List QC} (h : iM w B v ds qs) : QAt w v ds := by
 have hl := h.len
 rcases h.row.2 with ⟨rfl, h0⟩ | ⟨g, cap, cur, rfl, hb, hg, hc, hm, _⟩
 ·exact ⟨none, 0, by rw [h0], by omega, by simp [maxLen], fun hn => by omega⟩
 ·refine ⟨_, cap, rfl, hc, hm, fun hn => ⟨g, rfl, (Array.getElem?_eq_some_iff.1 hg).1, fun k hk => ?_⟩⟩
  obtain ⟨q, hq⟩ : ∃ q, qs[k]? = some q := ⟨qs[k]'(by omega), by rw [zq]⟩
  obtain ⟨h1, h2, h3, h4⟩ := h.each k q hk hq
  obtain ⟨c1, c2, c3⟩ := uf qs k q hq
  have hat := fun j (hj : j < ds.length * 3) => h.row.cellAt j hj
  refine ⟨q.p, q.A, q.c, ?_, ?_, ?_, h1, ?_⟩
  ·rw [hat _ (by omega)]; exact c1
  ·rw [hat _ (by omega), ← h3]; exact c2
  ·rw [hat _ (by omega), ← h2]; exact c3
  ·rw [← h3]; exact RdK.of_own h4
theorem iM.snoc {w V w4 : World} {B : Nat} {v v' : Value} {ds : List QD} {qs : List QC} {q : QC} {d : QD} (h : iM w B v ds qs) (x : Ext w V) (hq : wR V B q d) (hnew : ∀ g, cb q = some g → ∀ (i : Nat) (qi : QC), qs[i]? = some qi → cb qi ≠ some g)
  (hown : w4.ownsRow B 63 3 v' (ds.length + 1) (fT qs ++ Ls q)) (hg : V.grownBy w4 v.ownBlock) : iM w4 B v' (ds ++ [d]) (qs ++ [q]) := by
 have hx := h.ext x
 have hne : ∀ q' d', wR V B q' d' → cb q' = none ∨ cb q' ≠ v.ownBlock := fun q' d' h' => Zg h'.2.2.2 hx.row (by decide)
 refine ⟨by rw [List.length_append, List.length_singleton, Lu]; exact hown, by simp [h.len], fun k q' hk hq' => ?_, fun i j qi qj hij hi hj g hgi => ?_⟩
 ·rw [List.length_append, List.length_singleton] at hk
  by_cases hlt : k < ds.length
  ·rw [List.getElem?_append_left (by rw [h.len]; exact hlt)] at hq'
   rw [List.getElem_append_left hlt]
   exact (hx.each k q' hlt hq').kept hg (hne _ _ (hx.each k q' hlt hq'))
  ·obtain rfl : k = ds.length := by omega
   rw [List.getElem?_append_right (by rw [h.len]; exact Nat.le_refl _), h.len] at hq'
   simp at hq'
   subst hq'
   rw [List.getElem_append_right (Nat.le_refl _)]
   simp only [Nat.sub_self, List.getElem_cons_zero]
   exact hq.kept hg (hne _ _ hq)
 ·by_cases h1 : i < qs.length
  ·rw [List.getElem?_append_left h1] at hi
   by_cases h2 : j < qs.length
   ·rw [List.getElem?_append_left h2] at hj
    exact h.apart i j qi qj hij hi hj g hgi
   ·rw [List.getElem?_append_right (by omega)] at hj
    have h3 : j - qs.length = 0 := by
     have := (zg.1 hj).1
     simp at this; omega
    rw [h3] at hj
    simp at hj
    subst hj
    intro e
    exact hnew g e i qi hi hgi
  ·rw [List.getElem?_append_right (by omega)] at hi
   have h3 : i - qs.length = 0 := by
    have := (zg.1 hi).1
    simp at this; omega
   rw [h3] at hi
   simp at hi
   subst hi
   by_cases h2 : j < qs.length
   ·rw [List.getElem?_append_left h2] at hj
    exact hnew g hgi j qj hj
   ·exfalso
    have := (zg.1 hj).1
    simp at this
    omega
def Ju (ds : List QD) (m k : Nat) (a b : Int) : List QD := ds.modify m fun q => ⟨q.path, q.caps.set k (a, b), q.user⟩
theorem qN (ds : List QD) (m k : Nat) (a b : Int) : (Ju ds m k a b).length = ds.length := by simp [Ju]
theorem iM.put {w : World} {B : Nat} {v : Value} {ds : List QD} {qs : List QC} (h : iM w B v ds qs) {m k : Nat} (hm : m < ds.length) (hk : k < (ds[m]).caps.length) :
  ∃ gq cq g c, v = .slice (some ⟨gq, 0, none⟩) ds.length cq ∧ w.cell? ⟨gq, m * 3 + 1, none⟩ = some (.slice (some ⟨g, 0, none⟩) (ds[m]).caps.length c) ∧ B ≤ g ∧ g < w.heap.size ∧ (∃ cur, w.heap[g]? = some (.cells cur 98 (0, 0))) ∧
   (∀ j, w.frozen? ⟨g, j, none⟩ = false) ∧ w.cell? ⟨g, k * 2, none⟩ = some (.int .i64 ((ds[m]).caps[k]).1) ∧ w.cell? ⟨g, k * 2 + 1, none⟩ = some (.int .i64 ((ds[m]).caps[k]).2) ∧
   ∀ a b, iM ((w.setCell ⟨g, k * 2, none⟩ (.int .i64 a)).setCell ⟨g, k * 2 + 1, none⟩ (.int .i64 b)) B v (Ju ds m k a b) qs ∧ w.grownBy ((w.setCell ⟨g, k * 2, none⟩ (.int .i64 a)).setCell ⟨g, k * 2 + 1, none⟩ (.int .i64 b)) (some g) := by
 have hl := h.len
 obtain ⟨q, hq⟩ : ∃ q, qs[m]? = some q := ⟨qs[m]'(by omega), by rw [zq]⟩
 obtain ⟨h1, h2, h3, h4⟩ := h.each m q hm hq
 rcases h.row.2 with ⟨_, h0⟩ | ⟨gq, cq, cur, rfl, hb, hg, hc, hmx, _⟩
 ·omega
 rcases h4.2 with ⟨_, h0⟩ | ⟨g, c, cur', ev, hb', hg', hc', hm', _⟩
 ·omega
 injection ev with eA eN eC
 have h4' : w.ownsRow B 98 2 (.slice (some ⟨g, 0, none⟩) q.n q.c) q.n (cf ds[m].caps) := by rw [← eA]; exact h4
 have hcq : cb q = some g := by unfold cb; rw [eA]; rfl
 have hcell := h.row.cellAt (m * 3 + 1) (by omega)
 rw [(uf qs m q hq).2.1, h3, eA] at hcell
 obtain ⟨k1, k2⟩ := Kc ds[m].caps k hk
 have c1 := h4'.cellAt (k * 2) (by omega)
 have c2 := h4'.cellAt (k * 2 + 1) (by omega)
 rw [k1] at c1
 rw [k2] at c2
 refine ⟨gq, cq, g, q.c, rfl, hcell, hb', (Array.getElem?_eq_some_iff.1 hg').1, ⟨cur', hg'⟩, h4'.frozenAt, c1, c2, fun a b => ?_⟩
 have hgr : w.grownBy ((w.setCell ⟨g, k * 2, none⟩ (.int .i64 a)).setCell ⟨g, k * 2 + 1, none⟩ (.int .i64 b)) (some g) :=
  ⟨rfl, rfl, rfl, by simp [World.setCell], fun i _ hi => (Below.heap_setCell _ _ _ _ (fun e => hi (by rw [e]))).trans (Below.heap_setCell _ _ _ _ (fun e => hi (by rw [e])))⟩
 have st := (h4'.stored (k * 2) (.int .i64 a)).1.stored (k * 2 + 1) (.int .i64 b)
 rw [← yR _ _ _ _ hk] at st
 refine ⟨⟨?_, by rw [qN]; exact hl, fun i q' hi hq' => ?_, h.apart⟩, hgr⟩
 ·rw [qN]
  exact h.row.kept hgr (.inr (o0 h.row hg' (by decide)))
 ·rw [qN] at hi
  simp only [Ju, List.getElem_modify]
  by_cases him : m = i
  ·subst him
   rw [hq] at hq'
   injection hq' with hq'
   subst hq'
   rw [if_pos rfl]
   refine ⟨h1, h2, by simpa using h3, ?_⟩
   rw [eA]
   exact st.1
  ·rw [if_neg him]
   exact (h.each i q' hi hq').kept hgr (.inr fun e => h.apart m i q q' him hq hq' g hcq e)
def U9 : Tx := [114, 111, 111, 116]
def mn : Nat → List Tx
 | 0 => [[114, 111, 111, 116]]
 | 1 => [[114, 111, 111, 116], [114, 111, 111, 116, 46, 97], [114, 111, 111, 116, 46, 98]]
 | 2 => [[114, 111, 111, 116], [114, 111, 111, 116, 46, 97], [114, 111, 111, 116, 46, 97, 46, 120], [114, 111, 111, 116, 46, 97, 46, 121], [114, 111, 111, 116, 46, 98]]
 | 3 => [[114, 111, 111, 116], [114, 111, 111, 116, 46, 97], [114, 111, 111, 116, 46, 98], [114, 111, 111, 116, 46, 98, 46, 120], [114, 111, 111, 116, 46, 98, 46, 120, 46, 112], [114, 111, 111, 116, 46, 98, 46, 120, 46, 113], [114, 111, 111, 116, 46, 99]]
 | _ => [[114, 111, 111, 116], [114, 111, 111, 116, 46, 97]]
def gpu : Tx := [103, 112, 117]
def CF (nl : Nat) : List Tx := ([[], gpu] : List Tx).take nl
theorem qy {nl : Nat} (h : nl ≤ 2) : (CF nl).length = nl := by simp [CF]; omega
theorem K7 (y : Nat) : (mn y).length ≤ 7 := by
 unfold mn
 split <;> decide
theorem K6 (y : Nat) : ∀ p ∈ mn y, p.length ≤ 11 := by
 unfold mn
 split <;> decide
theorem N1 (y : Nat) : (mn y).Nodup := by
 unfold mn
 split <;> decide
def B5 (p : Tx) (ps : List Tx) : List Tx := ps.filter fun x => decide (p ≠ []) && decide (above x = p)
theorem Ey (p : Tx) (ds : List QD) : cz p ds = B5 p (ds.map (·.path)) := by
 unfold cz B5
 rw [List.filter_map]
 rfl
def rl : Int × Int := (10000, 10000)
structure G1 (nl : Nat) (ps : List Tx) (k : Nat) (ds : List QD) : Prop where
 paths : ds.map (·.path) = ps.take k
 each : ∀ q ∈ ds, q.caps = List.replicate nl rl ∧ 1 ≤ q.user ∧ q.user ≤ 1000000
theorem G1.nil (nl : Nat) (ps : List Tx) : G1 nl ps 0 [] := ⟨rfl, by simp⟩
theorem G1.snoc {nl k : Nat} {ps : List Tx} {ds : List QD} (h : G1 nl ps k ds) (hk : k < ps.length) {u : Int} (h1 : 1 ≤ u) (h2 : u ≤ 1000000) : G1 nl ps (k + 1) (ds ++ [⟨ps[k], List.replicate nl rl, u⟩]) := by
 refine ⟨?_, fun q hq => ?_⟩
 ·rw [List.map_append, h.paths, List.take_succ_eq_append_getElem hk]; rfl
 ·rcases List.mem_append.1 hq with hq | hq
  ·exact h.each q hq
  ·simp at hq; subst hq; exact ⟨rfl, h1, h2⟩
def aal (c : Int × Int) : Prop := 0 ≤ c.1 ∧ c.1 ≤ c.2 ∧ c.2 ≤ 10000
structure Gd (nl : Nat) (ps : List Tx) (ds : List QD) : Prop where
 paths : ds.map (·.path) = ps
 each : ∀ q ∈ ds, q.caps.length = nl ∧ 1 ≤ q.user ∧ q.user ≤ 1000000 ∧ ∀ c ∈ q.caps, aal c
 root : ∀ q ∈ ds, q.path = U9 → q.caps = List.replicate nl rl
theorem Gd.len {nl : Nat} {ps : List Tx} {ds : List QD} (h : Gd nl ps ds) : ds.length = ps.length := by
 have := congrArg List.length h.paths
 simpa using this
def HI (k : Nat) (q : QD) : Int := (q.caps.getD k (0, 0)).1
def OC (k : Nat) (l : List QD) : Int := (l.map (HI k)).sum
def mE (p : Tx) (ds : List QD) : List QD := ds.filter (ld p)
theorem uy (p : Tx) (ds : List QD) : (mE p ds).length = (cz p ds).length := by simp [mE, cz]
def YC (k : Nat) (p : Tx) (ds : List QD) : Prop := mE p ds ≠ [] → OC k (mE p ds) = 10000
structure GI (nl : Nat) (ps : List Tx) (i : Nat) (ds : List QD) : Prop where
 gd : Gd nl ps ds
 done : ∀ i' (h : i' < ps.length), i' < i → ∀ k, k < nl → YC k ps[i'] ds
structure GK (nl : Nat) (ps : List Tx) (i k : Nat) (ds : List QD) : Prop where
 gi : GI nl ps i ds
 part : ∀ h : i < ps.length, ∀ k', k' < k → YC k' ps[i] ds
structure GJ (nl : Nat) (ps : List Tx) (i k j : Nat) (left : Int) (ds : List QD) : Prop where
 gk : GK nl ps i k ds
 lo : 0 ≤ left
 hi : left ≤ 10000
 sum : ∀ h : i < ps.length, OC k ((mE ps[i] ds).take j) = 10000 - left
 last : ∀ h : i < ps.length, 0 < j → j = (mE ps[i] ds).length → left = 0
def qn (p : Tx) (k : Nat) (a b : Int) (q : QD) : QD := if q.path = p then ⟨q.path, q.caps.set k (a, b), q.user⟩ else q
def iB (p : Tx) (k : Nat) (a b : Int) (ds : List QD) : List QD := ds.map (qn p k a b)
def eO (p : Tx) (k : Nat) (a b : Int) (ds : List QD) (m : Nat) : List QD := (ds.take m).map (qn p k a b) ++ ds.drop m
theorem D0 (p : Tx) (k : Nat) (a b : Int) (ds : List QD) : eO p k a b ds 0 = ds := by simp [eO]
theorem Hs (p : Tx) (k : Nat) (a b : Int) (ds : List QD) : eO p k a b ds ds.length = iB p k a b ds := by simp [eO, iB]
theorem gL (p : Tx) (k : Nat) (a b : Int) (ds : List QD) (m : Nat) : (eO p k a b ds m).length = ds.length := by simp [eO]; omega
theorem AD (p : Tx) (k : Nat) (a b : Int) (ds : List QD) (m : Nat) (hm : m < ds.length) (h : m < (eO p k a b ds m).length) : (eO p k a b ds m)[m] = ds[m] := by
 have h2 : (eO p k a b ds m)[m]? = ds[m]? := by
  unfold eO
  rw [List.getElem?_append_right (by simp; omega), List.getElem?_drop]
  congr 1
  simp
  omega
 rw [zq h, zq hm] at h2
 injection h2
theorem AI (p : Tx) (k : Nat) (a b : Int) (q : QD) : (qn p k a b q).path = q.path := by unfold qn; split <;> rfl
theorem SI (p : Tx) (k : Nat) (a b : Int) (q : QD) : (qn p k a b q).caps.length = q.caps.length := by unfold qn; split <;> simp
theorem Hv (p : Tx) (k : Nat) (a b : Int) (q : QD) : (qn p k a b q).user = q.user := by unfold qn; split <;> rfl
theorem Jt {p : Tx} {k : Nat} {a b : Int} {q : QD} (h : q.path ≠ p) : qn p k a b q = q := by unfold qn; rw [if_neg h]
theorem Li {p : Tx} {k : Nat} {a b : Int} {ds : List QD} {m : Nat} (hm : m < ds.length) (h : ds[m].path ≠ p) : eO p k a b ds (m + 1) = eO p k a b ds m := by
 unfold eO
 rw [List.take_succ_eq_append_getElem hm, List.map_append, List.drop_eq_getElem_cons hm]
 simp [Jt h]
theorem En {α : Type} : ∀ (l : List α) (x : α) (r : List α) (f : α → α) (n : Nat), l.length = n → (l ++ x :: r).modify n f = l ++ f x :: r
 | [], x, r, f, _, h => by subst h; rfl
 | y :: l, x, r, f, n, h => by
  subst h
  simp only [List.cons_append, List.length_cons, List.modify_succ_cons]
  rw [En l x r f _ rfl]
theorem Hr {p : Tx} {k : Nat} {a b : Int} {ds : List QD} {m : Nat} (hm : m < ds.length) (h : ds[m].path = p) : eO p k a b ds (m + 1) = (eO p k a b ds m).modify m (fun q => ⟨q.path, q.caps.set k (a, b), q.user⟩) := by
 have hl : ((ds.take m).map (qn p k a b)).length = m := by simp; omega
 unfold eO
 rw [List.take_succ_eq_append_getElem hm, List.map_append, List.append_assoc]
 conv => rhs; rw [List.drop_eq_getElem_cons hm]
 rw [En _ _ _ _ _ hl]
 simp [qn, h]
theorem G1.start {nl : Nat} {ps : List Tx} {ds : List QD} (h : G1 nl ps ps.length ds) : GI nl ps 0 ds := by
 refine ⟨⟨by rw [h.paths, List.take_length], fun q hq => ?_, fun q hq _ => (h.each q hq).1⟩, fun _ _ h => by omega⟩
 obtain ⟨h1, h2, h3⟩ := h.each q hq
 refine ⟨by rw [h1]; simp, h2, h3, fun c hc => ?_⟩
 rw [h1] at hc
 have := List.eq_of_mem_replicate hc
 subst this
 exact ⟨by decide, by decide, by decide⟩
theorem GI.toK {nl i : Nat} {ps : List Tx} {ds : List QD} (h : GI nl ps i ds) : GK nl ps i 0 ds := ⟨h, fun _ _ h => by omega⟩
theorem GK.toJ {nl i k : Nat} {ps : List Tx} {ds : List QD} (h : GK nl ps i k ds) : GJ nl ps i k 0 10000 ds := ⟨h, by omega, by omega, fun _ => by simp [OC], fun _ h => by omega⟩
theorem GJ.end {nl i k j : Nat} {left : Int} {ps : List Tx} {ds : List QD} (h : GJ nl ps i k j left ds) (hj : ∀ h : i < ps.length, j = (cz ps[i] ds).length) : GK nl ps i (k + 1) ds := by
 refine ⟨h.gk.gi, fun hi k' hk' hne => ?_⟩
 rcases Nat.lt_or_ge k' k with h1 | h1
 ·exact h.gk.part hi k' h1 hne
 ·obtain rfl : k' = k := by omega
  have h2 := hj hi
  rw [← uy] at h2
  have h3 := h.sum hi
  have h4 := h.last hi (by
   have : (mE ps[i] ds).length ≠ 0 := fun e => hne (List.eq_nil_of_length_eq_zero e)
   omega) h2
  rw [h2, List.take_length] at h3
  omega
theorem GK.end {nl i : Nat} {ps : List Tx} {ds : List QD} (h : GK nl ps i nl ds) : GI nl ps (i + 1) ds := by
 refine ⟨h.gi.gd, fun i' hi' hlt k hk => ?_⟩
 rcases Nat.lt_or_ge i' i with h1 | h1
 ·exact h.gi.done i' hi' h1 k hk
 ·obtain rfl : i' = i := by omega
  exact h.part hi' k hk
theorem LI {α : Type} {l : List α} (h : l.Nodup) {i j : Nat} (hi : i < l.length) (hj : j < l.length) (e : l[i] = l[j]) : i = j := by
 rcases Nat.lt_trichotomy i j with h1 | h1 | h1
 ·exact absurd e (List.pairwise_iff_getElem.1 h i j hi hj h1)
 ·exact h1
 ·exact absurd e.symm (List.pairwise_iff_getElem.1 h j i hj hi h1)
theorem GO {p : Tx} {k k' : Nat} {a b : Int} {q : QD} (h : k' ≠ k) : HI k' (qn p k a b q) = HI k' q := by
 unfold qn HI
 split
 ·simp only [List.getD_eq_getElem?_getD]
  rw [List.getElem?_set_ne (by omega)]
 ·rfl
theorem D8 {p : Tx} {k : Nat} {a b : Int} {q : QD} (h : q.path = p) (hk : k < q.caps.length) : HI k (qn p k a b q) = a := by
 unfold qn HI
 rw [if_pos h]
 simp only [List.getD_eq_getElem?_getD]
 rw [List.getElem?_set_self (by simpa using hk)]
 rfl
theorem OK (pp p : Tx) (k : Nat) (a b : Int) (q : QD) : ld pp (qn p k a b q) = ld pp q := by unfold ld; rw [AI]
theorem yG (pp p : Tx) (k : Nat) (a b : Int) (ds : List QD) : mE pp (iB p k a b ds) = (mE pp ds).map (qn p k a b) := by
 unfold mE iB
 rw [List.filter_map]
 congr 1
 apply List.filter_congr
 intro q _
 exact OK pp p k a b q
theorem XX {p : Tx} {k k' : Nat} {a b : Int} (l : List QD) (h : k' ≠ k) : OC k' (l.map (qn p k a b)) = OC k' l := by
 unfold OC
 rw [List.map_map]
 congr 1
 apply List.map_congr_left
 intro q _
 exact GO h
theorem BZ {p : Tx} {k : Nat} {a b : Int} (l : List QD) (h : ∀ q ∈ l, q.path ≠ p) : l.map (qn p k a b) = l := by
 conv => rhs; rw [← List.map_id l]
 apply List.map_congr_left
 intro q hq
 exact Jt (h q hq)
theorem xn {pp : Tx} {ds : List QD} {q : QD} (h : q ∈ mE pp ds) : above q.path = pp ∧ pp ≠ [] := by
 unfold mE at h
 have := (List.mem_filter.1 h).2
 simp [ld] at this
 exact ⟨this.2, this.1⟩
theorem Gd.set {nl k : Nat} {p : Tx} {n mo : Int} {ps : List Tx} {ds : List QD} (h : Gd nl ps ds) (hp : p ≠ U9) (h0 : 0 ≤ n) (h2 : n ≤ mo) (h3 : mo ≤ 10000) : Gd nl ps (iB p k n mo ds) := by
 refine ⟨?_, fun q hq => ?_, fun q hq hr => ?_⟩
 ·unfold iB
  rw [List.map_map, ← h.paths]
  apply List.map_congr_left
  intro q _
  exact AI _ _ _ _ _
 ·unfold iB at hq
  obtain ⟨q', hq', rfl⟩ := List.mem_map.1 hq
  obtain ⟨h4, h5, h6, h7⟩ := h.each q' hq'
  refine ⟨by rw [SI]; exact h4, by rw [Hv]; exact h5, by rw [Hv]; exact h6, fun c hc => ?_⟩
  unfold qn at hc
  split at hc
  ·rcases List.mem_or_eq_of_mem_set hc with hc | hc
   ·exact h7 c hc
   ·subst hc; exact ⟨h0, h2, h3⟩
  ·exact h7 c hc
 ·unfold iB at hq
  obtain ⟨q', hq', rfl⟩ := List.mem_map.1 hq
  rw [AI] at hr
  rw [Jt (by rw [hr]; exact fun e => hp e.symm)]
  exact h.root q' hq' hr
theorem GJ.step {nl i k j : Nat} {left n mo : Int} {ps : List Tx} {ds : List QD} (h : GJ nl ps i k j left ds) (hps : ps.Nodup) (hi : i < ps.length) (hj : j < (cz ps[i] ds).length) (hk : k < nl) (h0 : 0 ≤ n) (h1 : n ≤ left) (hlast : j + 1 = (cz ps[i] ds).length → n = left) (h2 : n ≤ mo) (h3 : mo ≤ 10000) :
  GJ nl ps i k (j + 1) (left - n) (iB ((cz ps[i] ds)[j]) k n mo ds) := by
 have hgd := h.gk.gi.gd
 have hjl : j < (mE ps[i] ds).length := by rw [uy]; exact hj
 obtain ⟨p, hp⟩ : ∃ p, p = (cz ps[i] ds)[j] := ⟨_, rfl⟩
 have hpp : (mE ps[i] ds)[j].path = p := by rw [hp]; simp [cz, mE]
 have hmem : (mE ps[i] ds)[j] ∈ mE ps[i] ds := List.getElem_mem hjl
 have hab : above p = ps[i] := by rw [← hpp]; exact (xn hmem).1
 have hne0 : ps[i] ≠ [] := (xn hmem).2
 have hroot : p ≠ U9 := by
  intro e
  rw [e] at hab
  exact hne0 (hab.symm.trans (by decide))
 rw [← hp]
 have hnd : ((mE ps[i] ds).map (·.path)).Nodup := by
  unfold mE
  have h5 : (ds.map (·.path)).Nodup := by rw [hgd.paths]; exact hps
  exact List.Nodup.sublist (List.Sublist.map _ List.filter_sublist) h5
 have other : ∀ i' (hi' : i' < ps.length), i' ≠ i → mE ps[i'] (iB p k n mo ds) = mE ps[i'] ds := by
  intro i' hi' hne
  rw [yG, BZ]
  intro q hq e
  have := (xn hq).1
  rw [e, hab] at this
  exact hne (LI hps hi' hi this.symm)
 have hcap : k < ((mE ps[i] ds)[j]).caps.length := by
  have : (mE ps[i] ds)[j] ∈ ds := (List.mem_filter.1 hmem).1
  rw [(hgd.each _ this).1]; exact hk
 have before : ((mE ps[i] ds).take j).map (qn p k n mo) = (mE ps[i] ds).take j := by
  apply BZ
  intro q hq e
  obtain ⟨j', hj', e2⟩ := List.mem_iff_getElem.1 hq
  rw [List.length_take] at hj'
  rw [List.getElem_take] at e2
  have e3 : ((mE ps[i] ds).map (·.path))[j']'(by simp; omega) = ((mE ps[i] ds).map (·.path))[j]'(by simpa using hjl) := by
   simp only [List.getElem_map]
   rw [e2, e, hpp]
  have := LI hnd _ _ e3
  omega
 refine ⟨⟨⟨hgd.set hroot h0 h2 h3, fun i' hi' hlt k' hk' => ?_⟩, fun _ k' hk' => ?_⟩, by omega, by have := h.hi; omega, fun _ => ?_, fun _ _ hjj => ?_⟩
 ·unfold YC
  rw [other i' hi' (by omega)]
  exact h.gk.gi.done i' hi' hlt k' hk'
 ·unfold YC
  rw [yG, XX _ (by omega)]
  intro hne
  exact h.gk.part hi k' hk' (fun e => hne (by rw [e]; rfl))
 ·rw [yG, ← List.map_take, List.take_succ_eq_append_getElem hjl, List.map_append, before]
  have hs := h.sum hi
  unfold OC at hs ⊢
  rw [List.map_append, List.sum_append, hs]
  simp only [List.map_cons, List.map_nil, List.sum_cons, List.sum_nil]
  rw [D8 hpp hcap]
  omega
 ·rw [yG, List.length_map, uy] at hjj
  rw [hlast hjj]
  omega
def gw (v_l : (List ByteArray)) (v_s : aa) (af : Int) (st : (List ByteArray)) (v_i : Int) (x_ : ByteArray) : Option (((List ByteArray)) ⊕ (((List ByteArray) × Int))) :=
 let al := st
 let v_k : Int := 0
 (ah (jc al v_s v_i v_l af) ab v_k).bind fun r13 =>
 let v_k := r13
 (hiO al v_k).bind fun b14 => (aU ([] : (List ByteArray)) b14).bind fun b15 => let v_x : (List ByteArray) := b15
 (aU v_x [x_]).bind fun b16 => let v_x : (List ByteArray) := b16
 (loO al v_k).bind fun b17 => (aU v_x b17).bind fun b18 => let al : (List ByteArray) := b18
 some (.inl al)
theorem zS (v_l : (List ByteArray)) (v_s : aa) (af : Int) (a_ : (List ByteArray)) (hl : v_l.length ≤ 1000000) : ah (lN v_l v_s af) ab (a_, (0)) = ny (gw v_l v_s af) (fun a_ => (a_, ((v_l.length : Int)))) a_ 0 v_l :=
 fa v_l (S := (List ByteArray) × Int) (fun a_ k_ => (a_, (k_))) (gw v_l v_s af) (fun a_ => (a_, ((v_l.length : Int)))) (an hl) (fun k a x hx => by
  unfold lN gw; exact bH)
  (fun a => by unfold lN; exact cF) a_
def gy (v_s : aa) (oA : ByteArray) (st : (List aq)) (x_ : aq) : Option (((List aq)) ⊕ (((List aq) × Int))) :=
 let al := st
 let v_a : aq := x_
 (cX v_a).bind fun c12 => (if (!c12) = true then some true else some (!(v_a.bF.toList == oA.toList))).bind fun q13 => if q13 = true then
 some (.inl al)
 else
 let v_k : Int := 0
 (ah (jd al v_a) ab v_k).bind fun r14 =>
 let v_k := r14
 (hiO al v_k).bind fun b15 => (aU ([] : (List aq)) b15).bind fun b16 => let v_x : (List aq) := b16
 (aU v_x [v_a]).bind fun b17 => let v_x : (List aq) := b17
 (loO al v_k).bind fun b18 => (aU v_x b18).bind fun b19 => let al : (List aq) := b19
 some (.inl al)
theorem zV (v_s : aa) (oA : ByteArray) (a_ : (List aq)) (hl : v_s.ai.length ≤ 1000000) : ah (lQ v_s oA) ab (a_, (0)) = bk (gy v_s oA) (fun a_ => (a_, ((v_s.ai.length : Int)))) a_ v_s.ai :=
 ay v_s.ai (S := (List aq) × Int) (fun a_ k_ => (a_, (k_))) (gy v_s oA) (fun a_ => (a_, ((v_s.ai.length : Int)))) (an hl) (fun k a x hx => by
  unfold lQ gy; exact bH)
  (fun a => by unfold lQ; exact cF) a_
def gx (al : (List aq)) (st : (List Int)) (x_ : aq) : Option (((List Int)) ⊕ (((List Int) × Int))) :=
 let v_l := st
 (aU v_l [x_.fId]).bind fun b15 => let v_l : (List Int) := b15
 some (.inl v_l)
theorem zU (al : (List aq)) (a_ : (List Int)) (hl : al.length ≤ 1000000) : ah (lO al) ab (a_, (0)) = bk (gx al) (fun a_ => (a_, ((al.length : Int)))) a_ al :=
 ay al (S := (List Int) × Int) (fun a_ k_ => (a_, (k_))) (gx al) (fun a_ => (a_, ((al.length : Int)))) (an hl) (fun k a x hx => by
  unfold lO gx; exact bH)
  (fun a => by unfold lO; exact cF) a_
def iJ (iP : (List ByteArray)) (au : ByteArray) (st : Unit) (x_ : ByteArray) : Option ((Unit) ⊕ ((Int) ⊕ (Bool))) :=
 if (x_.toList == au.toList) = true then
 some (.inr (.inr true))
 else
 some (.inl ())
theorem xQ (iP : (List ByteArray)) (au : ByteArray) (a_ : Unit) (hl : iP.length ≤ 1000000) : ah (kg iP au) ab (0) = bk (iJ iP au) (fun a_ => (.inl ((iP.length : Int)))) a_ iP :=
 ay iP (S := Int) (fun a_ k_ => (k_)) (iJ iP au) (fun a_ => (.inl ((iP.length : Int)))) (an hl) (fun k a x hx => by
  unfold kg iJ; exact bH)
  (fun a => by unfold kg; exact cF) a_
def gz (v_s : aa) (af : Int) (au : ByteArray) (yh : Bool) (mj : Int) (st : ax) (x_ : am) : Option ((ax) ⊕ ((ax × Int))) :=
 let v_v := st
 (dV v_s x_.bC).bind fun c11 => let v_a : aq := c11.1
 let bS : Bool := c11.2
 (if bS = true then some (x_.aY == af) else some false).bind fun q12 => (if q12 = true then (mQ v_a.bF au).bind fun c13 => some c13 else some false).bind fun q14 => (if q14 = true then (if yh = true then some true else some (v_a.cW == mj)).bind fun q15 => some q15 else some false).bind fun q16 => if q16 = true then
 (dc v_v x_.cC).bind fun c17 => let v_v : ax := c17
 some (.inl v_v)
 else
 some (.inl v_v)
theorem zX (v_s : aa) (af : Int) (au : ByteArray) (yh : Bool) (mj : Int) (a_ : ax) (hl : v_s.ac.length ≤ 1000000) : ah (lR v_s af au yh mj) ab (a_, (0)) = bk (gz v_s af au yh mj) (fun a_ => (a_, ((v_s.ac.length : Int)))) a_ v_s.ac :=
 ay v_s.ac (S := ax × Int) (fun a_ k_ => (a_, (k_))) (gz v_s af au yh mj) (fun a_ => (a_, ((v_s.ac.length : Int)))) (an hl) (fun k a x hx => by
  unfold lR gz; exact bH)
  (fun a => by unfold lR; exact cF) a_
def dS (v_s : aa) (af : Int) (au : ByteArray) (st : ax) (x_ : aq) : Option ((ax) ⊕ ((ax × Int))) :=
 let v_v := st
 (cX x_).bind fun c9 => (if c9 = true then (mQ x_.bF au).bind fun c10 => some c10 else some false).bind fun q11 => if q11 = true then
 (kw x_.bE af).bind fun c12 => (dc v_v c12).bind fun c13 => let v_v : ax := c13
 some (.inl v_v)
 else
 some (.inl v_v)
theorem va (v_s : aa) (af : Int) (au : ByteArray) (a_ : ax) (hl : v_s.ai.length ≤ 1000000) : ah (iK v_s af au) ab (a_, (0)) = bk (dS v_s af au) (fun a_ => (a_, ((v_s.ai.length : Int)))) a_ v_s.ai :=
 ay v_s.ai (S := ax × Int) (fun a_ k_ => (a_, (k_))) (dS v_s af au) (fun a_ => (a_, ((v_s.ai.length : Int)))) (an hl) (fun k a x hx => by
  unfold iK dS; exact bH)
  (fun a => by unfold iK; exact cF) a_
def gA (iP : (List ByteArray)) (v_s : aa) (af : Int) (su : ax) (st : Unit) (x_ : ByteArray) : Option ((Unit) ⊕ ((Int) ⊕ (Bool))) :=
 (eG v_s x_ af).bind fun c14 => (dc c14 su).bind fun c15 => let v_v : ax := c15
 (vG v_s x_ af).bind fun c16 => (fL v_v c16).bind fun c17 => if (!c17) = true then
 some (.inr (.inr false))
 else
 (if (x_.toList == (⟨#[114, 111, 111, 116]⟩ : ByteArray).toList) = true then (iY v_s af).bind fun c18 => (tb v_s af).bind fun c19 => (vK c18 c19).bind fun c20 => (fL v_v c20).bind fun c21 => some (!c21) else some false).bind fun q22 => if q22 = true then
 some (.inr (.inr false))
 else
 some (.inl ())
theorem zZ (iP : (List ByteArray)) (v_s : aa) (af : Int) (su : ax) (a_ : Unit) (hl : iP.length ≤ 1000000) : ah (lS iP v_s af su) ab (0) = bk (gA iP v_s af su) (fun a_ => (.inl ((iP.length : Int)))) a_ iP :=
 ay iP (S := Int) (fun a_ k_ => (k_)) (gA iP v_s af su) (fun a_ => (.inl ((iP.length : Int)))) (an hl) (fun k a x hx => by
  unfold lS gA; exact bH)
  (fun a => by unfold lS; exact cF) a_
def iX (v_l : (List aL)) (v_a : aL) (st : (List aL) × Bool) (x_ : aL) : Option (((List aL) × Bool) ⊕ (((List aL) × Bool × Int))) :=
 let al := st.1
 let cu := st.2
 (if (!cu) = true then some (decide (x_.bu > v_a.bu)) else some false).bind fun q8 => (if q8 = true then
 (aU al [v_a]).bind fun b10 => let al : (List aL) := b10
 let cu : Bool := true
 some (al, cu)
 else
 some (al, cu)).bind fun j9 => let al := j9.1
 let cu := j9.2
 if (x_.bu != v_a.bu) = true then
 (aU al [x_]).bind fun b11 => let al : (List aL) := b11
 some (.inl (al, cu))
 else
 some (.inl (al, cu))
theorem CL (v_l : (List aL)) (v_a : aL) (a_ : (List aL) × Bool) (hl : v_l.length ≤ 1000000) : ah (oO v_l v_a) ab (a_.1, a_.2, (0)) = bk (iX v_l v_a) (fun a_ => (a_.1, a_.2, ((v_l.length : Int)))) a_ v_l :=
 ay v_l (S := (List aL) × Bool × Int) (fun a_ k_ => (a_.1, a_.2, (k_))) (iX v_l v_a) (fun a_ => (a_.1, a_.2, ((v_l.length : Int)))) (an hl) (fun k a x hx => by
  unfold oO iX; exact bH)
  (fun a => by unfold oO; exact cF) a_
def lm (v_l : (List aL)) (cH : Int) (st : Unit) (x_ : aL) : Option ((Unit) ⊕ ((Int) ⊕ (aL × Bool))) :=
 if (x_.bu == cH) = true then
 some (.inr (.inr (x_, true)))
 else
 some (.inl ())
theorem CM (v_l : (List aL)) (cH : Int) (a_ : Unit) (hl : v_l.length ≤ 1000000) : ah (oP v_l cH) ab (0) = bk (lm v_l cH) (fun a_ => (.inl ((v_l.length : Int)))) a_ v_l :=
 ay v_l (S := Int) (fun a_ k_ => (k_)) (lm v_l cH) (fun a_ => (.inl ((v_l.length : Int)))) (an hl) (fun k a x hx => by
  unfold oP lm; exact bH)
  (fun a => by unfold oP; exact cF) a_
def g9 (v_l : (List aL)) (cH : Int) (st : Bool × (List aL)) (x_ : aL) : Option ((Bool × (List aL)) ⊕ ((Bool × (List aL) × Int))) :=
 let bS := st.1
 let al := st.2
 let v_a : aL := x_
 if (v_a.bu == cH) = true then
 let bS : Bool := true
 let t6 : Int := (i64.wrap (v_a.fX - 1))
 let t7 : Int := 0
 let v_a : aL := { v_a with fX := t6 }
 let v_a : aL := { v_a with gM := t7 }
 if (decide (v_a.fX ≤ 0)) = true then
 some (.inl (bS, al))
 else
 (aU al [v_a]).bind fun b8 => let al : (List aL) := b8
 some (.inl (bS, al))
 else
 (aU al [v_a]).bind fun b9 => let al : (List aL) := b9
 some (.inl (bS, al))
theorem Bp (v_l : (List aL)) (cH : Int) (a_ : Bool × (List aL)) (hl : v_l.length ≤ 1000000) : ah (mY v_l cH) ab (a_.1, a_.2, (0)) = bk (g9 v_l cH) (fun a_ => (a_.1, a_.2, ((v_l.length : Int)))) a_ v_l :=
 ay v_l (S := Bool × (List aL) × Int) (fun a_ k_ => (a_.1, a_.2, (k_))) (g9 v_l cH) (fun a_ => (a_.1, a_.2, ((v_l.length : Int)))) (an hl) (fun k a x hx => by
  unfold mY g9; exact bH)
  (fun a => by unfold mY; exact cF) a_
def er (v_l : (List aL)) (af : Int) (st : ax) (x_ : aL) : Option ((ax) ⊕ ((ax × Int))) :=
 let v_v := st
 if (x_.aY == af) = true then
 (dc v_v (⟨(i64.wrap (x_.cC.bD * x_.fX)), (i64.wrap (x_.cC.bj * x_.fX))⟩ : ax)).bind fun c7 => let v_v : ax := c7
 some (.inl v_v)
 else
 some (.inl v_v)
theorem wa (v_l : (List aL)) (af : Int) (a_ : ax) (hl : v_l.length ≤ 1000000) : ah (jo v_l af) ab (a_, (0)) = bk (er v_l af) (fun a_ => (a_, ((v_l.length : Int)))) a_ v_l :=
 ay v_l (S := ax × Int) (fun a_ k_ => (a_, (k_))) (er v_l af) (fun a_ => (a_, ((v_l.length : Int)))) (an hl) (fun k a x hx => by
  unfold jo er; exact bH)
  (fun a => by unfold jo; exact cF) a_
def TB (a b : ax) : ax := ⟨i64.wrap (a.bD + b.bD), i64.wrap (a.bj + b.bj)⟩
def Ya (a b : ax) : Bool := decide (a.bD ≤ b.bD) && decide (a.bj ≤ b.bj)
def inV (n : Int) : Bool := decide (n ≥ 0) && decide (n ≤ 1125899906842624)
def GQ (a : ax) : Bool := inV a.bD && inV a.bj
theorem eu (a b : ax) : dc a b = some (TB a b) := rfl
theorem kx (a b : ax) : fL a b = some (Ya a b) := by unfold fL Ya; simp only [dH, zb]
theorem PQ (n : Int) : zi n = some (inV n) := by unfold zi inV; simp only [dH, zb]
theorem IY (a : ax) : tf a = some (GQ a) := by unfold tf GQ; simp only [PQ, dH, zb]
def VH (a b : ax) : ax := (vK a b).getD ax.zero
theorem FT (a b : ax) : vK a b = some (VH a b) := rfl
def xa (n bp : Int) : Int := (uQ n bp).getD 0
theorem M7 (n bp : Int) : uQ n bp = some (xa n bp) := rfl
def ZI (a b : Int) : Int × Int := (zh a b).getD (0, 0)
theorem PN (a b : Int) : zh a b = some (ZI a b) := rfl
def Ph (a : ax) (bp : Int) : ax × Int :=
 if (!GQ a || decide (bp < 0) || decide (bp > 1000000)) = true then (ax.zero, 1)
 else if GQ ⟨xa a.bD bp, xa a.bj bp⟩ = true then (⟨xa a.bD bp, xa a.bj bp⟩, 0) else (ax.zero, 11)
theorem Ck (a : ax) (bp : Int) : uR a bp = some (Ph a bp) := by
 unfold uR Ph
 simp only [IY, orB, zb, M7]
 generalize (!GQ a || decide (bp < 0) || decide (bp > 1000000)) = b1
 generalize GQ ⟨xa a.bD bp, xa a.bj bp⟩ = b2
 cases b1 <;> cases b2 <;> rfl
theorem sy {α : Type} (c : Bool) (a b : α) : (if c = true then some a else some b) = some (if c = true then a else b) := by cases c <;> rfl
def Jx (x y : bb) : Int := (pM x y).getD 0
theorem Cj (x y : bb) : pM x y = some (Jx x y) := by
 unfold Jx
 have : ∃ r, pM x y = some r := by
  unfold pM
  simp only [orB, dH, zb, PN, sy]
  exact ⟨_, rfl⟩
 obtain ⟨r, hr⟩ := this
 rw [hr]
 rfl
def Rv (a p : ax) : bb := if decide (Jx ⟨a.bD, p.bD⟩ ⟨a.bj, p.bj⟩ < 0) = true then ⟨a.bj, p.bj⟩ else ⟨a.bD, p.bD⟩
theorem PU (a p : ax) : zj a p = some (Rv a p) := by
 unfold zj Rv
 simp only [Cj, zb, sy]
def W3 (a p b q : ax) : Int := if (!GQ a || !GQ p || !GQ b || !GQ q) = true then 0 else Jx (Rv a p) (Rv b q)
theorem M9 (a p b q : ax) : zk a p b q = some (W3 a p b q) := by
 unfold zk W3
 simp only [IY, orB, zb, PU, Cj]
 simp only [sy]
theorem Pi (n : Int) : yW n = some (decide (n ≥ 1) && decide (n ≤ 1073741824)) := by
 unfold yW
 simp only [dH, zb]
def aab (a : aL) (n : Int) : Int := (pB a n).getD 0
theorem MQ (a : aL) (n : Int) : pB a n = some (aab a n) := by
 have : ∃ r, pB a n = some r := by
  unfold pB
  simp only [Pi, orB, dH, zb]
  simp only [sy]
  exact ⟨_, rfl⟩
 obtain ⟨r, hr⟩ := this
 unfold aab
 rw [hr]; rfl
theorem TH (l : List aL) (a : aL) (hl : l.length ≤ 100000) : ∃ r, FF l a = some r ∧ r.1.length ≤ 8 := by
 unfold FF
 dsimp only
 rw [CL l { a with gM := 0 } ([], a.fX == 0) (by omega)]
 obtain ⟨r, h1, h2⟩ := aR (g := iX l { a with gM := 0 }) (fin := fun b => (b.1, b.2, (l.length : Int))) (fun k b => b.1.length ≤ 2 * k) (fun r => r.1.length ≤ 2 * l.length) l 0 ([], a.fX == 0) (fun j b x hx hb => by
  have hj := (zg.1 hx).1
  unfold iX
  simp only [dH, zb]
  cases (!b.2 && decide (x.bu > a.bu)) with
  | true =>
   simp only [if_true]
   rw [aD (by simp; omega)]
   simp only [zb]
   cases (x.bu != a.bu) with
   | true =>
    simp only [if_true]
    rw [aD (by simp; omega)]
    exact ⟨_, rfl, fun a' e => by injection e with e; subst e; simp; omega, fun r e => by cases e⟩
   | false =>
    exact ⟨_, rfl, fun a' e => by injection e with e; subst e; simp; omega, fun r e => by cases e⟩
  | false =>
   simp only [zf, if_false, zb]
   cases (x.bu != a.bu) with
   | true =>
    simp only [if_true]
    rw [aD (by simp; omega)]
    exact ⟨_, rfl, fun a' e => by injection e with e; subst e; simp; omega, fun r e => by cases e⟩
   | false =>
    exact ⟨_, rfl, fun a' e => by injection e with e; subst e; show b.1.length ≤ _; omega, fun r e => by cases e⟩) (fun b hb => by simpa using hb) (by simp)
 rw [h1]
 simp only [zb]
 have fin : ∀ o : List aL, ∃ r, (if decide ((o.length : Int) > 8) = true then some (([] : List aL), (4 : Int)) else some (o, 0)) = some r ∧ r.1.length ≤ 8 := by
  intro o
  by_cases h : (o.length : Int) > 8
  ·simp only [h, decide_true, if_true]; exact ⟨_, rfl, by simp⟩
  ·simp only [h, decide_false, zf, if_false]; exact ⟨_, rfl, by show o.length ≤ 8; omega⟩
 cases (!r.2.1) with
 | true =>
  simp only [if_true]
  rw [aD (by simp; omega)]
  exact fin _
 | false => exact fin _
def VU (l : List aL) (p : Int) : aL := (l.find? fun x => x.bu == p).getD aL.zero
def isA (l : List aL) (p : Int) : Bool := l.any fun x => x.bu == p
theorem TM (l : List aL) (p : Int) (hl : l.length ≤ 1000000) : Km l p = some (VU l p, isA l p) := by
 unfold Km
 dsimp only
 rw [CM l p () hl]
 have h2 := sC (fun x : aL => x.bu == p) (fun x => (Sum.inr (x, true) : Int ⊕ aL × Bool)) (.inl (l.length : Int)) l
 rw [show lm l p = fun (_ : Unit) x => if (x.bu == p) = true then some (.inr (.inr (x, true))) else some (.inl ()) from rfl, h2]
 unfold VU isA
 cases hf : l.find? fun x => x.bu == p with
 | none =>
  have : (l.any fun x => x.bu == p) = false := by
   rw [List.any_eq_false]; intro x hx; have := List.find?_eq_none.1 hf x hx; simpa using this
  rw [this]; rfl
 | some q =>
  have : (l.any fun x => x.bu == p) = true := by
   rw [List.any_eq_true]; exact ⟨q, List.mem_of_find?_eq_some hf, by simpa using List.find?_some hf⟩
  rw [this]; rfl
theorem Pj (l : List aL) (p : Int) (hl : l.length ≤ 1000000) : ∃ r, Dw l p = some r ∧ r.1.length ≤ l.length := by
 unfold Dw
 dsimp only
 rw [Bp l p (false, []) hl]
 obtain ⟨r, h1, h2⟩ := aR (g := g9 l p) (fin := fun b => (b.1, b.2, (l.length : Int))) (fun k b => b.2.length ≤ k) (fun r => r.2.1.length ≤ l.length) l 0 (false, []) (fun j b x hx hb => by
  have hj := (zg.1 hx).1
  unfold g9
  dsimp only
  split
  ·split
   ·exact ⟨_, rfl, fun a' e => by injection e with e; subst e; show b.2.length ≤ _; omega, fun r e => by cases e⟩
   ·rw [aD (by simp; omega)]
    exact ⟨_, rfl, fun a' e => by injection e with e; subst e; simp; omega, fun r e => by cases e⟩
  ·rw [aD (by simp; omega)]
   exact ⟨_, rfl, fun a' e => by injection e with e; subst e; simp; omega, fun r e => by cases e⟩) (fun b hb => by simpa using hb) (by simp)
 rw [h1]
 exact ⟨_, rfl, h2⟩
theorem Pk (l : List aL) (p : Int) (hl : l.length ≤ 1000000) : ∃ r, Dx l p = some r ∧ r.length = l.length := by
 unfold Dx
 rw [aD (by simpa using hl)]
 simp only [zb, List.nil_append]
 have h := aM (f := qP p) (fun st => st.1.length = l.length ∧ 0 ≤ st.2 ∧ st.2 ≤ (l.length : Int)) (fun st => ((l.length : Int) - st.2).toNat) (fun st => st.1.length = l.length) (fun st ⟨h1, h2, h3⟩ => by
  unfold qP
  dsimp only
  by_cases hi : st.2 < (st.1.length : Int)
  ·obtain ⟨x, hx, _⟩ := L2 h2 hi
   have hw : i64.wrap (st.2 + 1) = st.2 + 1 := Hj (by omega) (by omega)
   simp only [hi, decide_true, if_true, hx, zb, hw]
   split
   ·exact .inl ⟨_, rfl, ⟨by simpa using h1, by show 0 ≤ st.2 + 1; omega, by show st.2 + 1 ≤ _; omega⟩, by show ((l.length : Int) - (st.2 + 1)).toNat < ((l.length : Int) - st.2).toNat; omega⟩
   ·exact .inl ⟨_, rfl, ⟨h1, by show 0 ≤ st.2 + 1; omega, by show st.2 + 1 ≤ _; omega⟩, by show ((l.length : Int) - (st.2 + 1)).toNat < ((l.length : Int) - st.2).toNat; omega⟩
  ·simp only [hi, decide_false, zf, if_false]
   exact .inr ⟨_, rfl, h1⟩) ab (l, 0) ⟨rfl, Int.le_refl _, Int.natCast_nonneg _⟩ (by show ((l.length : Int) - 0).toNat < ab; unfold ab; omega)
 obtain ⟨r, h1, h2⟩ := h
 rw [h1]
 exact ⟨_, rfl, h2⟩
def YJ (l : List aL) (k : Int) : ax := (kw l k).getD ax.zero
theorem G2 (l : List aL) (k : Int) (hl : l.length ≤ 1000000) : kw l k = some (YJ l k) := by
 have : ∃ r, kw l k = some r := by
  unfold kw
  dsimp only
  rw [wa l k ⟨0, 0⟩ hl]
  obtain ⟨r, h1, _⟩ := aR (g := er l k) (fin := fun a => (a, (l.length : Int))) (fun _ _ => True) (fun _ => True) l 0 ⟨0, 0⟩ (fun j a x hx _ => by
   unfold er
   simp only [eu, zb, sy]
   exact ⟨_, rfl, fun _ _ => trivial, fun _ _ => trivial⟩) (fun _ _ => trivial) trivial
  rw [h1]
  exact ⟨_, rfl⟩
 obtain ⟨r, hr⟩ := this
 unfold YJ
 rw [hr]; rfl
def jE (v_s : aa) (bA : Int) (st : Unit) (x_ : aq) : Option ((Unit) ⊕ ((Int) ⊕ (aq × Bool))) :=
 if (x_.fId == bA) = true then
 some (.inr (.inr (x_, true)))
 else
 some (.inl ())
theorem Ai (v_s : aa) (bA : Int) (a_ : Unit) (hl : v_s.ai.length ≤ 1000000) : ah (lX v_s bA) ab (0) = bk (jE v_s bA) (fun a_ => (.inl ((v_s.ai.length : Int)))) a_ v_s.ai :=
 ay v_s.ai (S := Int) (fun a_ k_ => (k_)) (jE v_s bA) (fun a_ => (.inl ((v_s.ai.length : Int)))) (an hl) (fun k a x hx => by
  unfold lX jE; exact bH)
  (fun a => by unfold lX; exact cF) a_
def eH (v_s : aa) (st : Bool × (List aq)) (x_ : aq) : Option ((Bool × (List aq)) ⊕ ((Bool × (List aq) × Int))) :=
 let cu := st.1
 let v_l := st.2
 (if (!cu) = true then (cX x_).bind fun c6 => some (!c6) else some false).bind fun q7 => if q7 = true then
 let cu : Bool := true
 some (.inl (cu, v_l))
 else
 (aU v_l [x_]).bind fun b8 => let v_l : (List aq) := b8
 some (.inl (cu, v_l))
theorem wl (v_s : aa) (a_ : Bool × (List aq)) (hl : v_s.ai.length ≤ 1000000) : ah (jB v_s) ab (a_.1, a_.2, (0)) = bk (eH v_s) (fun a_ => (a_.1, a_.2, ((v_s.ai.length : Int)))) a_ v_s.ai :=
 ay v_s.ai (S := Bool × (List aq) × Int) (fun a_ k_ => (a_.1, a_.2, (k_))) (eH v_s) (fun a_ => (a_.1, a_.2, ((v_s.ai.length : Int)))) (an hl) (fun k a x hx => by
  unfold jB eH; exact bH)
  (fun a => by unfold jB; exact cF) a_
def eI (v_s : aa) (st : Int) (x_ : aq) : Option ((Int) ⊕ ((Int × Int))) :=
 let kQ := st
 (cX x_).bind fun c13 => if c13 = true then
 let kQ : Int := (i64.wrap (kQ + 1))
 some (.inl kQ)
 else
 some (.inl kQ)
theorem wm (v_s : aa) (a_ : Int) (hl : v_s.ai.length ≤ 1000000) : ah (jC v_s) ab (a_, (0)) = bk (eI v_s) (fun a_ => (a_, ((v_s.ai.length : Int)))) a_ v_s.ai :=
 ay v_s.ai (S := Int × Int) (fun a_ k_ => (a_, (k_))) (eI v_s) (fun a_ => (a_, ((v_s.ai.length : Int)))) (an hl) (fun k a x hx => by
  unfold jC eI; exact bH)
  (fun a => by unfold jC; exact cF) a_
def gD (v_s : aa) (bA : Int) (st : (List Int) × (List am)) (x_ : am) : Option (((List Int) × (List am)) ⊕ (((List Int) × (List am) × Int))) :=
 let jI := st.1
 let v_l := st.2
 if (x_.bC == bA) = true then
 (aU jI [x_.fId]).bind fun b6 => let jI : (List Int) := b6
 some (.inl (jI, v_l))
 else
 (aU v_l [x_]).bind fun b7 => let v_l : (List am) := b7
 some (.inl (jI, v_l))
theorem Ab (v_s : aa) (bA : Int) (a_ : (List Int) × (List am)) (hl : v_s.ac.length ≤ 1000000) : ah (lV v_s bA) ab (a_.1, a_.2, (0)) = bk (gD v_s bA) (fun a_ => (a_.1, a_.2, ((v_s.ac.length : Int)))) a_ v_s.ac :=
 ay v_s.ac (S := (List Int) × (List am) × Int) (fun a_ k_ => (a_.1, a_.2, (k_))) (gD v_s bA) (fun a_ => (a_.1, a_.2, ((v_s.ac.length : Int)))) (an hl) (fun k a x hx => by
  unfold lV gD; exact bH)
  (fun a => by unfold lV; exact cF) a_
def gB (v_s : aa) (bA : Int) (st : (List bt)) (x_ : bt) : Option (((List bt)) ⊕ (((List bt) × Int))) :=
 let iC := st
 if (x_.bC != bA) = true then
 (aU iC [x_]).bind fun b10 => let iC : (List bt) := b10
 some (.inl iC)
 else
 some (.inl iC)
theorem Aa (v_s : aa) (bA : Int) (a_ : (List bt)) (hl : v_s.aQ.length ≤ 1000000) : ah (lU v_s bA) ab (a_, (0)) = bk (gB v_s bA) (fun a_ => (a_, ((v_s.aQ.length : Int)))) a_ v_s.aQ :=
 ay v_s.aQ (S := (List bt) × Int) (fun a_ k_ => (a_, (k_))) (gB v_s bA) (fun a_ => (a_, ((v_s.aQ.length : Int)))) (an hl) (fun k a x hx => by
  unfold lU gB; exact bH)
  (fun a => by unfold lU; exact cF) a_
def jF (v_s : aa) (bA : Int) (st : Unit) (x_ : am) : Option ((Unit) ⊕ ((Int) ⊕ (am × Bool))) :=
 if (x_.fId == bA) = true then
 some (.inr (.inr (x_, true)))
 else
 some (.inl ())
theorem Aj (v_s : aa) (bA : Int) (a_ : Unit) (hl : v_s.ac.length ≤ 1000000) : ah (lY v_s bA) ab (0) = bk (jF v_s bA) (fun a_ => (.inl ((v_s.ac.length : Int)))) a_ v_s.ac :=
 ay v_s.ac (S := Int) (fun a_ k_ => (k_)) (jF v_s bA) (fun a_ => (.inl ((v_s.ac.length : Int)))) (an hl) (fun k a x hx => by
  unfold lY jF; exact bH)
  (fun a => by unfold lY; exact cF) a_
def gG (v_s : aa) (bA : Int) (st : (List am)) (x_ : am) : Option (((List am)) ⊕ (((List am) × Int))) :=
 let v_l := st
 if (x_.fId != bA) = true then
 (aU v_l [x_]).bind fun b4 => let v_l : (List am) := b4
 some (.inl v_l)
 else
 some (.inl v_l)
theorem Al (v_s : aa) (bA : Int) (a_ : (List am)) (hl : v_s.ac.length ≤ 1000000) : ah (lZ v_s bA) ab (a_, (0)) = bk (gG v_s bA) (fun a_ => (a_, ((v_s.ac.length : Int)))) a_ v_s.ac :=
 ay v_s.ac (S := (List am) × Int) (fun a_ k_ => (a_, (k_))) (gG v_s bA) (fun a_ => (a_, ((v_s.ac.length : Int)))) (an hl) (fun k a x hx => by
  unfold lZ gG; exact bH)
  (fun a => by unfold lZ; exact cF) a_
def dU (v_l : (List Int)) (v_n : Int) (st : (List Int)) (x_ : Int) : Option (((List Int)) ⊕ (((List Int) × Int))) :=
 let al := st
 if (x_ != v_n) = true then
 (aU al [x_]).bind fun b4 => let al : (List Int) := b4
 some (.inl al)
 else
 some (.inl al)
theorem vd (v_l : (List Int)) (v_n : Int) (a_ : (List Int)) (hl : v_l.length ≤ 1000000) : ah (iL v_l v_n) ab (a_, (0)) = bk (dU v_l v_n) (fun a_ => (a_, ((v_l.length : Int)))) a_ v_l :=
 ay v_l (S := (List Int) × Int) (fun a_ k_ => (a_, (k_))) (dU v_l v_n) (fun a_ => (a_, ((v_l.length : Int)))) (an hl) (fun k a x hx => by
  unfold iL dU; exact bH)
  (fun a => by unfold iL; exact cF) a_
def gF (cj : (List Int)) (st : aa) (x_ : Int) : Option ((aa) ⊕ ((aa × Int))) :=
 let v_s := st
 (eL v_s x_).bind fun c21 => let v_c : am := c21.1
 let bS : Bool := c21.2
 if (!bS) = true then
 some (.inl v_s)
 else
 (dV v_s v_c.bC).bind fun c22 => let v_a : aq := c22.1
 if v_c.bB = true then
 (pa v_a).bind fun c23 => let t24 : Int := 1
 let t25 : (List aL) := c23
 let v_a : aq := { v_a with cw := t24 }
 let v_a : aq := { v_a with bE := t25 }
 let t26 : (List Int) := []
 let t27 : (List Int) := []
 let t28 : (List Int) := []
 let t29 : (List Int) := []
 let v_a : aq := { v_a with bM := t26 }
 let v_a : aq := { v_a with dj := t27 }
 let v_a : aq := { v_a with jH := t28 }
 let v_a : aq := { v_a with jP := t29 }
 let t30 : Int := 0
 let t31 : Int := v_s.bW
 let v_a : aq := { v_a with ce := t30 }
 let v_a : aq := { v_a with bL := t31 }
 (eb v_s v_a).bind fun c32 => (sk c32 v_c.bC).bind fun c33 => let v_s : aa := c33.1
 some (.inl v_s)
 else
 (qa v_s v_c.fId).bind fun c34 => let v_s : aa := c34
 let tX : Bool := false
 (je v_a.bM v_c.fId).bind fun c35 => let v_a : aq := { v_a with bM := c35.1 }
 let tX : Bool := c35.2
 (if (!tX) = true then
 (aU ([] : (List Int)) v_a.dj).bind fun b37 => (aU b37 [v_c.fId]).bind fun b38 => let v_a : aq := { v_a with dj := b38 }
 some v_a
 else
 some v_a).bind fun j36 => let v_a := j36
 (eb v_s v_a).bind fun c39 => let v_s : aa := c39
 some (.inl v_s)
theorem Ah (cj : (List Int)) (a_ : aa) (hl : cj.length ≤ 1000000) : ah (lW cj) ab (a_, (0)) = bk (gF cj) (fun a_ => (a_, ((cj.length : Int)))) a_ cj :=
 ay cj (S := aa × Int) (fun a_ k_ => (a_, (k_))) (gF cj) (fun a_ => (a_, ((cj.length : Int)))) (an hl) (fun k a x hx => by
  unfold lW gF; exact bH)
  (fun a => by unfold lW; exact cF) a_
def eJ (v_s : aa) (st : (List Int)) (x_ : aq) : Option (((List Int)) ⊕ (((List Int) × Int))) :=
 let v_l := st
 (if (x_.cw == 2) = true then some (decide ((i64.wrap (v_s.bW - x_.bL)) ≥ 15)) else some false).bind fun q6 => if q6 = true then
 (aU v_l [x_.fId]).bind fun b7 => let v_l : (List Int) := b7
 some (.inl v_l)
 else
 some (.inl v_l)
theorem wn (v_s : aa) (a_ : (List Int)) (hl : v_s.ai.length ≤ 1000000) : ah (jD v_s) ab (a_, (0)) = bk (eJ v_s) (fun a_ => (a_, ((v_s.ai.length : Int)))) a_ v_s.ai :=
 ay v_s.ai (S := (List Int) × Int) (fun a_ k_ => (a_, (k_))) (eJ v_s) (fun a_ => (a_, ((v_s.ai.length : Int)))) (an hl) (fun k a x hx => by
  unfold jD eJ; exact bH)
  (fun a => by unfold jD; exact cF) a_
def dI (v_c : aw) (au : ByteArray) (st : Unit) (x_ : az) : Option ((Unit) ⊕ ((Int) ⊕ (az × Bool))) :=
 if (x_.aF.toList == au.toList) = true then
 let v_q : az := x_
 (aU ([] : (List ei)) v_q.bl).bind fun b4 => let v_q : az := { v_q with bl := b4 }
 some (.inr (.inr (v_q, true)))
 else
 some (.inl ())
theorem rY (v_c : aw) (au : ByteArray) (a_ : Unit) (hl : v_c.ae.length ≤ 1000000) : ah (nj v_c au) ab (0) = bk (dI v_c au) (fun a_ => (.inl ((v_c.ae.length : Int)))) a_ v_c.ae :=
 ay v_c.ae (S := Int) (fun a_ k_ => (k_)) (dI v_c au) (fun a_ => (.inl ((v_c.ae.length : Int)))) (an hl) (fun k a x hx => by
  unfold nj dI; exact bH)
  (fun a => by unfold nj; exact cF) a_
def cA (v_c : aw) (au : ByteArray) (st : (List ByteArray)) (x_ : az) : Option (((List ByteArray)) ⊕ (((List ByteArray) × Int))) :=
 let v_l := st
 (if (!(au.toList == (⟨#[]⟩ : ByteArray).toList)) = true then (dQ x_.aF).bind fun c6 => some (c6.toList == au.toList) else some false).bind fun q7 => if q7 = true then
 (aU v_l [x_.aF]).bind fun b8 => let v_l : (List ByteArray) := b8
 some (.inl v_l)
 else
 some (.inl v_l)
theorem jp (v_c : aw) (au : ByteArray) (a_ : (List ByteArray)) (hl : v_c.ae.length ≤ 1000000) : ah (ni v_c au) ab (a_, (0)) = bk (cA v_c au) (fun a_ => (a_, ((v_c.ae.length : Int)))) a_ v_c.ae :=
 ay v_c.ae (S := (List ByteArray) × Int) (fun a_ k_ => (a_, (k_))) (cA v_c au) (fun a_ => (a_, ((v_c.ae.length : Int)))) (an hl) (fun k a x hx => by
  unfold ni cA; exact bH)
  (fun a => by unfold ni; exact cF) a_
def hZ (bw : (List ByteArray)) (v_c : aw) (v_k : Int) (st : Int) (x_ : ByteArray) : Option ((Int) ⊕ ((Int × Int))) :=
 let v_n := st
 (jq v_c x_).bind fun c7 => let v_q : az := c7.1
 (av v_q.bl v_k).bind fun b8 => let v_n : Int := (i64.wrap (v_n + b8.kt))
 some (.inl v_n)
theorem Bu (bw : (List ByteArray)) (v_c : aw) (v_k : Int) (a_ : Int) (hl : bw.length ≤ 1000000) : ah (jR bw v_c v_k) ab (a_, (0)) = bk (hZ bw v_c v_k) (fun a_ => (a_, ((bw.length : Int)))) a_ bw :=
 ay bw (S := Int × Int) (fun a_ k_ => (a_, (k_))) (hZ bw v_c v_k) (fun a_ => (a_, ((bw.length : Int)))) (an hl) (fun k a x hx => by
  unfold jR hZ; exact bH)
  (fun a => by unfold jR; exact cF) a_
def ia (v_c : aw) (st : Unit) (x_ : az) : Option ((Unit) ⊕ ((Int) ⊕ (Bool))) :=
 (ff v_c x_.aF).bind fun c10 => let bw : (List ByteArray) := c10
 let v_k : Int := 0
 (ah (ng v_c bw) ab v_k).bind fun r11 => match r11 with
 | .inr m12 => some (.inr (.inr m12))
 | .inl m12 =>
 let v_k := m12
 some (.inl ())
theorem Bv (v_c : aw) (a_ : Unit) (hl : v_c.ae.length ≤ 1000000) : ah (nh v_c) ab (0) = bk (ia v_c) (fun a_ => (.inl ((v_c.ae.length : Int)))) a_ v_c.ae :=
 ay v_c.ae (S := Int) (fun a_ k_ => (k_)) (ia v_c) (fun a_ => (.inl ((v_c.ae.length : Int)))) (an hl) (fun k a x hx => by
  unfold nh ia; exact bH)
  (fun a => by unfold nh; exact cF) a_
theorem pg {s : ByteArray} {k : Int} (h0 : 0 ≤ k) (h1 : k.toNat < s.size) : ∃ b, kW s k = some b := by
 unfold kW
 rw [if_pos h0]
 have : k.toNat < s.data.toList.length := by simpa using h1
 rw [zq this]
 exact ⟨_, rfl⟩
theorem nM (p : ByteArray) (hp : p.size ≤ 1000000) : ∃ r, dQ p = some r ∧ (r.size < p.size ∨ r.size = 0) := by
 unfold dQ
 have hw : ∀ k : Int, -1 ≤ k → k ≤ 1000000000 → i64.wrap (k - 1) = k - 1 := fun k h1 h2 => Hj (by omega) (by omega)
 have h := aM (f := iZ p) (fun k => -1 ≤ k ∧ k < (p.size : Int)) (fun k => (k + 1).toNat) (fun k => -1 ≤ k ∧ k < (p.size : Int)) (fun k ⟨h1, h2⟩ => by
  unfold iZ
  by_cases hk : k ≥ 0
  ·obtain ⟨b, hb⟩ := pg (s := p) hk (by omega)
   simp only [hk, decide_true, if_true, hb, zb]
   cases (b != 46) with
   | true =>
    simp only [if_true, hw k h1 (by omega)]
    exact .inl ⟨_, rfl, by omega, by omega⟩
   | false => exact .inr ⟨_, rfl, h1, h2⟩
  ·simp only [hk, decide_false, zf, if_false, zb]
   exact .inr ⟨_, rfl, h1, h2⟩) ab (i64.wrap ((p.size : Int) - 1)) (by rw [hw _ (by omega) (by omega)]; omega) (by show (i64.wrap ((p.size : Int) - 1) + 1).toNat < ab; rw [hw _ (by omega) (by omega)]; unfold ab; omega)
 obtain ⟨k, h1, h2, h3⟩ := h
 dsimp only
 rw [h1]
 simp only [zb]
 by_cases hk : k < 0
 ·simp only [hk, decide_true, if_true]
  exact ⟨_, rfl, .inr rfl⟩
 ·simp only [hk, decide_false, zf, if_false]
  unfold Oe
  rw [if_pos ⟨by omega, by omega⟩]
  refine ⟨_, rfl, .inl ?_⟩
  simp only [ByteArray.size_extract]
  omega
theorem qw {p : ByteArray} (h : (!(p.toList == (⟨#[]⟩ : ByteArray).toList)) = true) : 0 < p.size := by
 rcases Nat.eq_zero_or_pos p.size with h0 | h0
 ·exfalso
  have : p = ⟨#[]⟩ := by
   cases p with
   | mk d => have : d = #[] := by apply Array.eq_empty_of_size_eq_zero; exact h0
             rw [this]
  rw [this] at h
  simp at h
 ·exact h0
theorem FM (p : ByteArray) (hp : p.size ≤ 1000000) : ∃ r, y6 p = some r ∧ r.length ≤ p.size ∧ ∀ q ∈ r, q.size ≤ p.size := by
 unfold y6
 have h := aM (f := nN) (fun st => st.1.length + st.2.size ≤ p.size ∧ ∀ q ∈ st.1, q.size ≤ p.size) (fun st => st.2.size) (fun st => st.1.length ≤ p.size ∧ ∀ q ∈ st.1, q.size ≤ p.size) (fun st ⟨h1, h2⟩ => by
  unfold nN
  dsimp only
  split
  ·rename_i hne
   have h0 := qw hne
   rw [aD (by simp; omega)]
   obtain ⟨r, hr, hs⟩ := nM st.2 (by omega)
   simp only [zb, hr]
   refine .inl ⟨_, rfl, ⟨by simp; omega, fun q hq => ?_⟩, by show r.size < st.2.size; omega⟩
   simp only [List.mem_append, List.mem_singleton] at hq
   rcases hq with hq | rfl
   ·exact h2 q hq
   ·omega
  ·exact .inr ⟨_, rfl, by show st.1.length ≤ p.size; omega, h2⟩) ab ([], p) ⟨by simp, by simp⟩ (by show p.size < ab; unfold ab; omega)
 obtain ⟨r, h1, h2, h3⟩ := h
 dsimp only
 rw [h1]
 exact ⟨_, rfl, h2, h3⟩
structure SzC (c : aw) : Prop where
 labels : c.ak.length ≤ 1000
 queues : c.ae.length ≤ 1000
 caps : ∀ q ∈ c.ae, q.bl.length ≤ 1000
 paths : ∀ q ∈ c.ae, q.aF.size ≤ 1000000
def EI (c : aw) (p : ByteArray) : az := (c.ae.find? fun q => q.aF.toList == p.toList).getD az.zero
def isQ (c : aw) (p : ByteArray) : Bool := c.ae.any fun q => q.aF.toList == p.toList
theorem mL (c : aw) (p : ByteArray) (h : SzC c) : jq c p = some (EI c p, isQ c p) := by
 unfold jq EI isQ
 have hs := rY c p () (by have := h.queues; omega)
 dsimp only
 rw [hs]
 have key : ∀ l : List az, (∀ q ∈ l, q.bl.length ≤ 1000) → bk (dI c p) (fun _ => (Sum.inl (c.ae.length : Int) : Int ⊕ (az × Bool))) () l = some (match l.find? fun q => q.aF.toList == p.toList with | some q => .inr (q, true) | none => .inl (c.ae.length : Int)) := by
  intro l
  induction l with
  | nil => intro _; rfl
  | cons q l ih =>
   intro hc
   simp only [bk, List.find?_cons]
   unfold dI
   cases hq : (q.aF.toList == p.toList) with
   | true =>
    have := hc q (by simp)
    simp only [if_true]
    rw [aD (by simp; omega)]
    rfl
   | false =>
    simp only [zf, if_false]
    exact ih fun q hq => hc q (by simp [hq])
 rw [key _ h.caps]
 cases hf : c.ae.find? fun q => q.aF.toList == p.toList with
 | none =>
  have : (c.ae.any fun q => q.aF.toList == p.toList) = false := by
   rw [List.any_eq_false]; intro x hx; have := List.find?_eq_none.1 hf x hx; simpa using this
  rw [this]; rfl
 | some q =>
  have : (c.ae.any fun q => q.aF.toList == p.toList) = true := by
   rw [List.any_eq_true]; exact ⟨q, List.mem_of_find?_eq_some hf, by simpa using List.find?_some hf⟩
  rw [this]; rfl
theorem tc (c : aw) (p : ByteArray) (h : SzC c) : ∃ r, ff c p = some r ∧ r.length ≤ c.ae.length ∧ ∀ x ∈ r, ∃ q ∈ c.ae, q.aF = x := by
 unfold ff
 have hs := jp c p [] (by have := h.queues; omega)
 dsimp only
 rw [hs]
 obtain ⟨r, h1, h2⟩ := aR (g := cA c p) (fin := fun a => (a, (c.ae.length : Int))) (fun k a => a.length ≤ k ∧ ∀ x ∈ a, ∃ q ∈ c.ae, q.aF = x) (fun r => r.1.length ≤ c.ae.length ∧ ∀ x ∈ r.1, ∃ q ∈ c.ae, q.aF = x) c.ae 0 [] (fun j a x hx ⟨h1, h2⟩ => by
  have hm := List.mem_of_getElem? hx
  have hj := (zg.1 hx).1
  obtain ⟨r, hr, _⟩ := nM x.aF (h.paths x hm)
  have hqs := h.queues
  unfold cA
  simp only [hr, zb, dH]
  split
  ·rw [aD (by simp; omega)]
   refine ⟨_, rfl, fun a' e => ?_, fun r e => by cases e⟩
   injection e with e
   subst e
   refine ⟨by simp; omega, fun y hy => ?_⟩
   simp only [List.mem_append, List.mem_singleton] at hy
   rcases hy with hy | rfl
   ·exact h2 y hy
   ·exact ⟨x, hm, rfl⟩
  ·refine ⟨_, rfl, fun a' e => ?_, fun r e => by cases e⟩
   injection e with e
   subst e
   exact ⟨by omega, h2⟩) (fun a ⟨h1, h2⟩ => ⟨by simpa using h1, h2⟩) ⟨by simp, by simp⟩
 rw [h1]
 exact ⟨_, rfl, h2⟩
def B3 (c : aw) (p : ByteArray) : Bool := (jV c p).getD false
theorem xG (c : aw) (p : ByteArray) (h : SzC c) : jV c p = some (B3 c p) := by
 have : ∃ r, jV c p = some r := by
  unfold jV
  obtain ⟨r, hr, _⟩ := tc c p h
  simp only [mL c p h, zb, hr, dH]
  exact ⟨_, rfl⟩
 obtain ⟨r, hr⟩ := this
 unfold B3
 rw [hr]
 rfl
def id' {α : Type} (x : α) : α := x
theorem yC {α : Type} (l : List α) : l.map id' = l := List.map_id l
def LN (a : aq) : Bool := a.cw == 1 || a.cw == 2
theorem ec (a : aq) : cX a = some (LN a) := by unfold cX LN; simp only [orB, zb]
theorem NL (n : Int) : vb n = some (decide (n ≥ 1) && decide (n ≤ 1073741824)) := by unfold vb; simp only [dH, zb]
theorem Ad (a : aq) : pa a = some [⟨0, 0, a.bB, 1, -1, -1, 0⟩] := rfl
theorem Ib {α β : Type} (p : α → Bool) (l : List α) (z : α) (d : β) : (match (match l.find? p with | some q => (Sum.inr (q, true) : β ⊕ (α × Bool)) | none => .inl d) with | .inr m => some m | .inl _ => some (z, false)) = some ((l.find? p).getD z, l.any p) := by
 cases hf : l.find? p with
 | none =>
  have : l.any p = false := by
   rw [List.any_eq_false]; intro x hx; have := List.find?_eq_none.1 hf x hx; simpa using this
  rw [this]; rfl
 | some q =>
  have : l.any p = true := by rw [List.any_eq_true]; exact ⟨q, List.mem_of_find?_eq_some hf, List.find?_some hf⟩
  rw [this]; rfl
def bQ (s : aa) (id : Int) : aq := (s.ai.find? fun c => c.fId == id).getD aq.zero
def wB (s : aa) (id : Int) : Bool := s.ai.any fun c => c.fId == id
theorem kA {α τ : Type} (p : α → Bool) (q : α → τ) (d : τ) (l : List α) : bk (fun (_ : Unit) x => if p x = true then some (.inr (q x)) else some (.inl ())) (fun _ => d) () l = some (match l.find? p with | some x => q x | none => d) := by
 rw [sC]
 cases l.find? p <;> rfl
theorem dy (s : aa) (id : Int) (hl : s.ai.length ≤ 1000000) : dV s id = some (bQ s id, wB s id) := by
 unfold dV bQ wB
 dsimp only
 rw [Ai s id () hl, show jE s id = fun (_ : Unit) x => if (x.fId == id) = true then some (.inr (.inr (x, true))) else some (.inl ()) from rfl,
  kA (fun x : aq => x.fId == id) (fun x => (Sum.inr (x, true) : Int ⊕ aq × Bool)) (.inl (s.ai.length : Int)) s.ai]
 simp only [zb]
 have h2 := Ib (fun x : aq => x.fId == id) s.ai aq.zero (s.ai.length : Int)
 revert h2
 cases s.ai.find? fun x => x.fId == id <;> exact fun h => h
def mf (s : aa) (id : Int) : am := (s.ac.find? fun c => c.fId == id).getD am.zero
def LZ (s : aa) (id : Int) : Bool := s.ac.any fun c => c.fId == id
theorem kH (s : aa) (id : Int) (hl : s.ac.length ≤ 1000000) : eL s id = some (mf s id, LZ s id) := by
 unfold eL mf LZ
 dsimp only
 rw [Aj s id () hl, show jF s id = fun (_ : Unit) x => if (x.fId == id) = true then some (.inr (.inr (x, true))) else some (.inl ()) from rfl,
  kA (fun x : am => x.fId == id) (fun x => (Sum.inr (x, true) : Int ⊕ am × Bool)) (.inl (s.ac.length : Int)) s.ac]
 simp only [zb]
 have h2 := Ib (fun x : am => x.fId == id) s.ac am.zero (s.ac.length : Int)
 revert h2
 cases s.ac.find? fun x => x.fId == id <;> exact fun h => h
theorem jf (s : aa) (n : aq) (hl : s.ai.length + 1 ≤ 1000000) : eb s n = some { s with ai := cM aq.fId s.ai n } := by
 unfold eb
 have hl' : s.ai.length ≤ 1000000 := by omega
 have h := xl s.ai (fun x => decide (x.fId < n.fId)) (f := nq s n) (an hl')
  (fun k x hx => by
   have hk := (zg.1 hx).1
   unfold nq
   simp only [bJ hx, if_true, aC hx, zb, a6 hk hl'])
  (by unfold nq; simp only [bz]; rfl)
 unfold cM
 have hK := oD (fun x : aq => decide (x.fId < n.fId)) s.ai
 generalize (s.ai.takeWhile fun x => decide (x.fId < n.fId)).length = K at h hK ⊢
 dsimp only
 rw [h]
 simp only [zb]
 rw [nZ hK]
 simp only [zb]
 rw [aD (by simp; omega)]
 simp only [zb]
 rw [aD (by simp; omega)]
 simp only [zb]
 by_cases hlt : K < s.ai.length
 ·have hx : s.ai[K]? = some s.ai[K] := zq hlt
  simp only [bJ hx, if_true, aC hx, zb, hx]
  cases he : (s.ai[K].fId == n.fId) with
  | true =>
   simp only [if_true, zb, a6 hlt hl']
   rw [ko hlt]
   simp only [zb]
   rw [aD (by simp; omega)]
   simp
  | false =>
   simp only [zf, if_false, zb]
   rw [ko hK]
   simp only [zb]
   rw [aD (by simp; omega)]
   simp
 ·have : K = s.ai.length := by omega
  subst this
  simp only [bz, zf, if_false, zb]
  rw [ko (Nat.le_refl _)]
  simp only [zb]
  rw [aD (by simp; omega)]
  simp
theorem Cw (s : aa) (id : Int) (hl : s.ac.length ≤ 1000000) : qa s id = some { s with ac := s.ac.filter fun c => c.fId != id } := by
 unfold qa
 dsimp only
 have e : gG s id = fun acc x => if (x.fId != id) = true then (aU acc [id' x]).map (fun a => (.inl a : List am ⊕ (List am × Int))) else some (.inl acc) := by
  funext acc x
  unfold gG
  dsimp only [id']
  split
  ·cases aU acc [x] <;> rfl
  ·rfl
 rw [Al s id [] hl, e, cr (fun c : am => c.fId != id) id' _ s.ac [] (by simpa using hl)]
 simp only [zb, List.nil_append, yC]
theorem ve (l : List Int) (n : Int) (hl : l.length ≤ 1000000) : je l n = some (l.filter (fun c => c != n), decide (((l.filter (fun c => c != n)).length : Int) < (l.length : Int))) := by
 unfold je
 dsimp only
 have e : dU l n = fun acc x => if (x != n) = true then (aU acc [id' x]).map (fun a => (.inl a : List Int ⊕ (List Int × Int))) else some (.inl acc) := by
  funext acc x
  unfold dU
  dsimp only [id']
  split
  ·cases aU acc [x] <;> rfl
  ·rfl
 rw [vd l n [] hl, e, cr (fun c : Int => c != n) id' _ l [] (by simpa using hl)]
 simp only [zb, List.nil_append, yC]
theorem wK (s : aa) (hl : s.ai.length ≤ 1000000) : p9 s = some ((s.ai.filter fun b => b.cw == 2 && decide (i64.wrap (s.bW - b.bL) ≥ 15)).map aq.fId) := by
 unfold p9
 dsimp only
 have e : eJ s = fun acc x => if (x.cw == 2 && decide (i64.wrap (s.bW - x.bL) ≥ 15)) = true then (aU acc [x.fId]).map (fun a => (.inl a : List Int ⊕ (List Int × Int))) else some (.inl acc) := by
  funext acc x
  unfold eJ
  simp only [dH, zb]
  split
  ·cases aU acc [x.fId] <;> rfl
  ·rfl
 rw [wn s [] hl, e, cr (fun x : aq => x.cw == 2 && decide (i64.wrap (s.bW - x.bL) ≥ 15)) aq.fId _ s.ai [] (by simpa using hl)]
 simp
theorem Cu (s : aa) (id : Int) (hl : s.ac.length ≤ 1000000) (hs : s.aQ.length ≤ 1000000) : sk s id = some ({ s with ac := s.ac.filter fun c => !(c.bC == id), aQ := s.aQ.filter fun c => c.bC != id }, (s.ac.filter fun c => c.bC == id).map am.fId) := by
 unfold sk
 dsimp only
 have e2 : gB s id = fun acc x => if (x.bC != id) = true then (aU acc [id' x]).map (fun a => (.inl a : List bt ⊕ (List bt × Int))) else some (.inl acc) := by
  funext acc x
  unfold gB
  dsimp only [id']
  split
  ·cases aU acc [x] <;> rfl
  ·rfl
 have k1 : ∀ (l : List am) (a : List Int × List am), a.1.length + a.2.length + l.length ≤ 1000000 → bk (gD s id) (fun b => (b.1, b.2, (s.ac.length : Int))) a l = some (a.1 ++ (l.filter fun c => c.bC == id).map am.fId, a.2 ++ (l.filter fun c => !(c.bC == id)), (s.ac.length : Int)) := by
  intro l
  induction l with
  | nil => intro a _; simp [bk]
  | cons x l ih =>
   intro a h
   simp only [List.length_cons] at h
   have step : gD s id a x = if (x.bC == id) = true then (aU a.1 [x.fId]).bind fun b => some (.inl (b, a.2)) else (aU a.2 [x]).bind fun b => some (.inl (a.1, b)) := rfl
   simp only [bk, List.filter_cons, step]
   cases (x.bC == id) with
   | true =>
    simp only [if_true]
    rw [aD (by simp; omega)]
    simp only [zb]
    rw [ih _ (by simp; omega)]
    simp
   | false =>
    simp only [zf, if_false]
    rw [aD (by simp; omega)]
    simp only [zb]
    rw [ih _ (by simp; omega)]
    simp
 rw [Ab s id ([], []) hl, k1 _ _ (by simpa using hl)]
 simp only [zb]
 rw [Aa s id [] hs, e2, cr (fun c : bt => c.bC != id) id' _ s.aQ [] (by simpa using hs)]
 simp only [zb, List.nil_append, yC]
def f7 (v_s : aa) (af : Int) (st : ax) (x_ : aX) : Option ((ax) ⊕ ((ax × Int))) :=
 let v_v := st
 (if x_.fUp = true then some (x_.aY == af) else some false).bind fun q6 => if q6 = true then
 (dc v_v x_.kJ).bind fun c7 => let v_v : ax := c7
 some (.inl v_v)
 else
 some (.inl v_v)
theorem y5 (v_s : aa) (af : Int) (a_ : ax) (hl : v_s.aB.length ≤ 1000000) : ah (ln v_s af) ab (a_, (0)) = bk (f7 v_s af) (fun a_ => (a_, ((v_s.aB.length : Int)))) a_ v_s.aB :=
 ay v_s.aB (S := ax × Int) (fun a_ k_ => (a_, (k_))) (f7 v_s af) (fun a_ => (a_, ((v_s.aB.length : Int)))) (an hl) (fun k a x hx => by
  unfold ln f7; exact bH)
  (fun a => by unfold ln; exact cF) a_
def hJ (v_s : aa) (af : Int) (st : ax) (x_ : a7) : Option ((ax) ⊕ ((ax × Int))) :=
 let v_v := st
 let v_p : a7 := x_
 (if (v_p.aY == af) = true then some (decide (v_p.nG ≤ v_s.bW)) else some false).bind fun q5 => (if q5 = true then some (decide (v_s.bW < v_p.jJ)) else some false).bind fun q6 => if q6 = true then
 (dc v_v v_p.iH).bind fun c7 => let v_v : ax := c7
 some (.inl v_v)
 else
 some (.inl v_v)
theorem Bt (v_s : aa) (af : Int) (a_ : ax) (hl : v_s.bg.length ≤ 1000000) : ah (nf v_s af) ab (a_, (0)) = bk (hJ v_s af) (fun a_ => (a_, ((v_s.bg.length : Int)))) a_ v_s.bg :=
 ay v_s.bg (S := ax × Int) (fun a_ k_ => (a_, (k_))) (hJ v_s af) (fun a_ => (a_, ((v_s.bg.length : Int)))) (an hl) (fun k a x hx => by
  unfold nf hJ; exact bH)
  (fun a => by unfold nf; exact cF) a_
def uM (s : aa) (k : Int) : ax := (iY s k).getD ax.zero
theorem nK (s : aa) (k : Int) (hl : s.aB.length ≤ 1000000) : iY s k = some (uM s k) := by
 have : ∃ r, iY s k = some r := by
  unfold iY
  dsimp only
  rw [y5 s k ⟨0, 0⟩ hl]
  obtain ⟨r, h1, _⟩ := aR (g := f7 s k) (fin := fun a => (a, (s.aB.length : Int))) (fun _ _ => True) (fun _ => True) s.aB 0 ⟨0, 0⟩ (fun j a x hx _ => by
   unfold f7
   simp only [eu, dH, zb, sy]
   exact ⟨_, rfl, fun _ _ => trivial, fun _ _ => trivial⟩) (fun _ _ => trivial) trivial
  rw [h1]
  exact ⟨_, rfl⟩
 obtain ⟨r, hr⟩ := this
 unfold uM
 rw [hr]; rfl
def W8 (s : aa) (k : Int) : ax := (tb s k).getD ax.zero
theorem Pw (s : aa) (k : Int) (hl : s.bg.length ≤ 1000000) : tb s k = some (W8 s k) := by
 have : ∃ r, tb s k = some r := by
  unfold tb
  dsimp only
  rw [Bt s k ⟨0, 0⟩ hl]
  obtain ⟨r, h1, _⟩ := aR (g := hJ s k) (fin := fun a => (a, (s.bg.length : Int))) (fun _ _ => True) (fun _ => True) s.bg 0 ⟨0, 0⟩ (fun j a x hx _ => by
   unfold hJ
   simp only [eu, dH, zb, sy]
   exact ⟨_, rfl, fun _ _ => trivial, fun _ _ => trivial⟩) (fun _ _ => trivial) trivial
  rw [h1]
  exact ⟨_, rfl⟩
 obtain ⟨r, hr⟩ := this
 unfold W8
 rw [hr]; rfl
def eT (p : ByteArray) : ByteArray := (dQ p).getD ⟨#[]⟩
def dv : Nat → ByteArray → Nat
 | 0, _ => 0
 | n + 1, p => if p.size = 0 then 0 else dv n (eT p) + 1
structure Deep (c : aw) : Prop where
 few : c.ae.length ≤ 16
 deep : ∀ q ∈ c.ae, dv 6 q.aF ≤ 4
structure Au (c : aw) : Prop where
 sz : SzC c
 each : ∀ q ∈ c.ae, q.bl.length = c.ak.length
 up : ∀ q ∈ c.ae, ∀ r, y6 q.aF = some r → ∀ x ∈ r, isQ c x = true
 deep : Deep c
 lab1 : 1 ≤ c.ak.length
 leaf : ∃ q ∈ c.ae, B3 c q.aF = true
 lsz : ∀ x ∈ c.ak, x.size ≤ 1000000
theorem yJ {c : aw} {p : ByteArray} (h : isQ c p = true) : EI c p ∈ c.ae ∧ ((EI c p).aF.toList == p.toList) = true := by
 unfold isQ at h
 unfold EI
 cases hf : c.ae.find? fun q => q.aF.toList == p.toList with
 | none =>
  rw [List.any_eq_true] at h
  obtain ⟨q, hq, h2⟩ := h
  have := List.find?_eq_none.1 hf q hq
  exact absurd h2 (by simpa using this)
 | some q => exact ⟨List.mem_of_find?_eq_some hf, by simpa using List.find?_some hf⟩
theorem rQ {a b : ByteArray} (h : (a.toList == b.toList) = true) : a = b := by
 have h : a.toList = b.toList := by simpa using h
 rw [ByteArray.toList_eq, ByteArray.toList_eq] at h
 cases a; cases b
 simp only at h
 congr 1
 exact Array.ext' h
theorem JI {α : Type} {l : List α} {i : Int} (h0 : 0 ≤ i) (h1 : i < (l.length : Int)) : ∃ x, av l i = some x ∧ x ∈ l := by
 unfold av
 rw [if_pos h0]
 have : i.toNat < l.length := by omega
 exact ⟨l[i.toNat], zq this, List.getElem_mem this⟩
theorem FJ (s : aa) (p : ByteArray) (k : Int) (b : Bool) (hf : Au s.bN) (hn : s.aB.length ≤ 1000000) : ∃ r, ta s p k b = some r := by
 unfold ta
 simp only [mL _ _ hf.sz, zb, orB, nK s k hn]
 cases hc : (!isQ s.bN p || decide (k < 0) || decide (k ≥ (s.bN.ak.length : Int))) with
 | true => exact ⟨_, rfl⟩
 | false =>
  simp only [Bool.or_eq_false_iff, Bool.not_eq_false', decide_eq_false_iff_not] at hc
  obtain ⟨⟨hq, hk0⟩, hk1⟩ := hc
  obtain ⟨hm, hp⟩ := yJ hq
  have hpe := rQ hp
  have hps : p.size ≤ 1000000 := by rw [← hpe]; exact hf.sz.paths _ hm
  obtain ⟨up, hup, hul, _⟩ := FM p hps
  have hall := hf.up _ hm up (by rw [hpe]; exact hup)
  simp only [zf, if_false, hup, zb]
  have hw : ∀ i : Int, -1 ≤ i → i ≤ 1000000 → i64.wrap (i - 1) = i - 1 := fun i h1 h2 => Hj (by omega) (by omega)
  have hw2 : i64.wrap ((up.length : Int) - 2) = (up.length : Int) - 2 := Hj (by omega) (by omega)
  have h := aM (f := qQ s up k b) (fun st => -2 ≤ st.2 ∧ st.2 < (up.length : Int)) (fun st => (st.2 + 1).toNat) (fun _ => True) (fun st ⟨h1, h2⟩ => by
   unfold qQ
   dsimp only
   by_cases hi : st.2 ≥ 0
   ·obtain ⟨x, hx, hxm⟩ := JI (l := up) hi h2
    have hxq := hall x hxm
    have hcap := hf.each _ (yJ hxq).1
    obtain ⟨c, hc, _⟩ := JI (l := (EI s.bN x).bl) (i := k) (by omega) (by rw [hcap]; omega)
    simp only [hi, decide_true, if_true, hx, zb, mL _ _ hf.sz, hc, Ck, sy, hw st.2 (by omega) (by omega)]
    exact .inl ⟨_, rfl, ⟨by show -2 ≤ st.2 - 1; omega, by show st.2 - 1 < _; omega⟩, by show (st.2 - 1 + 1).toNat < (st.2 + 1).toNat; omega⟩
   ·simp only [hi, decide_false, zf, if_false]
    exact .inr ⟨_, rfl, trivial⟩) ab (uM s k, i64.wrap ((up.length : Int) - 2)) ⟨by show -2 ≤ i64.wrap ((up.length : Int) - 2); rw [hw2]; omega, by show i64.wrap ((up.length : Int) - 2) < _; rw [hw2]; omega⟩ (by show (i64.wrap ((up.length : Int) - 2) + 1).toNat < ab; rw [hw2]; unfold ab; omega)
  obtain ⟨r, h1, _⟩ := h
  rw [h1]
  exact ⟨_, rfl⟩
def BH (s : aa) (p : ByteArray) (k : Int) : ax := (ta s p k true).getD ax.zero
def W4 (s : aa) (p : ByteArray) (k : Int) : ax := (ta s p k false).getD ax.zero
theorem nL (s : aa) (p : ByteArray) (k : Int) (hf : Au s.bN) (hn : s.aB.length ≤ 1000000) : lq s p k = some (BH s p k) := by
 obtain ⟨r, hr⟩ := FJ s p k true hf hn
 unfold lq BH
 rw [hr]; rfl
theorem FK (s : aa) (p : ByteArray) (k : Int) (hf : Au s.bN) (hn : s.aB.length ≤ 1000000) : vG s p k = some (W4 s p k) := by
 obtain ⟨r, hr⟩ := FJ s p k false hf hn
 unfold vG W4
 rw [hr]; rfl
def YV (s : aa) (p : ByteArray) (k : Int) : ax := if isQ s.bN p = true then (Ph (BH s p k) (EI s.bN p).cW).1 else ax.zero
theorem Pu (s : aa) (p : ByteArray) (k : Int) (hf : Au s.bN) (hn : s.aB.length ≤ 1000000) : DB s p k = some (YV s p k) := by
 unfold DB YV
 simp only [mL _ _ hf.sz, zb, nL s p k hf hn, Ck]
 cases isQ s.bN p <;> rfl
def hH (v_s : aa) (bA : Int) (st : ax) (x_ : am) : Option ((ax) ⊕ ((ax × Int))) :=
 let v_v := st
 if (x_.bG == bA) = true then
 (dc v_v x_.cC).bind fun c4 => let v_v : ax := c4
 some (.inl v_v)
 else
 some (.inl v_v)
theorem Bs (v_s : aa) (bA : Int) (a_ : ax) (hl : v_s.ac.length ≤ 1000000) : ah (mZ v_s bA) ab (a_, (0)) = bk (hH v_s bA) (fun a_ => (a_, ((v_s.ac.length : Int)))) a_ v_s.ac :=
 ay v_s.ac (S := ax × Int) (fun a_ k_ => (a_, (k_))) (hH v_s bA) (fun a_ => (a_, ((v_s.ac.length : Int)))) (an hl) (fun k a x hx => by
  unfold mZ hH; exact bH)
  (fun a => by unfold mZ; exact cF) a_
theorem Pq (s : aa) (id : Int) (hl : s.aB.length ≤ 1000000) : nc s id = some (((s.aB.find? fun c => c.fId == id).map fun c => (c, true)).getD (aX.zero, false)) := by
 unfold nc
 have h := ay (S := Int) s.aB (fun (_ : Unit) k => k) (f := na s id) (fun _ x => if (x.fId == id) = true then some (.inr (.inr (x, true))) else some (.inl ())) (fun _ => .inl (s.aB.length : Int)) (an hl)
  (fun k a x hx => by
   have hk := (zg.1 hx).1
   unfold na
   simp only [bJ hx, if_true, aC hx, zb]
   split
   ·rfl
   ·simp only [a6 hk hl, Option.map_some])
  (fun a => by unfold na; simp only [bz]; rfl) ()
 dsimp only
 have h2 := sC (fun x : aX => x.fId == id) (fun x => (Sum.inr (x, true) : Int ⊕ aX × Bool)) (.inl (s.aB.length : Int)) s.aB
 rw [h, h2]
 cases List.find? (fun c => c.fId == id) s.aB <;> rfl
theorem Bq (s : aa) (n : aX) (hl : s.aB.length + 1 ≤ 1000000) : Br s n = some { s with aB := cM aX.fId s.aB n } := by
 unfold Br
 have hl' : s.aB.length ≤ 1000000 := by omega
 have h := xl s.aB (fun x => decide (x.fId < n.fId)) (f := oQ s n) (an hl')
  (fun k x hx => by
   have hk := (zg.1 hx).1
   unfold oQ
   simp only [bJ hx, if_true, aC hx, zb, a6 hk hl'])
  (by unfold oQ; simp only [bz]; rfl)
 unfold cM
 have hK := oD (fun x : aX => decide (x.fId < n.fId)) s.aB
 generalize (s.aB.takeWhile fun x => decide (x.fId < n.fId)).length = K at h hK ⊢
 dsimp only
 rw [h]
 simp only [zb]
 rw [nZ hK]
 simp only [zb]
 rw [aD (by simp; omega)]
 simp only [zb]
 rw [aD (by simp; omega)]
 simp only [zb]
 by_cases hlt : K < s.aB.length
 ·have hx : s.aB[K]? = some s.aB[K] := zq hlt
  simp only [bJ hx, if_true, aC hx, zb, hx]
  cases he : (s.aB[K].fId == n.fId) with
  | true =>
   simp only [if_true, zb, a6 hlt hl']
   rw [ko hlt]
   simp only [zb]
   rw [aD (by simp; omega)]
   simp
  | false =>
   simp only [zf, if_false, zb]
   rw [ko hK]
   simp only [zb]
   rw [aD (by simp; omega)]
   simp
 ·have : K = s.aB.length := by omega
  subst this
  simp only [bz, zf, if_false, zb]
  rw [ko (Nat.le_refl _)]
  simp only [zb]
  rw [aD (by simp; omega)]
  simp
theorem Po (n : Int) : yX n = some (decide (n ≥ 0) && decide (n ≤ 1073741824)) := by
 unfold yX
 simp only [dH, zb]
def sN (s : aa) (id : Int) : Bool := s.aB.any fun c => c.fId == id
def eP (s : aa) (id : Int) : aX := (s.aB.find? fun c => c.fId == id).getD aX.zero
theorem mJ (s : aa) (id : Int) (hl : s.aB.length ≤ 1000000) : nc s id = some (eP s id, sN s id) := by
 rw [Pq s id hl]
 unfold eP sN
 cases h : s.aB.find? fun c => c.fId == id with
 | none =>
  have : (s.aB.any fun c => c.fId == id) = false := by
   rw [List.any_eq_false]; intro x hx; have := List.find?_eq_none.1 h x hx; simpa using this
  rw [this]; rfl
 | some c =>
  have : (s.aB.any fun c => c.fId == id) = true := by
   rw [List.any_eq_true]; exact ⟨c, List.mem_of_find?_eq_some h, by simpa using List.find?_some h⟩
  rw [this]; rfl
def ZQ (s : aa) (n : aX) : Bool := !(decide (n.fId < 0) || decide (n.fId > 999) || decide (n.aY < 0) || decide (n.aY ≥ (s.bN.ak.length : Int)) || decide (n.eR < 0) || decide (n.eR > 99) || !(decide (n.kJ.bD ≥ 0) && decide (n.kJ.bD ≤ 1073741824)) || !(decide (n.kJ.bj ≥ 0) && decide (n.kJ.bj ≤ 1073741824)))
def XC (s : aa) (n : aX) : aa × Int :=
 if ZQ s n = false then (s, 1)
 else if (sN s n.fId && (eP s n.fId).fUp) = true then (s, 7)
 else if (!sN s n.fId && decide ((s.aB.length : Int) ≥ 12)) = true then (s, 4)
 else ({ s with aB := cM aX.fId s.aB ⟨n.fId, n.aY, n.eR, n.kJ, s.bW, 0, true⟩ }, 0)
theorem FH (s : aa) (n : aX) (hl : s.aB.length + 1 ≤ 1000000) : qG s n = some (XC s n) := by
 unfold qG XC
 simp only [Po, orB, zb, mJ s n.fId (by omega), Bq s _ hl, dH]
 unfold ZQ
 generalize (decide (n.fId < 0) || decide (n.fId > 999) || decide (n.aY < 0) || decide (n.aY ≥ (s.bN.ak.length : Int)) || decide (n.eR < 0) || decide (n.eR > 99) || !(decide (n.kJ.bD ≥ 0) && decide (n.kJ.bD ≤ 1073741824)) || !(decide (n.kJ.bj ≥ 0) && decide (n.kJ.bj ≤ 1073741824))) = b1
 generalize (sN s n.fId && (eP s n.fId).fUp) = b2
 generalize (!sN s n.fId && decide ((s.aB.length : Int) ≥ 12)) = b3
 cases b1 <;> cases b2 <;> cases b3 <;> rfl
theorem Kn (s : aa) (hl : s.aB.length ≤ 1000000) : vF s = some ((s.aB.filter fun b => b.fUp && decide (i64.wrap (s.bW - b.bL) ≥ 10)).map aX.fId) := by
 unfold vF
 have h := ay (S := List Int × Int) s.aB (fun a k => (a, k)) (f := jU s) (fun acc x => if (x.fUp && decide (i64.wrap (s.bW - x.bL) ≥ 10)) = true then (aU acc [x.fId]).map (fun a => (.inl a : List Int ⊕ (List Int × Int))) else some (.inl acc)) (fun a => (a, (s.aB.length : Int))) (an hl)
  (fun k a x hx => by
   have hk := (zg.1 hx).1
   unfold jU
   simp only [bJ hx, if_true, aC hx, zb, dH, a6 hk hl]
   split
   ·cases aU a [x.fId] <;> rfl
   ·rfl)
  (fun a => by unfold jU; simp only [bz]; rfl) []
 rw [cr (fun b : aX => b.fUp && decide (i64.wrap (s.bW - b.bL) ≥ 10)) aX.fId (fun a => (a, (s.aB.length : Int))) s.aB [] (by simpa using hl)] at h
 dsimp only
 rw [h]
 rfl
def ML (s : aa) (id b : Int) : aa × Int :=
 if sN s id = false then (s, 2)
 else if (eP s id).fUp = false then (s, 18)
 else if decide (b < 0) = true then (s, 15)
 else if decide (b < (eP s id).ce) = true then (s, 15)
 else if decide (i64.wrap (b - (eP s id).ce) > 1) = true then (s, 1)
 else ({ s with aB := cM aX.fId s.aB { eP s id with bL := s.bW, ce := b } }, 0)
theorem Pt (s : aa) (id b : Int) (hl : s.aB.length + 1 ≤ 1000000) : DA s id b = some (ML s id b) := by
 unfold DA ML
 simp only [mJ s id (by omega), zb, Bq s _ hl]
 generalize sN s id = b1
 generalize (eP s id).fUp = b2
 generalize decide (b < 0) = b3
 generalize decide (b < (eP s id).ce) = b4
 generalize decide (i64.wrap (b - (eP s id).ce) > 1) = b5
 cases b1 <;> cases b2 <;> cases b3 <;> cases b4 <;> cases b5 <;> rfl
def RX (s : aa) (id : Int) : aa := if sN s id = true then { s with aB := cM aX.fId s.aB { eP s id with fUp := false } } else s
theorem Pr (s : aa) (id : Int) (hl : s.aB.length + 1 ≤ 1000000) : yZ s id = some (RX s id) := by
 unfold yZ RX
 simp only [mJ s id (by omega), zb, Bq s _ hl]
 generalize sN s id = b1
 cases b1 <;> rfl
def YH (s : aa) (id : Int) : ax := s.ac.foldl (fun v c => if (c.bG == id) = true then TB v c.cC else v) ax.zero
theorem Pp (s : aa) (id : Int) (hl : s.ac.length ≤ 1000000) : Dy s id = some (YH s id) := by
 unfold Dy
 dsimp only
 rw [Bs s id ⟨0, 0⟩ hl]
 have : hH s id = fun v c => some (.inl (if (c.bG == id) = true then TB v c.cC else v)) := by
  funext v c
  unfold hH
  simp only [eu, zb]
  cases (c.bG == id) <;> rfl
 rw [this, w9 (fun (v : ax) (c : am) => if (c.bG == id) = true then TB v c.cC else v)]
 rfl
def YO (s : aa) (id : Int) : ax := if (!sN s id || !(eP s id).fUp) = true then ax.zero else VH (eP s id).kJ (YH s id)
theorem FI (s : aa) (id : Int) (hl : s.aB.length ≤ 1000000) (hc : s.ac.length ≤ 1000000) : yY s id = some (YO s id) := by
 unfold yY YO
 simp only [mJ s id hl, zb, orB, Pp s id hc, FT]
 generalize (!sN s id || !(eP s id).fUp) = b1
 cases b1 <;> rfl
theorem xd {α : Type} (key : α → Int) (l : List α) (a : α) : (cM key l a).length ≤ l.length + 1 := by
 unfold cM
 have h := oD (fun x => decide (key x < key a)) l
 generalize (l.takeWhile fun x => decide (key x < key a)).length = K at h ⊢
 simp only [List.length_append, List.length_take, List.length_cons, List.length_drop]
 split
 ·split <;> omega
 ·omega
def jK {α : Type} (key : α → Int) (l : List α) : Prop := l.Pairwise fun x y => key x < key y
structure SzA (B : Nat) (a : aq) : Prop where
 queue : a.bF.size ≤ 1000000 ∧ 0 ≤ a.bL ∧ a.bL ≤ 1000000000
 asks : a.bE.length ≤ B
 grants : a.bM.length ≤ B
 kills : a.dj.length ≤ B
 told : a.jH.length ≤ B
 lost : a.jP.length ≤ B
def aaD (s : aa) : Prop := (0 ≤ s.bW ∧ s.bW ≤ 1000000000) ∧ ∀ n ∈ s.aB, (0 ≤ n.bL ∧ n.bL ≤ 1000000000) ∧ 0 ≤ n.ce
structure SzS (B : Nat) (s : aa) : Prop where
 conf : Au s.bN
 nodes : s.aB.length ≤ B ∧ jK aX.fId s.aB ∧ aaD s
 apps : s.ai.length ≤ B
 conts : s.ac.length ≤ B
 slots : s.aQ.length ≤ B
 plans : s.bg.length ≤ B
 app : ∀ a ∈ s.ai, SzA B a
theorem SzA.mono {B C : Nat} {a : aq} (h : SzA B a) (hc : B ≤ C) : SzA C a := ⟨h.queue, Nat.le_trans h.asks hc, Nat.le_trans h.grants hc, Nat.le_trans h.kills hc, Nat.le_trans h.told hc, Nat.le_trans h.lost hc⟩
theorem SzS.mono {B C : Nat} {s : aa} (h : SzS B s) (hc : B ≤ C) : SzS C s := ⟨h.conf, ⟨Nat.le_trans h.nodes.1 hc, h.nodes.2⟩, Nat.le_trans h.apps hc, Nat.le_trans h.conts hc, Nat.le_trans h.slots hc, Nat.le_trans h.plans hc, fun a ha => (h.app a ha).mono hc⟩
theorem SzA.zero (B : Nat) : SzA B aq.zero := ⟨⟨Nat.zero_le _, Int.le_refl _, by decide⟩, Nat.zero_le _, Nat.zero_le _, Nat.zero_le _, Nat.zero_le _, Nat.zero_le _⟩
theorem SzS.get {B : Nat} {s : aa} (h : SzS B s) (id : Int) : SzA B (bQ s id) := by
 unfold bQ
 cases hf : s.ai.find? fun c => c.fId == id with
 | none => exact SzA.zero B
 | some a => exact h.app a (List.mem_of_find?_eq_some hf)
theorem mB {α : Type} {key : α → Int} {l : List α} {a x : α} (h : x ∈ cM key l a) : x = a ∨ x ∈ l := by
 unfold cM at h
 simp only [List.mem_append, List.mem_cons] at h
 rcases h with h | h | h
 ·exact .inr (List.mem_of_mem_take h)
 ·exact .inl h
 ·exact .inr (List.mem_of_mem_drop h)
theorem SzS.put {B : Nat} {s : aa} (h : SzS B s) {a : aq} (ha : SzA (B + 1) a) : SzS (B + 1) { s with ai := cM aq.fId s.ai a } :=
 ⟨h.conf, ⟨Nat.le_trans h.nodes.1 (Nat.le_succ _), h.nodes.2⟩, Nat.le_trans (xd _ _ _) (Nat.succ_le_succ h.apps), Nat.le_trans h.conts (Nat.le_succ _), Nat.le_trans h.slots (Nat.le_succ _), Nat.le_trans h.plans (Nat.le_succ _), fun x hx => by
  rcases mB hx with rfl | hx
  ·exact ha
  ·exact (h.app x hx).mono (Nat.le_succ _)⟩
theorem SzS.fewer {B : Nat} {s : aa} (h : SzS B s) {c : List am} {l : List bt} (hc : c.length ≤ s.ac.length) (hl : l.length ≤ s.aQ.length) : SzS B { s with ac := c, aQ := l } := ⟨h.conf, h.nodes, h.apps, Nat.le_trans hc h.conts, Nat.le_trans hl h.slots, h.plans, h.app⟩
theorem zY (a p : ByteArray) (ha : a.size ≤ 1000000) : ∃ r, mQ a p = some r := by
 obtain ⟨u, h1, h2, h3⟩ := FM a ha
 unfold mQ
 rw [h1]
 dsimp only [zb]
 rw [xQ u p () (by omega), show iJ u p = fun (_ : Unit) x => if (x.toList == p.toList) = true then some (.inr (.inr true)) else some (.inl ()) from rfl,
  kA (fun x : ByteArray => x.toList == p.toList) (fun _ => (Sum.inr true : Int ⊕ Bool)) (.inl (u.length : Int)) u]
 simp only [zb]
 cases u.find? fun x => x.toList == p.toList <;> exact ⟨_, rfl⟩
theorem Cr {B : Nat} {s : aa} (h : SzS B s) (hB : B ≤ 1000000) (p : ByteArray) (k : Int) (all : Bool) (u : Int) : ∃ r, u6 s p k all u = some r := by
 have h1 := h.apps; have h2 := h.conts
 unfold u6
 dsimp only
 rw [zX s k p all u _ (by omega)]
 obtain ⟨r, e1, _⟩ := aR (g := gz s k p all u) (fin := fun b => (b, (s.ac.length : Int))) (fun _ _ => True) (fun _ => True) s.ac 0 (⟨0, 0⟩ : ax) (fun j t x hx _ => by
  obtain ⟨b, hb⟩ := zY (bQ s x.bC).bF p (h.get x.bC).queue.1
  unfold gz
  simp only [dy s x.bC (by omega), zb, dH, hb, eu]
  cases wB s x.bC <;> cases (x.aY == k) <;> cases b <;> cases all <;> cases ((bQ s x.bC).cW == u) <;> exact ⟨_, rfl, fun _ _ => trivial, fun _ _ => trivial⟩) (fun _ _ => trivial) trivial
 rw [e1]
 exact ⟨_, rfl⟩
theorem fp {B : Nat} {s : aa} (h : SzS B s) (hB : B ≤ 1000000) (p : ByteArray) (k : Int) : ∃ r, eG s p k = some r := by
 obtain ⟨r, e⟩ := Cr h hB p k true 0
 exact ⟨r, by unfold eG; rw [e]; rfl⟩
theorem CQ {B : Nat} {s : aa} (h : SzS B s) (hB : B ≤ 1000000) (p : ByteArray) (k u : Int) : ∃ r, oV s p k u = some r := by
 obtain ⟨r, e⟩ := Cr h hB p k false u
 exact ⟨r, by unfold oV; rw [e]; rfl⟩
theorem u9 {B : Nat} {s : aa} (h : SzS B s) (hB : B ≤ 1000000) (p : ByteArray) (k : Int) : ∃ r, nR s p k = some r := by
 have h1 := h.apps
 unfold nR
 dsimp only
 rw [va s k p _ (by omega)]
 obtain ⟨r, e1, _⟩ := aR (g := dS s k p) (fin := fun b => (b, (s.ai.length : Int))) (fun _ _ => True) (fun _ => True) s.ai 0 (⟨0, 0⟩ : ax) (fun j t x hx _ => by
  have hm := h.app x (List.mem_of_getElem? hx)
  have ha := hm.asks
  obtain ⟨b, hb⟩ := zY x.bF p hm.queue.1
  unfold dS
  simp only [ec, zb, hb, G2 x.bE k (by omega), eu]
  cases LN x <;> cases b <;> exact ⟨_, rfl, fun _ _ => trivial, fun _ _ => trivial⟩) (fun _ _ => trivial) trivial
 rw [e1]
 exact ⟨_, rfl⟩
theorem Ct {B : Nat} {s : aa} (h : SzS B s) (hB : B ≤ 1000000) (p : ByteArray) (hp : p.size ≤ 1000000) (k : Int) (v : ax) : ∃ r, u7 s p k v = some r := by
 obtain ⟨u, h1, h2, h3⟩ := FM p hp
 have k1 := h.nodes.1; have k2 := h.plans
 unfold u7
 rw [h1]
 dsimp only [zb]
 rw [zZ u s k v () (by omega)]
 obtain ⟨r, e1, _⟩ := aR (g := gA u s k v) (fin := fun _ => (.inl (u.length : Int))) (fun _ _ => True) (fun _ => True) u 0 () (fun j t x hx _ => by
  obtain ⟨w, hw⟩ := fp h hB x k
  unfold gA
  simp only [hw, zb, eu, FK s x k h.conf (by omega), kx, nK s k (by omega), Pw s k (by omega), FT]
  generalize Ya (TB w v) (W4 s x k) = b1
  generalize Ya (TB w v) (VH (uM s k) (W8 s k)) = b2
  generalize (x.toList == (⟨#[114, 111, 111, 116]⟩ : ByteArray).toList) = b3
  cases b1 <;> cases b2 <;> cases b3 <;> exact ⟨_, rfl, fun _ _ => trivial, fun _ _ => trivial⟩) (fun _ _ => trivial) trivial
 rw [e1]
 simp only [zb]
 cases r <;> exact ⟨_, rfl⟩
theorem KK {B : Nat} {s : aa} (h : SzS B s) (hB : B ≤ 1000000) (a b : ByteArray) (k : Int) : ∃ r, vT s a b k = some r := by
 obtain ⟨u, hu⟩ := fp h hB a k
 obtain ⟨w, hw⟩ := fp h hB b k
 have k1 := h.nodes.1
 unfold vT
 simp only [hu, hw, nL s _ k h.conf (Nat.le_trans k1 hB), M9, zb, dH, orB]
 exact ⟨_, rfl⟩
theorem nB {α : Type} (out : List α) (hl : out.length ≤ 1000000) {f : Int → Option (Int ⊕ Int)} (h : ∀ (k : Nat) (x : α), out[k]? = some x → ∃ b, f (k : Int) = if b = true then some (.inl ((k + 1 : Nat) : Int)) else some (.inr (k : Int)))
  (hend : f (out.length : Int) = some (.inr (out.length : Int))) : ∃ K : Nat, ah f ab 0 = some (K : Int) ∧ K ≤ out.length := by
 obtain ⟨r, h1, K, h2, h3⟩ := aM (f := f) (fun st => ∃ k : Nat, st = (k : Int) ∧ k ≤ out.length) (fun st => out.length - st.toNat) (fun r => ∃ k : Nat, r = (k : Int) ∧ k ≤ out.length) (fun st ⟨k, e, hk⟩ => by
  subst e
  by_cases hlt : k < out.length
  ·obtain ⟨b, hb⟩ := h k _ (zq hlt)
   rw [hb]
   cases b with
   | true => exact .inl ⟨_, rfl, ⟨k + 1, rfl, hlt⟩, by simp only [zt]; omega⟩
   | false => exact .inr ⟨_, rfl, k, rfl, hk⟩
  ·have : k = out.length := by omega
   subst this
   exact .inr ⟨_, hend, _, rfl, Nat.le_refl _⟩) ab 0 ⟨0, rfl, Nat.zero_le _⟩ (by have := an hl; omega)
 subst h2
 exact ⟨K, h1, h3⟩
theorem mu {σ α τ : Type} {g : σ → Int → α → Option (σ ⊕ τ)} {fin : σ → τ} (I : Nat → σ → Prop) (Q : τ → Prop) : ∀ (l : List α) (k : Nat) (a : σ), (∀ (j : Nat) (a : σ) (x : α), l[j]? = some x → I (k + j) a → ∃ o, g a ((k + j : Nat) : Int) x = some o ∧ (∀ a', o = .inl a' → I (k + j + 1) a') ∧ ∀ r, o = .inr r → Q r) → (∀ a, I (k + l.length) a → Q (fin a)) → I k a → ∃ r, ny g fin a k l = some r ∧ Q r
 | [], k, a, _, hf, hI => ⟨fin a, rfl, hf a hI⟩
 | x :: l, k, a, h, hf, hI => by
  obtain ⟨o, h1, h2, h3⟩ := h 0 a x rfl hI
  simp only [Nat.add_zero] at h1
  simp only [ny, h1]
  cases o with
  | inr r => exact ⟨r, rfl, h3 r rfl⟩
  | inl a' =>
   refine mu I Q l (k + 1) a' (fun j b y hy hb => ?_) (fun b hb => hf b (by simpa [Nat.add_assoc, Nat.add_comm 1] using hb)) (h2 a' rfl)
   have := h (j + 1) b y hy (by rwa [Nat.add_right_comm] at hb)
   rwa [Nat.add_right_comm k 1 j, Nat.add_assoc k j 1]
theorem NI {B : Nat} {s : aa} (h : SzS B s) (hB : B ≤ 1000000) (p : ByteArray) (k : Int) : ∃ l r, ff s.bN p = some l ∧ zT s p k = some r ∧ r.length ≤ l.length ∧ ∀ x ∈ r, x ∈ l := by
 obtain ⟨l, h1, h2, h3⟩ := tc s.bN p h.conf.sz
 have k2 := h.conf.sz.queues
 have hl : l.length ≤ 1000 := by omega
 unfold zT
 simp only [h1]
 dsimp only [zb]
 rw [zS l s k [] (by omega)]
 obtain ⟨r, e1, e2⟩ := mu (g := gw l s k) (fin := fun b => (b, (l.length : Int))) (fun j b => b.length ≤ j ∧ ∀ x ∈ b, x ∈ l) (fun r => r.1.length ≤ l.length ∧ ∀ x ∈ r.1, x ∈ l) l 0 [] (fun j out x hx ⟨ho, hm⟩ => by
  have hj := (zg.1 hx).1
  obtain ⟨K, hK1, hK2⟩ := nB out (by omega) (f := jc out s ((0 + j : Nat) : Int) l k) (fun i y hy => by
   have hi := (zg.1 hy).1
   obtain ⟨b, hb⟩ := KK h hB x y k
   refine ⟨!b, ?_⟩
   unfold jc
   simp only [bJ hy, if_true, aC hy, aC (show l[0 + j]? = some x by rwa [Nat.zero_add]), hb, zb, a6 hi (show out.length ≤ 1000000 by omega)]) (by unfold jc; simp only [bz, zf, if_false, zb])
  unfold gw
  dsimp only
  rw [hK1]
  simp only [zb]
  rw [nZ hK2]
  simp only [zb]
  rw [aD (by simp; omega)]
  simp only [zb]
  rw [aD (by simp; omega)]
  simp only [zb]
  rw [ko hK2]
  simp only [zb]
  rw [aD (by simp; omega)]
  refine ⟨_, rfl, fun a' e => ?_, fun r e => by cases e⟩
  injection e with e
  subst e
  refine ⟨by simp; omega, fun y hy => ?_⟩
  simp only [List.nil_append, List.mem_append, List.mem_singleton] at hy
  rcases hy with (hy | rfl) | hy
  ·exact hm y (List.mem_of_mem_take hy)
  ·exact List.mem_of_getElem? hx
  ·exact hm y (List.mem_of_mem_drop hy)) (fun b ⟨hb, hm⟩ => ⟨by simpa using hb, hm⟩) ⟨by simp, by simp⟩
 rw [e1]
 exact ⟨l, _, rfl, rfl, e2.1, e2.2⟩
theorem NJ {B : Nat} {s : aa} (h : SzS B s) (hB : B ≤ 1000000) (q : ByteArray) : ∃ r, zW s q = some r ∧ r.length ≤ B ∧ ∀ i ∈ r, ∃ x ∈ s.ai, x.fId = i := by
 have k1 := h.apps
 unfold zW
 dsimp only
 rw [zV s q [] (by omega)]
 obtain ⟨r, e1, e2⟩ := aR (g := gy s q) (fin := fun b => (b, (s.ai.length : Int))) (fun j b => b.length ≤ j ∧ ∀ y ∈ b, y ∈ s.ai) (fun r => r.1.length ≤ s.ai.length ∧ ∀ y ∈ r.1, y ∈ s.ai) s.ai 0 [] (fun j out x hx ⟨ho, hm⟩ => by
  have hj := (zg.1 hx).1
  unfold gy
  simp only [ec, zb, orB]
  split
  ·exact ⟨_, rfl, fun a' e => by injection e with e; subst e; exact ⟨Nat.le_succ_of_le ho, hm⟩, fun r e => by cases e⟩
  obtain ⟨K, hK1, hK2⟩ := nB out (by omega) (f := jd out x) (fun i y hy => by
   have hi := (zg.1 hy).1
   refine ⟨decide (y.bu ≥ x.bu), ?_⟩
   unfold jd
   simp only [bJ hy, if_true, aC hy, zb, a6 hi (show out.length ≤ 1000000 by omega)]) (by unfold jd; simp only [bz, zf, if_false, zb])
  rw [hK1]
  simp only [zb]
  rw [nZ hK2]
  simp only [zb]
  rw [aD (by simp; omega)]
  simp only [zb]
  rw [aD (by simp; omega)]
  simp only [zb]
  rw [ko hK2]
  simp only [zb]
  rw [aD (by simp; omega)]
  refine ⟨_, rfl, fun a' e => ?_, fun r e => by cases e⟩
  injection e with e
  subst e
  refine ⟨by show (([] ++ out.take K ++ [x]) ++ out.drop K).length ≤ 0 + j + 1; simp; omega, fun y hy => ?_⟩
  simp only [List.nil_append, List.mem_append, List.mem_singleton] at hy
  rcases hy with (hy | rfl) | hy
  ·exact hm y (List.mem_of_mem_take hy)
  ·exact List.mem_of_getElem? hx
  ·exact hm y (List.mem_of_mem_drop hy)) (fun b ⟨hb, hm⟩ => ⟨by simpa using hb, hm⟩) ⟨by simp, by simp⟩
 rw [e1]
 simp only [zb]
 have e : gx r.1 = fun acc (x : aq) => if true = true then (aU acc [x.fId]).map (fun a => (.inl a : List Int ⊕ (List Int × Int))) else some (.inl acc) := by
  funext acc x
  unfold gx
  simp only [if_true]
  cases aU acc [x.fId] <;> rfl
 have e3 := e2.1
 rw [zU r.1 [] (by omega), e, cr (fun _ => true) aq.fId _ r.1 [] (by simp; omega)]
 refine ⟨_, rfl, ?_, fun i hi => ?_⟩
 ·have hf := List.length_filter_le (fun _ : aq => true) r.1
  rw [List.nil_append, List.length_map]
  omega
 ·rw [List.nil_append, List.mem_map] at hi
  obtain ⟨y, hy, e4⟩ := hi
  exact ⟨y, e2.2 y (List.mem_filter.1 hy).1, e4⟩
theorem Cd : ∀ (n : Nat) (p : ByteArray), dv n p < n → dv (n + 1) p = dv n p
 | 0, _, h => absurd h (Nat.not_lt_zero _)
 | n + 1, p, h => by
  unfold dv at h ⊢
  split
  ·rfl
  ·rename_i h0
   rw [if_neg h0] at h
   rw [Cd n _ (by omega)]
theorem It {x p : ByteArray} (hx : dQ x = some p) (hp : 0 < p.size) (xs : x.size ≤ 1000000) (hd : dv 6 x ≤ 4) : dv 6 p + 1 = dv 6 x := by
 obtain ⟨r, h1, h2⟩ := nM x xs
 rw [hx] at h1
 injection h1 with h1
 subst h1
 have e : dv 6 x = dv 5 p + 1 := by
  show (if x.size = 0 then 0 else dv 5 (eT x) + 1) = _
  rw [if_neg (by omega)]
  unfold eT
  rw [hx]
  rfl
 rw [e] at hd ⊢
 rw [Cd 5 p (by omega)]
theorem Ch (c : aw) (p : ByteArray) (h : SzC c) {l : List ByteArray} (hl : ff c p = some l) : ∀ x ∈ l, (∃ q ∈ c.ae, q.aF = x) ∧ dQ x = some p ∧ 0 < p.size := by
 unfold ff at hl
 have hs := jp c p [] (by have := h.queues; omega)
 dsimp only at hl
 rw [hs] at hl
 obtain ⟨r, h1, h2⟩ := aR (g := cA c p) (fin := fun a => (a, (c.ae.length : Int))) (fun k a => a.length ≤ k ∧ ∀ x ∈ a, (∃ q ∈ c.ae, q.aF = x) ∧ dQ x = some p ∧ 0 < p.size) (fun r => ∀ x ∈ r.1, (∃ q ∈ c.ae, q.aF = x) ∧ dQ x = some p ∧ 0 < p.size) c.ae 0 [] (fun j a x hx ⟨h1, h2⟩ => by
  have hm := List.mem_of_getElem? hx
  have hj := (zg.1 hx).1
  obtain ⟨r, hr, _⟩ := nM x.aF (h.paths x hm)
  have hqs := h.queues
  unfold cA
  simp only [hr, zb, dH]
  split
  ·rename_i hc
   rw [Bool.and_eq_true] at hc
   rw [aD (by simp; omega)]
   refine ⟨_, rfl, fun a' e => ?_, fun r e => by cases e⟩
   injection e with e
   subst e
   refine ⟨by simp; omega, fun y hy => ?_⟩
   simp only [List.mem_append, List.mem_singleton] at hy
   rcases hy with hy | rfl
   ·exact h2 y hy
   ·exact ⟨⟨x, hm, rfl⟩, by rw [hr, rQ hc.2], qw hc.1⟩
  ·refine ⟨_, rfl, fun a' e => ?_, fun r e => by cases e⟩
   injection e with e
   subst e
   exact ⟨by omega, h2⟩) (fun a ⟨h1, h2⟩ => h2) ⟨by simp, by simp⟩
 rw [h1] at hl
 injection hl with hl
 subst hl
 exact h2
def yF (self : aa → ByteArray → Int → Option (List ByteArray)) (s : aa) (k : Int) (out : List ByteArray) (x : ByteArray) : Option (List ByteArray ⊕ (List ByteArray × Int)) :=
 (self s x k).bind fun c => (aU out c).bind fun b => some (.inl b)
theorem LS (self : aa → ByteArray → Int → Option (List ByteArray)) (l : List ByteArray) (s : aa) (k : Int) (hl : l.length ≤ 1000000) : ah (jA self l s k) ab ([], 0) = bk (yF self s k) (fun a => (a, (l.length : Int))) [] l :=
 ay l (S := List ByteArray × Int) (fun a k => (a, k)) (yF self s k) (fun a => (a, (l.length : Int))) (an hl) (fun i a x hx => by
  have hk := (zg.1 hx).1
  unfold jA yF
  simp only [bJ hx, if_true, aC hx, zb, a6 hk hl, HH, Option.map_some])
  (fun a => by unfold jA; exact cF) []
theorem wG {B : Nat} {s : aa} (h : SzS B s) (hD : Deep s.bN) (hB : B ≤ 1000000) (k : Int) : ∀ (d n : Nat) (p : ByteArray), 4 - dv 6 p ≤ d → d < n → d ≤ 4 → ∃ r, jb n s p k = some r ∧ r.length ≤ 16 ^ d
 | d, 0, p, _, hn, _ => absurd hn (Nat.not_lt_zero _)
 | d, n + 1, p, hp, hn, hd => by
  obtain ⟨l, m, h1, h2, h3, h4⟩ := NI h hB p k
  obtain ⟨l', e1, e2, _⟩ := tc s.bN p h.conf.sz
  rw [h1] at e1
  injection e1 with e1
  subst e1
  have hq := hD.few
  unfold jb
  simp only [h2, zb]
  split
  ·exact ⟨_, rfl, by show 1 ≤ 16 ^ d; exact Nat.one_le_pow _ _ (by omega)⟩
  ·rename_i hne
   have hm : 0 < m.length := by
    rcases Nat.eq_zero_or_pos m.length with h0 | h0
    ·rw [h0] at hne; exact absurd rfl hne
    ·exact h0
   have kid := Ch s.bN p h.conf.sz h1
   have kd : ∀ x ∈ m, dv 6 p + 1 = dv 6 x ∧ dv 6 x ≤ 4 := fun x hx => by
    obtain ⟨⟨q, hq1, hq2⟩, a1, a2⟩ := kid x (h4 x hx)
    subst hq2
    exact ⟨It a1 a2 (h.conf.sz.paths q hq1) (hD.deep q hq1), hD.deep q hq1⟩
   have hd0 : 0 < d := by
    obtain ⟨a1, a2⟩ := kd m[0] (List.getElem_mem hm)
    omega
   obtain ⟨d', rfl⟩ : ∃ d', d = d' + 1 := ⟨d - 1, by omega⟩
   have hpow : 16 ^ d' ≤ 16 ^ 3 := Nat.pow_le_pow_right (by omega) (by omega)
   rw [LS _ m s k (by omega)]
   obtain ⟨r, r1, r2⟩ := aR (g := yF (jb n) s k) (fin := fun a => (a, (m.length : Int))) (fun j a => a.length ≤ j * 16 ^ d') (fun r => r.1.length ≤ m.length * 16 ^ d') m 0 [] (fun j a x hx ha => by
    have hj := (zg.1 hx).1
    obtain ⟨a1, a2⟩ := kd x (List.mem_of_getElem? hx)
    obtain ⟨c, c1, c2⟩ := wG h hD hB k d' n x (by omega) (by omega) (by omega)
    have hj2 : (0 + j) * 16 ^ d' ≤ 16 * 16 ^ 3 := Nat.mul_le_mul (by omega) hpow
    unfold yF
    rw [c1]
    simp only [zb]
    rw [aD (by omega)]
    refine ⟨_, rfl, fun a' e => ?_, fun r e => by cases e⟩
    injection e with e
    subst e
    rw [List.length_append, Nat.succ_mul]
    omega) (fun a ha => by simpa using ha) (by simp)
   rw [r1]
   refine ⟨_, rfl, Nat.le_trans r2 ?_⟩
   rw [Nat.pow_succ, Nat.mul_comm]
   exact Nat.mul_le_mul_left _ (by omega)
theorem Hb {B : Nat} {s : aa} (h : SzS B s) (hD : Deep s.bN) (hB : B ≤ 1000000) (k : Int) : ∃ r, tm s k = some r ∧ r.length ≤ 65536 := by
 obtain ⟨r, h1, h2⟩ := wG h hD hB k 4 ab ⟨#[114, 111, 111, 116]⟩ (by omega) (by unfold ab; omega) (by omega)
 unfold tm
 rw [h1]
 exact ⟨_, rfl, h2⟩
def Ok {α : Type} (o : Option α) (P : α → Prop) : Prop := ∃ r, o = some r ∧ P r
theorem Ok.bind {α β : Type} {o : Option α} {f : α → Option β} {P : α → Prop} {Q : β → Prop} (h1 : Ok o P) (h2 : ∀ r, P r → Ok (f r) Q) : Ok (Option.bind o f) Q := by
 obtain ⟨r, e, hr⟩ := h1
 rw [e]
 exact h2 r hr
theorem Ok.ite {α : Type} {c : Prop} [Decidable c] {a b : Option α} {Q : α → Prop} (h1 : c → Ok a Q) (h2 : ¬c → Ok b Q) : Ok (if c then a else b) Q := by
 by_cases h : c
 ·rw [if_pos h]; exact h1 h
 ·rw [if_neg h]; exact h2 h
theorem Ok.pure {α : Type} {a : α} {Q : α → Prop} (h : Q a) : Ok (some a) Q := ⟨a, rfl, h⟩
theorem Ok.weak {α : Type} {o : Option α} {P Q : α → Prop} (h : Ok o P) (hq : ∀ r, P r → Q r) : Ok o Q := by
 obtain ⟨r, e, hr⟩ := h
 exact ⟨r, e, hq r hr⟩
theorem D1 {σ α τ : Type} {g : σ → α → Option (σ ⊕ τ)} {fin : σ → τ} (I : Nat → σ → Prop) (l : List α) (a : σ) (h : ∀ (j : Nat) (a : σ) (x : α), l[j]? = some x → I j a → Ok (g a x) (fun o => ∃ a', o = .inl a' ∧ I (j + 1) a')) (hI : I 0 a) : Ok (bk g fin a l) (fun r => ∃ a', r = fin a' ∧ I l.length a') := by
 refine aR I _ l 0 a (fun j a x hx ha => ?_) (fun a ha => ⟨a, rfl, by simpa using ha⟩) hI
 obtain ⟨o, e, a', h1, h2⟩ := h j a x hx (by simpa using ha)
 subst h1
 exact ⟨_, e, fun a'' e => (by injection e with e; subst e; simpa using h2), fun r e => (by cases e)⟩
theorem ub {σ α τ : Type} {g : σ → Int → α → Option (σ ⊕ τ)} {fin : σ → τ} (I : Nat → σ → Prop) (l : List α) (a : σ) (h : ∀ (j : Nat) (a : σ) (x : α), l[j]? = some x → I j a → Ok (g a (j : Int) x) (fun o => ∃ a', o = .inl a' ∧ I (j + 1) a')) (hI : I 0 a) : Ok (ny g fin a 0 l) (fun r => ∃ a', r = fin a' ∧ I l.length a') := by
 refine mu I _ l 0 a (fun j a x hx ha => ?_) (fun a ha => ⟨a, rfl, by simpa using ha⟩) hI
 obtain ⟨o, e, a', h1, h2⟩ := h j a x hx (by simpa using ha)
 subst h1
 exact ⟨_, by simpa using e, fun a'' e => (by injection e with e; subst e; simpa using h2), fun r e => (by cases e)⟩
theorem jl {α : Type} {l : List α} {i : Int} (h0 : 0 ≤ i) (h1 : i < (l.length : Int)) : Ok (av l i) (fun x => x ∈ l) := by
 obtain ⟨x, h⟩ := JI h0 h1
 exact ⟨x, h.1, h.2⟩
theorem Df {a n : Int} (hn : 0 < n) : -n < a.tmod n ∧ a.tmod n < n := by
 constructor
 ·have := Int.lt_tmod_of_pos a hn; omega
 ·exact Int.tmod_lt_of_pos a hn
def eF (v_s : aa) (ct : Int) (st : (List bt)) (x_ : bt) : Option (((List bt)) ⊕ (((List bt) × Int))) :=
 let v_l := st
 if (x_.bG != ct) = true then
 (aU v_l [x_]).bind fun b4 => let v_l : (List bt) := b4
 some (.inl v_l)
 else
 some (.inl v_l)
theorem wj (v_s : aa) (ct : Int) (a_ : (List bt)) (hl : v_s.aQ.length ≤ 1000000) : ah (jz v_s ct) ab (a_, (0)) = bk (eF v_s ct) (fun a_ => (a_, ((v_s.aQ.length : Int)))) a_ v_s.aQ :=
 ay v_s.aQ (S := (List bt) × Int) (fun a_ k_ => (a_, (k_))) (eF v_s ct) (fun a_ => (a_, ((v_s.aQ.length : Int)))) (an hl) (fun k a x hx => by
  unfold jz eF; exact bH)
  (fun a => by unfold jz; exact cF) a_
def jy (v_s : aa) (ct : Int) (st : Unit) (x_ : bt) : Option ((Unit) ⊕ ((Int) ⊕ (bt × Bool))) :=
 if (x_.bG == ct) = true then
 some (.inr (.inr (x_, true)))
 else
 some (.inl ())
theorem zK (v_s : aa) (ct : Int) (a_ : Unit) (hl : v_s.aQ.length ≤ 1000000) : ah (lL v_s ct) ab (0) = bk (jy v_s ct) (fun a_ => (.inl ((v_s.aQ.length : Int)))) a_ v_s.aQ :=
 ay v_s.aQ (S := Int) (fun a_ k_ => (k_)) (jy v_s ct) (fun a_ => (.inl ((v_s.aQ.length : Int)))) (an hl) (fun k a x hx => by
  unfold lL jy; exact bH)
  (fun a => by unfold lL; exact cF) a_
def fo (v_s : aa) (eW : Int) (cH : Int) (st : Unit) (x_ : bt) : Option ((Unit) ⊕ ((Int) ⊕ (Bool))) :=
 (if (x_.bC == eW) = true then some (x_.bu == cH) else some false).bind fun q4 => if q4 = true then
 some (.inr (.inr true))
 else
 some (.inl ())
theorem xP (v_s : aa) (eW : Int) (cH : Int) (a_ : Unit) (hl : v_s.aQ.length ≤ 1000000) : ah (ke v_s eW cH) ab (0) = bk (fo v_s eW cH) (fun a_ => (.inl ((v_s.aQ.length : Int)))) a_ v_s.aQ :=
 ay v_s.aQ (S := Int) (fun a_ k_ => (k_)) (fo v_s eW cH) (fun a_ => (.inl ((v_s.aQ.length : Int)))) (an hl) (fun k a x hx => by
  unfold ke fo; exact bH)
  (fun a => by unfold ke; exact cF) a_
theorem uh {α : Type} (key : α → Int) (x : α) (l : List α) (a : α) : cM key (x :: l) a = if key x < key a then x :: cM key l a else if key x = key a then a :: l else a :: x :: l := by
 unfold cM
 by_cases h : key x < key a
 ·rw [if_pos h]
  have hd : decide (key x < key a) = true := by simpa using h
  simp only [List.takeWhile_cons, hd, if_true, List.length_cons, List.take_succ_cons, List.getElem?_cons_succ, List.cons_append]
  generalize (l.takeWhile fun x => decide (key x < key a)).length = K
  cases l[K]? with
  | none => rfl
  | some y =>
   dsimp only
   split <;> rfl
 ·rw [if_neg h]
  have hd : decide (key x < key a) = false := by simpa using h
  simp only [List.takeWhile_cons, hd, zf, if_false, List.length_nil, List.take_zero, List.nil_append, List.getElem?_cons_zero, Nat.zero_add]
  by_cases he : key x = key a
  ·rw [if_pos he]
   have hb : (key x == key a) = true := by simpa using he
   simp [hb]
  ·rw [if_neg he]
   have hb : (key x == key a) = false := by simpa using he
   simp [hb]
theorem qM {α : Type} (key : α → Int) (a : α) : ∀ l : List α, jK key l → (∃ x ∈ l, key x = key a) → (cM key l a).length = l.length
 | [], _, ⟨x, hx, _⟩ => by cases hx
 | y :: l, hs, ⟨x, hx, he⟩ => by
  have hs' := List.pairwise_cons.1 hs
  rw [uh]
  split
  ·rename_i h
   rcases List.mem_cons.1 hx with rfl | hx
   ·omega
   ·rw [List.length_cons, List.length_cons, qM key a l hs'.2 ⟨x, hx, he⟩]
  ·split
   ·rfl
   ·rename_i h1 h2
    rcases List.mem_cons.1 hx with rfl | hx
    ·exact absurd he h2
    ·have := hs'.1 x hx
     omega
theorem iR {α : Type} (key : α → Int) (a : α) : ∀ l : List α, jK key l → jK key (cM key l a)
 | [], _ => List.pairwise_singleton _ _
 | y :: l, hs => by
  have hs' := List.pairwise_cons.1 hs
  rw [uh]
  split
  ·rename_i h
   refine List.pairwise_cons.2 ⟨fun x hx => ?_, iR key a l hs'.2⟩
   rcases mB hx with rfl | hx
   ·exact h
   ·exact hs'.1 x hx
  ·split
   ·rename_i h1 h2
    exact List.pairwise_cons.2 ⟨fun x hx => by have := hs'.1 x hx; omega, hs'.2⟩
   ·rename_i h1 h2
    refine List.pairwise_cons.2 ⟨fun x hx => ?_, hs⟩
    rcases List.mem_cons.1 hx with rfl | hx
    ·omega
    ·have := hs'.1 x hx; omega
theorem D7 {α : Type} (key : α → Int) (a : α) (i : Int) : ∀ l : List α, (∃ x ∈ l, key x = i) → ∃ x ∈ cM key l a, key x = i
 | [], ⟨x, hx, _⟩ => by cases hx
 | y :: l, ⟨x, hx, he⟩ => by
  rw [uh]
  split
  ·rcases List.mem_cons.1 hx with rfl | hx
   ·exact ⟨x, List.mem_cons_self, he⟩
   ·obtain ⟨z, hz, hz2⟩ := D7 key a i l ⟨x, hx, he⟩
    exact ⟨z, List.mem_cons_of_mem _ hz, hz2⟩
  ·split
   ·rename_i h1 h2
    rcases List.mem_cons.1 hx with rfl | hx
    ·exact ⟨a, List.mem_cons_self, by omega⟩
    ·exact ⟨x, List.mem_cons_of_mem _ hx, he⟩
   ·exact ⟨x, List.mem_cons_of_mem _ hx, he⟩
theorem SzS.putIn {B : Nat} {s : aa} (h : SzS B s) (hs : jK aq.fId s.ai) {a : aq} (hi : ∃ x ∈ s.ai, x.fId = a.fId) (ha : SzA B a) : SzS B { s with ai := cM aq.fId s.ai a } :=
 ⟨h.conf, h.nodes, by show (cM _ _ _).length ≤ B; rw [qM _ _ _ hs hi]; exact h.apps, h.conts, h.slots, h.plans, fun x hx => by
  rcases mB hx with rfl | hx
  ·exact ha
  ·exact h.app x hx⟩
def VG (a : aL) (n : aX) : Int := (mP a n).getD 0
theorem zQ (a : aL) (n : aX) : mP a n = some (VG a n) := by
 have : ∃ r, mP a n = some r := by
  unfold mP
  simp only [dH, orB, zb]
  repeat' split
  all_goals exact ⟨_, rfl⟩
 obtain ⟨r, e⟩ := this
 unfold VG
 rw [e]
 rfl
def ZT (a : aL) (n : aX) : Bool := (tj a n).getD false
theorem F9 (a : aL) (n : aX) : tj a n = some (ZT a n) := by
 have : ∃ r, tj a n = some r := by
  unfold tj
  simp only [zQ, zb]
  repeat' split
  all_goals exact ⟨_, rfl⟩
 obtain ⟨r, e⟩ := this
 unfold ZT
 rw [e]
 rfl
theorem F7 {B : Nat} {s : aa} (h : SzS B s) (hB : B ≤ 1000000) (q : ByteArray) (a : aL) : ∃ r, zO s q a = some r := by
 obtain ⟨u, hu⟩ := fp h hB q a.aY
 have k2 := h.nodes.1
 unfold zO
 simp only [hu, eu, nL s _ _ h.conf (Nat.le_trans k2 hB), kx, zb]
 exact ⟨_, rfl⟩
theorem Co {B : Nat} {s : aa} (h : SzS B s) (hB : B ≤ 1000000) (q : ByteArray) (k u : Int) : ∃ r, u5 s q k u = some r := by
 obtain ⟨v, hv⟩ := CQ h hB q k u
 have k2 := h.nodes.1
 unfold u5
 simp only [hv, Pu s _ _ h.conf (Nat.le_trans k2 hB), kx, zb]
 exact ⟨_, rfl⟩
theorem SzS.slot {B : Nat} {s : aa} (h : SzS B s) {l : List bt} (hl : l.length ≤ B) : SzS B { s with aQ := l } := ⟨h.conf, h.nodes, h.apps, h.conts, hl, h.plans, h.app⟩
theorem SzS.cont {B : Nat} {s : aa} (h : SzS B s) {l : List am} (hl : l.length ≤ B) : SzS B { s with ac := l } := ⟨h.conf, h.nodes, h.apps, hl, h.slots, h.plans, h.app⟩
theorem SzS.seq {B : Nat} {s : aa} (h : SzS B s) (n : Int) : SzS B { s with rM := n } := ⟨h.conf, h.nodes, h.apps, h.conts, h.slots, h.plans, h.app⟩
theorem wF (s : aa) (n : Int) (hl : s.aQ.length ≤ 1000000) : fF s n = some { s with aQ := s.aQ.filter fun c => c.bG != n } := by
 unfold fF
 dsimp only
 have e : eF s n = fun acc x => if (x.bG != n) = true then (aU acc [id' x]).map (fun a => (.inl a : List bt ⊕ (List bt × Int))) else some (.inl acc) := by
  funext acc x
  unfold eF
  dsimp only [id']
  split
  ·cases aU acc [x] <;> rfl
  ·rfl
 rw [wj s n [] hl, e, cr (fun c : bt => c.bG != n) id' _ s.aQ [] (by simpa using hl)]
 simp only [zb, List.nil_append, yC]
theorem Nv (s : aa) (n : Int) (hl : s.aQ.length ≤ 1000000) : ∃ r, zL s n = some r := by
 unfold zL
 dsimp only
 rw [zK s n () hl, show jy s n = fun (_ : Unit) x => if (x.bG == n) = true then some (.inr (.inr (x, true))) else some (.inl ()) from rfl,
  kA (fun x : bt => x.bG == n) (fun x => (Sum.inr (x, true) : Int ⊕ bt × Bool)) (.inl (s.aQ.length : Int)) s.aQ]
 simp only [zb]
 cases s.aQ.find? fun x => x.bG == n <;> exact ⟨_, rfl⟩
theorem KH (s : aa) (a p : Int) (hl : s.aQ.length ≤ 1000000) : ∃ r, vQ s a p = some r := by
 unfold vQ
 dsimp only
 rw [xP s a p () hl]
 obtain ⟨r, e1, _⟩ := aR (g := fo s a p) (fin := fun _ => (.inl (s.aQ.length : Int))) (fun _ _ => True) (fun _ => True) s.aQ 0 () (fun j b x hx _ => by
  unfold fo
  simp only [dH, zb]
  split <;> exact ⟨_, rfl, fun _ _ => trivial, fun _ _ => trivial⟩) (fun _ _ => trivial) trivial
 rw [e1]
 simp only [zb]
 cases r <;> exact ⟨_, rfl⟩
theorem NB {B : Nat} {s : aa} (h : SzS B s) (hB : B + 1 ≤ 1000000) (x : bt) : ∃ r, si s x = some r ∧ SzS (B + 1) r ∧ r.ai = s.ai := by
 have k1 := h.slots
 obtain ⟨K, hK1, hK2⟩ := nB s.aQ (by omega) (f := lM s x) (fun i y hy => by
  have hi := (zg.1 hy).1
  refine ⟨decide (y.bG < x.bG), ?_⟩
  unfold lM
  simp only [bJ hy, if_true, aC hy, zb, a6 hi (show s.aQ.length ≤ 1000000 by omega)]) (by unfold lM; simp only [bz, zf, if_false, zb])
 unfold si
 dsimp only
 rw [hK1]
 simp only [zb]
 rw [nZ hK2]
 simp only [zb]
 rw [aD (by simp; omega)]
 simp only [zb]
 rw [aD (by simp; omega)]
 simp only [zb]
 rw [ko hK2]
 simp only [zb]
 rw [aD (by simp; omega)]
 exact ⟨_, rfl, (h.mono (Nat.le_succ _)).slot (by simp; omega), rfl⟩
theorem zN {B : Nat} {s : aa} (h : SzS B s) (hB : B + 2 ≤ 1000000) (n : aX) {a : aq} (ha : SzA B a) (x : aL) : ∃ r, mO s n a x = some r ∧ SzS (B + 2) r.1 ∧ (jK aq.fId s.ai → jK aq.fId r.1.ai) := by
 have k1 := h.conts; have k2 := h.apps; have k3 := ha.asks; have k4 := ha.grants
 obtain ⟨t, t1, t2⟩ := Pj a.bE x.bu (by omega)
 unfold mO
 simp only [t1, zb]
 generalize hc : (⟨_, a.fId, n.fId, x.cC, x.bu, n.aY, (a.cw == 1), 0⟩ : am) = c
 have hs : SzS B { s with rM := i64.wrap (s.rM + 1) } := h.seq _
 generalize hS : ({ s with rM := i64.wrap (s.rM + 1) } : aa) = S at hs ⊢
 have hcl : S.ac = s.ac := by rw [← hS]
 have hal : S.ai = s.ai := by rw [← hS]
 have fin : ∀ b : aq, SzA (B + 1) b → ∃ r, (Option.bind (ah (ik S c) ab 0) fun r11 => Option.bind (hiO s.ac r11) fun b12 => Option.bind (aU ([] : List am) b12) fun b13 => Option.bind (aU b13 [c]) fun b14 => Option.bind (loO s.ac r11) fun b15 => Option.bind (aU b14 b15) fun b16 => Option.bind (eb { s with ac := b16, rM := i64.wrap (s.rM + 1) } b) fun c17 => some (c17, c)) = some r ∧ SzS (B + 2) r.1 ∧ (jK aq.fId s.ai → jK aq.fId r.1.ai) := by
  intro b hb
  obtain ⟨K, hK1, hK2⟩ := nB s.ac (by omega) (f := ik S c) (fun i y hy => by
   have hi := (zg.1 hy).1
   refine ⟨decide (y.fId < c.fId), ?_⟩
   unfold ik
   simp only [hcl, bJ hy, if_true, aC hy, zb, a6 hi (show s.ac.length ≤ 1000000 by omega)]) (by unfold ik; simp only [hcl, bz, zf, if_false, zb])
  rw [hK1]
  simp only [zb]
  rw [nZ hK2]
  simp only [zb]
  rw [aD (by simp; omega)]
  simp only [zb]
  rw [aD (by simp; omega)]
  simp only [zb]
  rw [ko hK2]
  simp only [zb]
  rw [aD (by simp; omega)]
  simp only [zb]
  rw [jf _ _ (by show s.ai.length + 1 ≤ _; omega)]
  refine ⟨_, rfl, ?_⟩
  have hlen : (([] ++ s.ac.take K ++ [c]) ++ s.ac.drop K).length ≤ B + 1 := by simp; omega
  have h2 : SzS (B + 1) { s with ac := ([] ++ s.ac.take K ++ [c]) ++ s.ac.drop K, rM := i64.wrap (s.rM + 1) } := by
   have hm := h.mono (Nat.le_succ B)
   exact ⟨hm.conf, hm.nodes, hm.apps, hlen, hm.slots, hm.plans, hm.app⟩
  exact ⟨h2.put (hb.mono (Nat.le_succ _)), fun hs => iR _ _ _ hs⟩
 have ha1 := ha.mono (Nat.le_succ B)
 split
 ·simp only [zb]
  refine fin _ ?_
  exact ⟨⟨ha1.queue.1, h.nodes.2.2.1⟩, Nat.zero_le _, ha1.grants, ha1.kills, ha1.told, ha1.lost⟩
 ·rw [aD (by simp; omega)]
  simp only [zb]
  rw [aD (by simp; omega)]
  simp only [zb]
  refine fin _ ?_
  exact ⟨ha1.queue, by show t.1.length ≤ _; omega, by simp; omega, ha1.kills, ha1.told, ha1.lost⟩
def Ar (B : Nat) (s t : aa) : Prop := SzS B t ∧ jK aq.fId t.ai ∧ ∀ i, (∃ x ∈ s.ai, x.fId = i) → ∃ x ∈ t.ai, x.fId = i
theorem Qy {B : Nat} {s : aa} (h : SzS B s) (hs : jK aq.fId s.ai) (hB : B + 2 ≤ 1000000) (n : aX) {a : aq} (hi : ∃ x ∈ s.ai, x.fId = a.fId) (ha : SzA B a) (x : aL) (first : Bool) : ∃ r, vR s n a x first = some r ∧ SzS (B + 2) r.1 ∧ jK aq.fId r.1.ai ∧ (r.2.1 = 0 → Ar B s r.1) := by
 have k1 := h.apps; have k2 := h.slots; have k3 := ha.asks; have k4 := h.conts; have k5 := h.nodes.1
 have stay : Ar B s s := ⟨h, hs, fun _ e => e⟩
 have h2 := h.mono (show B ≤ B + 2 by omega)
 obtain ⟨d, hd⟩ := F7 h (by omega) a.bF x
 obtain ⟨m, hm, hm2⟩ := Pk a.bE x.bu (by omega)
 obtain ⟨o, ho⟩ := Ct h (by omega) a.bF ha.queue.1 n.aY x.cC
 obtain ⟨g, hg, hg2, hg3⟩ := zN h hB n ha x
 obtain ⟨p, hp⟩ := KH s a.fId x.bu (by omega)
 obtain ⟨q, hq, hq2, hq3⟩ := NB h (by omega) (⟨n.fId, a.fId, x.bu⟩ : bt)
 have hput : ∃ t, eb s { a with bE := m } = some t ∧ Ar B s t := by
  refine ⟨_, jf s _ (by omega), h.putIn hs hi ⟨ha.queue, by show m.length ≤ B; omega, ha.grants, ha.kills, ha.told, ha.lost⟩, iR _ _ _ hs, fun i e => D7 _ _ i _ e⟩
 obtain ⟨t, ht, ht2⟩ := hput
 unfold vR
 simp only [hd, zQ, F9, kx, orB, dH, zb, hm, ht, ho, hg, hp, hq, FI s n.fId (show s.aB.length ≤ 1000000 by omega) (show s.ac.length ≤ 1000000 by omega)]
 split
 ·exact ⟨_, rfl, h2, hs, fun _ => stay⟩
 split
 ·split
  ·exact ⟨_, rfl, ht2.1.mono (by omega), ht2.2.1, fun _ => ht2⟩
  ·exact ⟨_, rfl, h2, hs, fun _ => stay⟩
 split
 ·exact ⟨_, rfl, h2, hs, fun _ => stay⟩
 split
 ·exact ⟨_, rfl, hg2, hg3 hs, fun e => absurd (show (1 : Int) = 0 from e) (by decide)⟩
 split
 ·exact ⟨_, rfl, hq2.mono (by omega), by show jK _ q.ai; rw [hq3]; exact hs, fun e => absurd (show (2 : Int) = 0 from e) (by decide)⟩
 ·exact ⟨_, rfl, h2, hs, fun _ => stay⟩
theorem VT {s : aa} {id : Int} (h : ∃ x ∈ s.ai, x.fId = id) : bQ s id ∈ s.ai ∧ (bQ s id).fId = id := by
 obtain ⟨x, hx, e⟩ := h
 unfold bQ
 cases hf : s.ai.find? fun c => c.fId == id with
 | none =>
  have := List.find?_eq_none.1 hf x hx
  simp [e] at this
 | some a =>
  have h2 := List.find?_some hf
  exact ⟨List.mem_of_find?_eq_some hf, by simpa using h2⟩
def Aw (B : Nat) (t : aa) : Prop := SzS (B + 2) t ∧ jK aq.fId t.ai
theorem SA {B : Nat} {s : aa} (h : SzS B s) (hs : jK aq.fId s.ai) (hB : B + 2 ≤ 1000000) (n : aX) (l : List aL) (a : aq) (hl : a.bE = l) (hl2 : l.length ≤ B) (ids : List Int) (hI : ∀ i ∈ ids, ∃ x ∈ s.ai, x.fId = i) (j : Nat) (id : Int) (hj : ids[j]? = some id) (first : Bool) : ∃ r, ah (ic a (j : Int) ids n first) ab (s, 0) = some r ∧ (match r with | .inl m => Ar B s m.1 | .inr m => Aw B m.1) := by
 refine aM (fun st => Ar B s st.1 ∧ ∃ k : Nat, st.2 = (k : Int) ∧ k ≤ l.length) (fun st => l.length - st.2.toNat) _ (fun st ⟨⟨q1, q2, q3⟩, k, h1, h2⟩ => ?_) ab (s, 0) ⟨⟨h, hs, fun _ e => e⟩, 0, rfl, Nat.zero_le _⟩ (by have := an (show l.length ≤ 1000000 by omega); omega)
 have k1 := q1.apps
 unfold ic
 simp only [h1, hl]
 by_cases hlt : k < l.length
 ·have g1 : l[k]? = some l[k] := zq hlt
  have g2 := VT (q3 id (hI id (List.mem_of_getElem? hj)))
  obtain ⟨r, r1, r2, r3, r4⟩ := Qy q1 q2 hB n (a := bQ st.1 id) ⟨_, g2.1, rfl⟩ (q1.get id) l[k] first
  simp only [bJ g1, if_true, aC g1, aC hj, dy st.1 id (by omega), r1, zb, a6 hlt (show l.length ≤ 1000000 by omega)]
  split
  ·exact .inr ⟨_, rfl, r2, r3⟩
  ·rename_i hne
   have h0 : r.2.1 = 0 := by simpa using hne
   obtain ⟨t1, t2, t3⟩ := r4 h0
   exact .inl ⟨_, rfl, ⟨⟨t1, t2, fun i e => t3 i (q3 i e)⟩, k + 1, rfl, hlt⟩, by simp only [zt]; omega⟩
 ·have : k = l.length := by omega
  subst this
  simp only [bz, zf, if_false]
  exact .inr ⟨_, rfl, q1, q2, q3⟩
theorem SB {B : Nat} {s : aa} (h : SzS B s) (hs : jK aq.fId s.ai) (hB : B + 2 ≤ 1000000) (n : aX) (ids : List Int) (hI : ∀ i ∈ ids, ∃ x ∈ s.ai, x.fId = i) (hI2 : ids.length ≤ 1000000) (lv : List ByteArray) (i : Nat) (q : ByteArray) (hi : lv[i]? = some q) (first : Bool) : ∃ r, ah (ig ids (i : Int) lv n first) ab (s, 0) = some r ∧ (match r with | .inl m => Ar B s m.1 | .inr m => Aw B m.1) := by
 refine aM (fun st => Ar B s st.1 ∧ ∃ k : Nat, st.2 = (k : Int) ∧ k ≤ ids.length) (fun st => ids.length - st.2.toNat) _ (fun st ⟨⟨q1, q2, q3⟩, k, h1, h2⟩ => ?_) ab (s, 0) ⟨⟨h, hs, fun _ e => e⟩, 0, rfl, Nat.zero_le _⟩ (by have := an hI2; omega)
 have k1 := q1.apps
 unfold ig
 simp only [h1]
 by_cases hlt : k < ids.length
 ·have g1 : ids[k]? = some ids[k] := zq hlt
  obtain ⟨m, hm⟩ := Co q1 (by omega) q n.aY (bQ st.1 ids[k]).cW
  simp only [bJ g1, if_true, aC g1, aC hi, dy st.1 _ (show st.1.ai.length ≤ 1000000 by omega), hm, zb, a6 hlt hI2]
  split
  ·exact .inl ⟨_, rfl, ⟨⟨q1, q2, q3⟩, k + 1, rfl, hlt⟩, by simp only [zt]; omega⟩
  ·have ha := (q1.get ids[k]).asks
   obtain ⟨r, r1, r2⟩ := SA q1 q2 hB n _ (bQ st.1 ids[k]) rfl ha ids (fun i hi => q3 i (hI i hi)) k _ g1 first
   rw [r1]
   simp only [zb]
   cases r with
   | inr m => exact .inr ⟨_, rfl, r2⟩
   | inl m =>
    obtain ⟨t1, t2, t3⟩ := r2
    exact .inl ⟨_, rfl, ⟨⟨t1, t2, fun i e => t3 i (q3 i e)⟩, k + 1, rfl, hlt⟩, by simp only [zt]; omega⟩
 ·have : k = ids.length := by omega
  subst this
  simp only [bz, zf, if_false]
  exact .inr ⟨_, rfl, q1, q2, q3⟩
theorem zM {B : Nat} {s : aa} (h : SzS B s) (hs : jK aq.fId s.ai) (hB : B + 2 ≤ 1000000) (n : aX) (first : Bool) : ∃ r, eh s n first = some r ∧ Aw B r.1 ∧ (r.2.1 = 0 → SzS B r.1 ∨ Aw B r.1) := by
 obtain ⟨lv, h1, h2⟩ := Hb h h.conf.deep (by omega) n.aY
 have hl : lv.length ≤ 1000000 := by omega
 unfold eh
 simp only [h1, zb]
 obtain ⟨r, r1, r2⟩ := aM (f := ij lv n first) (fun st => Ar B s st.1 ∧ ∃ k : Nat, st.2 = (k : Int) ∧ k ≤ lv.length) (fun st => lv.length - st.2.toNat) (fun r => match r with | .inl m => Ar B s m.1 | .inr m => Aw B m.1) (fun st ⟨⟨q1, q2, q3⟩, k, h1, h2⟩ => by
  have k1 := q1.apps
  unfold ij
  simp only [h1]
  by_cases hlt : k < lv.length
  ·have g1 : lv[k]? = some lv[k] := zq hlt
   obtain ⟨ids, a1, a2, a3⟩ := NJ q1 (by omega) lv[k]
   obtain ⟨r, r1, r2⟩ := SB q1 q2 hB n ids a3 (by omega) lv k _ g1 first
   simp only [bJ g1, if_true, aC g1, a1, r1, zb, a6 hlt hl]
   cases r with
   | inr m => exact .inr ⟨_, rfl, r2⟩
   | inl m =>
    obtain ⟨t1, t2, t3⟩ := r2
    exact .inl ⟨_, rfl, ⟨⟨t1, t2, fun i e => t3 i (q3 i e)⟩, k + 1, rfl, hlt⟩, by simp only [zt]; omega⟩
  ·have : k = lv.length := by omega
   subst this
   simp only [bz, zf, if_false]
   exact .inr ⟨_, rfl, q1, q2, q3⟩) ab (s, 0) ⟨⟨h, hs, fun _ e => e⟩, 0, rfl, Nat.zero_le _⟩ (by have := an hl; omega)
 rw [r1]
 simp only [zb]
 cases r with
 | inr m => exact ⟨_, rfl, r2, fun _ => .inr r2⟩
 | inl m => exact ⟨_, rfl, ⟨r2.1.mono (by omega), r2.2.1⟩, fun _ => .inl r2.1⟩
theorem Aw.mono {B C : Nat} {t : aa} (h : Aw B t) (hc : B ≤ C) : Aw C t := ⟨h.1.mono (by omega), h.2⟩
theorem Ny {B : Nat} {s : aa} (h : SzS B s) (hs : jK aq.fId s.ai) (hB : B + 2 ≤ 1000000) (n : aX) (x : bt) : ∃ r, sg s n x = some r ∧ Aw B r.1 ∧ (r.2.2.2 = false → SzS B r.1) := by
 have k1 := h.apps; have k2 := h.slots; have k4 := h.conts; have k5 := h.nodes.1
 have ha := h.get x.bC
 have k3 := ha.asks
 have h2 := h.mono (show B ≤ B + 2 by omega)
 have hn : SzS B { s with aQ := s.aQ.filter fun c => c.bG != n.fId } := h.slot (Nat.le_trans (List.length_filter_le _ _) k2)
 obtain ⟨d, hd⟩ := F7 h (by omega) (bQ s x.bC).bF (VU (bQ s x.bC).bE x.bu)
 obtain ⟨m, hm⟩ := Co h (by omega) (bQ s x.bC).bF n.aY (bQ s x.bC).cW
 obtain ⟨o, ho⟩ := Ct h (by omega) (bQ s x.bC).bF ha.queue.1 n.aY (VU (bQ s x.bC).bE x.bu).cC
 obtain ⟨g, hg, hg2, hg3⟩ := zN hn hB n ha (VU (bQ s x.bC).bE x.bu)
 unfold sg
 simp only [dy s x.bC (show s.ai.length ≤ 1000000 by omega), TM (bQ s x.bC).bE x.bu (show (bQ s x.bC).bE.length ≤ 1000000 by omega), ec, hd, hm, ho, F9, kx, wF s n.fId (show s.aQ.length ≤ 1000000 by omega), FI s n.fId (show s.aB.length ≤ 1000000 by omega) (show s.ac.length ≤ 1000000 by omega), orB, dH, zb]
 split
 ·exact ⟨_, rfl, ⟨hn.mono (by omega), hs⟩, fun _ => hn⟩
 split
 ·exact ⟨_, rfl, ⟨h2, hs⟩, fun _ => h⟩
 ·rw [hg]
  exact ⟨_, rfl, ⟨hg2, hg3 hs⟩, fun e => by cases e⟩
theorem Qz {B : Nat} {s : aa} (h : SzS B s) (hs : jK aq.fId s.ai) (hB : B + 6 ≤ 1000000) (id : Int) : ∃ r, vS s id = some r ∧ Aw (B + 4) r.1 := by
 have k1 := h.nodes.1; have k2 := h.slots
 have two : ∀ (t : aa), Aw B t → ∃ r, (Option.bind (eh t (eP s id) true) fun c7 => if (c7.2.1 != 0) = true then some (c7.1, c7.2.1, c7.2.2) else Option.bind (eh c7.1 (eP s id) false) fun c8 => some c8) = some r ∧ Aw (B + 4) r.1 := fun t ⟨t1, t2⟩ => by
  obtain ⟨u, u1, ⟨u2, u3⟩, _⟩ := zM t1 t2 (by omega) (eP s id) true
  rw [u1]
  simp only [zb]
  split
  ·exact ⟨_, rfl, u2.mono (by omega), u3⟩
  ·obtain ⟨v, v1, ⟨v2, v3⟩, _⟩ := zM u2 u3 (by omega) (eP s id) false
   rw [v1]
   exact ⟨_, rfl, v2.mono (by omega), v3⟩
 obtain ⟨c, hc⟩ := Nv s id (by omega)
 unfold vS
 simp only [mJ s id (show s.aB.length ≤ 1000000 by omega), orB, hc, zb]
 split
 ·exact ⟨_, rfl, h.mono (by omega), hs⟩
 split
 ·obtain ⟨k, k1, k2, _⟩ := Ny h hs (by omega) (eP s id) c.1
  rw [k1]
  simp only [zb]
  split
  ·exact ⟨_, rfl, k2.mono (by omega)⟩
  ·exact two _ k2
 ·exact two _ ⟨h.mono (by omega), hs⟩
theorem ND {B : Nat} {s : aa} (h : SzS B s) (hs : jK aq.fId s.ai) (hB : B + 100 ≤ 1000000) (id : Int) : ∃ r, p8 s id = some r ∧ Aw (B + 24) r.1 ∧ r.2.length ≤ 3 := by
 unfold p8
 dsimp only
 obtain ⟨r, r1, r2⟩ := aM (f := ja id) (fun st => ∃ k : Nat, st.2.2 = (k : Int) ∧ k ≤ 3 ∧ st.2.1.length = k ∧ SzS (B + 6 * k) st.1 ∧ jK aq.fId st.1.ai) (fun st => 3 - st.2.2.toNat) (fun r => Aw (B + 24) r.1 ∧ r.2.1.length ≤ 3) (fun st ⟨k, h1, h2, h3, h4, h5⟩ => by
  unfold ja
  simp only [h1]
  by_cases hlt : k < 3
  ·have hd : decide ((k : Int) < 3) = true := by simp; omega
   obtain ⟨c, c1, c2, c3⟩ := Qz h4 h5 (by omega) id
   simp only [hd, if_true, c1, zb]
   split
   ·exact .inr ⟨_, rfl, ⟨c2.mono (by omega), c3⟩, by show st.2.1.length ≤ 3; omega⟩
   ·rw [aD (by simp; omega)]
    simp only [zb, a6 hlt (show 3 ≤ 1000000 by omega)]
    exact .inl ⟨_, rfl, ⟨k + 1, rfl, hlt, by simp; omega, c2.mono (by omega), c3⟩, by simp only [zt]; omega⟩
  ·have hd : decide ((k : Int) < 3) = false := by simp; omega
   simp only [hd, zf, if_false]
   exact .inr ⟨_, rfl, ⟨h4.mono (by omega), h5⟩, by show st.2.1.length ≤ 3; omega⟩) ab (s, [], 0) ⟨0, rfl, by omega, rfl, h.mono (by omega), hs⟩ (by show 3 - (0 : Int).toNat < ab; unfold ab; omega)
 rw [r1]
 exact ⟨_, rfl, r2⟩
theorem mC {σ τ : Type} {f : σ → Option (σ ⊕ τ)} (I : σ → Prop) (Q : τ → Prop) (step : ∀ s r, I s → f s = some r → match r with | .inl s' => I s' | .inr t => Q t) : ∀ (n : Nat) (s : σ) (t : τ), I s → ah f n s = some t → Q t
 | 0, s, t, _, h => by cases h
 | n + 1, s, t, hi, h => by
  simp only [ah] at h
  cases hf : f s with
  | none => rw [hf] at h; cases h
  | some r =>
   have := step s r hi hf
   rw [hf] at h
   cases r with
   | inl s' => exact mC I Q step n s' t this h
   | inr t' => injection h with h; subst h; exact this
theorem yV {α : Type} {l m z : List α} (h : aU l m = some z) : z.length = l.length + m.length ∧ z = l ++ m := by
 unfold aU at h
 split at h
 ·injection h with h; subst h; simp
 ·cases h
theorem wL {s t : aa} {a : aq} (h : eb s a = some t) : t.ac = s.ac := by
 unfold eb at h
 dsimp only at h
 obtain ⟨_, _, h⟩ := bq h
 obtain ⟨_, _, h⟩ := bq h
 obtain ⟨_, _, h⟩ := bq h
 obtain ⟨_, _, h⟩ := bq h
 obtain ⟨_, _, h⟩ := bq h
 obtain ⟨_, _, h⟩ := bq h
 obtain ⟨_, _, h⟩ := bq h
 obtain ⟨_, _, h⟩ := bq h
 injection h with h
 subst h
 rfl
theorem sj {s t : aa} {n : Int} (h : fF s n = some t) : t.ac = s.ac := by
 unfold fF at h
 dsimp only at h
 obtain ⟨_, _, h⟩ := bq h
 injection h with h
 subst h
 rfl
theorem F6 {s t : aa} {x : bt} (h : si s x = some t) : t.ac = s.ac := by
 unfold si at h
 dsimp only at h
 obtain ⟨_, _, h⟩ := bq h
 obtain ⟨_, _, h⟩ := bq h
 obtain ⟨_, _, h⟩ := bq h
 obtain ⟨_, _, h⟩ := bq h
 obtain ⟨_, _, h⟩ := bq h
 obtain ⟨_, _, h⟩ := bq h
 injection h with h
 subst h
 rfl
theorem L3 {α : Type} {l a b : List α} {k : Int} (h1 : hiO l k = some a) (h2 : loO l k = some b) : a.length + b.length = l.length := by
 unfold hiO at h1
 unfold loO at h2
 by_cases hc : 0 ≤ k ∧ k.toNat ≤ l.length
 ·rw [if_pos hc] at h1 h2
  injection h1 with h1
  injection h2 with h2
  subst h1 h2
  rw [List.length_take, List.length_drop]
  omega
 ·rw [if_neg hc] at h1
  cases h1
theorem tE {s : aa} {n : aX} {a : aq} {x : aL} {r : aa × am} (h : mO s n a x = some r) : r.1.ac.length ≤ s.ac.length + 1 := by
 unfold mO at h
 dsimp only at h
 obtain ⟨_, _, h⟩ := bq h
 obtain ⟨_, _, h⟩ := bq h
 obtain ⟨_, _, h⟩ := bq h
 obtain ⟨b12, h12, h⟩ := bq h
 obtain ⟨b13, h13, h⟩ := bq h
 obtain ⟨b14, h14, h⟩ := bq h
 obtain ⟨b15, h15, h⟩ := bq h
 obtain ⟨b16, h16, h⟩ := bq h
 obtain ⟨c17, h17, h⟩ := bq h
 injection h with h
 subst h
 have e := wL h17
 have k1 := L3 h12 h15
 have k2 := (yV h13).1
 have k3 := (yV h14).1
 have k4 := (yV h16).1
 show c17.ac.length ≤ _
 rw [e]
 show b16.length ≤ _
 simp only [List.length_nil, List.length_singleton] at k2 k3
 omega
theorem G9 {s : aa} {n : aX} {a : aq} {x : aL} {f : Bool} {r : aa × Int × am} (h : vR s n a x f = some r) : r.1.ac.length ≤ s.ac.length + 1 ∧ (r.2.1 = 0 → r.1.ac.length ≤ s.ac.length) := by
 unfold vR at h
 dsimp only at h
 obtain ⟨_, _, h⟩ := bq h
 obtain ⟨_, _, h⟩ := bq h
 obtain ⟨_, _, h⟩ := bq h
 obtain ⟨_, _, h⟩ := bq h
 split at h
 ·injection h with h; subst h; exact ⟨Nat.le_succ _, fun _ => Nat.le_refl _⟩
 obtain ⟨_, _, h⟩ := bq h
 split at h
 ·obtain ⟨⟨a2, s2⟩, h1, h⟩ := bq h
  injection h with h
  subst h
  have : s2.ac = s.ac := by
   split at h1
   ·obtain ⟨_, _, h1⟩ := bq h1
    obtain ⟨c, h2, h1⟩ := bq h1
    injection h1 with h1
    injection h1 with _ h1
    subst h1
    exact wL h2
   ·injection h1 with h1
    injection h1 with _ h1
    subst h1
    rfl
  show s2.ac.length ≤ _ ∧ (_ → s2.ac.length ≤ _)
  rw [this]
  exact ⟨Nat.le_succ _, fun _ => Nat.le_refl _⟩
 obtain ⟨_, _, h⟩ := bq h
 split at h
 ·injection h with h; subst h; exact ⟨Nat.le_succ _, fun _ => Nat.le_refl _⟩
 obtain ⟨_, _, h⟩ := bq h
 obtain ⟨_, _, h⟩ := bq h
 split at h
 ·obtain ⟨g, h1, h⟩ := bq h
  injection h with h
  subst h
  exact ⟨tE h1, fun e => absurd (show (1 : Int) = 0 from e) (by decide)⟩
 obtain ⟨_, _, h⟩ := bq h
 split at h
 ·obtain ⟨g, h1, h⟩ := bq h
  injection h with h
  subst h
  show g.ac.length ≤ _ ∧ (_ → g.ac.length ≤ _)
  rw [F6 h1]
  exact ⟨Nat.le_succ _, fun _ => Nat.le_refl _⟩
 ·injection h with h; subst h; exact ⟨Nat.le_succ _, fun _ => Nat.le_refl _⟩
def Gr (s : aa) (r : (aa × Int) ⊕ (aa × Int × am)) : Prop := match r with | .inl m => m.1.ac.length ≤ s.ac.length | .inr m => m.1.ac.length ≤ s.ac.length + 1
theorem Jo {s0 : aa} {a : aq} {j : Int} {ids : List Int} {n : aX} {f : Bool} {k : Nat} {st : aa × Int} {r : (aa × Int) ⊕ (aa × Int × am)} (hst : st.1.ac.length ≤ s0.ac.length) (h : ah (ic a j ids n f) k st = some r) : Gr s0 r := by
 refine mC (fun st => st.1.ac.length ≤ s0.ac.length) (Gr s0) (fun st r hi h => ?_) k st r hst h
 unfold ic at h
 dsimp only at h
 split at h
 ·obtain ⟨_, _, h⟩ := bq h
  obtain ⟨_, _, h⟩ := bq h
  obtain ⟨_, _, h⟩ := bq h
  obtain ⟨c, hc, h⟩ := bq h
  have hk := G9 hc
  split at h
  ·injection h with h
   subst h
   exact Nat.le_trans hk.1 (Nat.succ_le_succ hi)
  ·rename_i hz
   injection h with h
   subst h
   exact Nat.le_trans (hk.2 (by simpa using hz)) hi
 ·injection h with h
  subst h
  exact hi
theorem Jp {s0 : aa} {ids : List Int} {i : Int} {lv : List ByteArray} {n : aX} {f : Bool} {k : Nat} {st : aa × Int} {r : (aa × Int) ⊕ (aa × Int × am)} (hst : st.1.ac.length ≤ s0.ac.length) (h : ah (ig ids i lv n f) k st = some r) : Gr s0 r := by
 refine mC (fun st => st.1.ac.length ≤ s0.ac.length) (Gr s0) (fun st r hi h => ?_) k st r hst h
 unfold ig at h
 dsimp only at h
 split at h
 ·obtain ⟨_, _, h⟩ := bq h
  obtain ⟨_, _, h⟩ := bq h
  obtain ⟨_, _, h⟩ := bq h
  obtain ⟨_, _, h⟩ := bq h
  split at h
  ·injection h with h
   subst h
   exact hi
  ·obtain ⟨m, hm, h⟩ := bq h
   have hg := Jo (s0 := s0) (st := (st.1, 0)) hi hm
   cases m with
   | inr m => injection h with h; subst h; exact hg
   | inl m => injection h with h; subst h; exact hg
 ·injection h with h
  subst h
  exact hi
theorem tD {s : aa} {n : aX} {f : Bool} {r : aa × Int × am} (h : eh s n f = some r) : r.1.ac.length ≤ s.ac.length + 1 := by
 unfold eh at h
 dsimp only at h
 obtain ⟨lv, _, h⟩ := bq h
 obtain ⟨m, hm, h⟩ := bq h
 have hg : Gr s m := by
  refine mC (f := ij lv n f) (fun st => st.1.ac.length ≤ s.ac.length) (Gr s) (fun st r hi h => ?_) _ (s, 0) m (Nat.le_refl _) hm
  unfold ij at h
  dsimp only at h
  split at h
  ·obtain ⟨_, _, h⟩ := bq h
   obtain ⟨_, _, h⟩ := bq h
   obtain ⟨m, hm, h⟩ := bq h
   have hg := Jp (s0 := s) (st := (st.1, 0)) hi hm
   cases m with
   | inr m => injection h with h; subst h; exact hg
   | inl m => injection h with h; subst h; exact hg
  ·injection h with h
   subst h
   exact hi
 cases m with
 | inr m => injection h with h; subst h; exact hg
 | inl m => injection h with h; subst h; exact Nat.le_succ_of_le hg
theorem F5 {s : aa} {n : aX} {x : bt} {r : aa × Int × am × Bool} (h : sg s n x = some r) : r.1.ac.length ≤ s.ac.length + 1 := by
 unfold sg at h
 dsimp only at h
 obtain ⟨_, _, h⟩ := bq h
 obtain ⟨_, _, h⟩ := bq h
 obtain ⟨_, _, h⟩ := bq h
 obtain ⟨_, _, h⟩ := bq h
 obtain ⟨_, _, h⟩ := bq h
 obtain ⟨_, _, h⟩ := bq h
 obtain ⟨_, _, h⟩ := bq h
 obtain ⟨_, _, h⟩ := bq h
 split at h
 ·obtain ⟨c, hc, h⟩ := bq h
  injection h with h
  subst h
  show c.ac.length ≤ _
  rw [sj hc]
  exact Nat.le_succ _
 ·obtain ⟨_, _, h⟩ := bq h
  obtain ⟨_, _, h⟩ := bq h
  obtain ⟨_, _, h⟩ := bq h
  split at h
  ·injection h with h
   subst h
   exact Nat.le_succ _
  ·obtain ⟨c, hc, h⟩ := bq h
   obtain ⟨g, hg, h⟩ := bq h
   injection h with h
   subst h
   have := tE hg
   rw [sj hc] at this
   exact this
theorem Ha {s : aa} {id : Int} {r : aa × Int × am} (h : vS s id = some r) : r.1.ac.length ≤ s.ac.length + 3 := by
 unfold vS at h
 dsimp only at h
 obtain ⟨nd, _, h⟩ := bq h
 obtain ⟨_, _, h⟩ := bq h
 obtain ⟨_, _, h⟩ := bq h
 obtain ⟨_, _, h⟩ := bq h
 have two : ∀ {t : aa} {n : aX}, (Option.bind (eh t n true) fun c7 => if (c7.2.1 != 0) = true then some (c7.1, c7.2.1, c7.2.2) else Option.bind (eh c7.1 n false) fun c8 => some c8) = some r → r.1.ac.length ≤ t.ac.length + 2 := by
  intro t n h
  obtain ⟨c, hc, h⟩ := bq h
  have k1 := tD hc
  split at h
  ·injection h with h
   subst h
   exact Nat.le_succ_of_le k1
  ·obtain ⟨d, hd, h⟩ := bq h
   injection h with h
   subst h
   have k2 := tD hd
   omega
 split at h
 ·injection h with h
  subst h
  exact Nat.le_add_right _ _
 obtain ⟨c, hc, h⟩ := bq h
 split at h
 ·obtain ⟨k, hk, h⟩ := bq h
  have k1 := F5 hk
  split at h
  ·injection h with h
   subst h
   exact Nat.le_trans k1 (by omega)
  ·have := two h
   omega
 ·have := two h
  omega
theorem F8 {s : aa} {id : Int} {r : aa × List am} (h : p8 s id = some r) : r.1.ac.length ≤ s.ac.length + 9 := by
 unfold p8 at h
 dsimp only at h
 obtain ⟨m, hm, h⟩ := bq h
 injection h with h
 subst h
 refine mC (f := ja id) (fun st => ∃ k : Nat, st.2.2 = (k : Int) ∧ k ≤ 3 ∧ st.1.ac.length ≤ s.ac.length + 3 * k) (fun q => q.1.ac.length ≤ s.ac.length + 9) (fun st r ⟨k, h1, h2, h3⟩ h => ?_) _ (s, [], 0) m ⟨0, rfl, by omega, by simp⟩ hm
 unfold ja at h
 dsimp only at h
 split at h
 ·rename_i hlt
  rw [h1] at hlt
  have hlt : k < 3 := by have := zd hlt; omega
  obtain ⟨c, hc, h⟩ := bq h
  have k1 := Ha hc
  split at h
  ·injection h with h
   subst h
   show c.1.ac.length ≤ _
   omega
  ·obtain ⟨l, hl, h⟩ := bq h
   injection h with h
   subst h
   refine ⟨k + 1, ?_, hlt, ?_⟩
   ·show i64.wrap (st.2.2 + 1) = _
    rw [h1, a6 hlt (show 3 ≤ 1000000 by omega)]
   ·show c.1.ac.length ≤ _
    omega
 ·injection h with h
  subst h
  show st.1.ac.length ≤ _
  omega
def SzM (M : Nat) (s : aa) : Prop := ∃ B, SzS B s ∧ B + s.ac.length ≤ M
theorem SzM.mono {M N : Nat} {s : aa} (h : SzM M s) (hn : M ≤ N) : SzM N s := by
 obtain ⟨B, h1, h2⟩ := h
 exact ⟨B, h1, by omega⟩
theorem SzM.sz {M : Nat} {s : aa} (h : SzM M s) : SzS M s := by
 obtain ⟨B, h1, h2⟩ := h
 exact h1.mono (by omega)
theorem ZB {s : aa} {id : Int} (h : LZ s id = true) : mf s id ∈ s.ac ∧ (mf s id).fId = id := by
 unfold LZ at h
 rw [List.any_eq_true] at h
 obtain ⟨x, hx, e⟩ := h
 unfold mf
 cases hf : s.ac.find? fun c => c.fId == id with
 | none => have := List.find?_eq_none.1 hf x hx; exact absurd e (by simpa using this)
 | some a => exact ⟨List.mem_of_find?_eq_some hf, by simpa using List.find?_some hf⟩
theorem B9 {α : Type} {p : α → Bool} {l : List α} {x : α} (hx : x ∈ l) (hp : p x = false) : (l.filter p).length < l.length :=
 List.length_filter_lt_length_iff_exists.2 ⟨x, hx, by rw [hp]; simp⟩
theorem SzS.putE {B : Nat} {s : aa} (h : SzS B s) {a : aq} (ha : SzA (B + 1) a) {c : List am} {l : List bt} (hc : c.length ≤ B + 1) (hl : l.length ≤ B + 1) : SzS (B + 1) { s with ai := cM aq.fId s.ai a, ac := c, aQ := l } := by
 have k := h.put ha
 exact ⟨k.conf, k.nodes, k.apps, hc, hl, k.plans, k.app⟩
theorem Gj {M : Nat} {s : aa} (h : SzM M s) (hs : jK aq.fId s.ai) (ids : List Int) (hI : ids.length ≤ 1000000) (hM : M + 1 ≤ 1000000) : ∃ r, jg s ids = some r ∧ SzM M r ∧ jK aq.fId r.ai ∧ r.ac.length ≤ s.ac.length := by
 unfold jg
 dsimp only
 rw [Ah ids s hI]
 obtain ⟨r, h1, h2⟩ := aR (g := gF ids) (fin := fun b => (b, (ids.length : Int))) (fun _ b => SzM M b ∧ jK aq.fId b.ai ∧ b.ac.length ≤ s.ac.length) (fun r => SzM M r.1 ∧ jK aq.fId r.1.ai ∧ r.1.ac.length ≤ s.ac.length) ids 0 s (fun j t x hx ⟨ht, hsr, hle⟩ => by
  obtain ⟨B, ht0, hB⟩ := ht
  have k1 := ht0.apps; have k2 := ht0.conts; have k3 := ht0.slots
  have stay : SzM M t ∧ jK aq.fId t.ai ∧ t.ac.length ≤ s.ac.length := ⟨⟨B, ht0, hB⟩, hsr, hle⟩
  unfold gF
  dsimp only
  rw [kH t x (by omega)]
  simp only [zb]
  split
  ·exact ⟨_, rfl, fun a' e => by injection e with e; subst e; exact stay, fun r e => by cases e⟩
  rename_i hnot
  have hct : LZ t x = true := by simpa using hnot
  obtain ⟨hm, hid⟩ := ZB hct
  rw [dy t _ (by omega)]
  simp only [zb]
  have hB1 : B + 1 ≤ 1000000 := by omega
  have ha := (ht0.get (mf t x).bC).mono (Nat.le_succ _)
  split
  ·rw [Ad]
   simp only [zb]
   rw [jf t _ (by omega)]
   simp only [zb]
   rw [Cu _ _ (by show t.ac.length ≤ _; omega) (by show t.aQ.length ≤ _; omega)]
   simp only [zb]
   refine ⟨_, rfl, fun a' e => ?_, fun r e => by cases e⟩
   injection e with e
   subst e
   have hlt := B9 (p := fun c : am => !(c.bC == (mf t x).bC)) hm (by simp)
   refine ⟨⟨B + 1, ht0.putE ?_ (Nat.le_trans (List.length_filter_le _ _) (by show t.ac.length ≤ _; omega)) (Nat.le_trans (List.length_filter_le _ _) (by show t.aQ.length ≤ _; omega)), ?_⟩, iR _ _ _ hsr, ?_⟩
   ·exact ⟨⟨ha.queue.1, ht0.nodes.2.2.1⟩, by simp, Nat.zero_le _, Nat.zero_le _, Nat.zero_le _, Nat.zero_le _⟩
   ·show B + 1 + (List.filter _ t.ac).length ≤ M
    omega
   ·show (List.filter _ t.ac).length ≤ _
    omega
  ·rw [Cw t _ (by omega)]
   have hg := ht0.get (mf t x).bC
   have h5 := hg.grants; have h6 := hg.kills
   simp only [zb]
   rw [ve _ _ (by omega)]
   simp only [zb]
   have hlt := B9 (p := fun c : am => c.fId != (mf t x).fId) hm (by simp)
   have hf := List.length_filter_le (fun c => c != (mf t x).fId) (bQ t (mf t x).bC).bM
   have fin : ∀ a : aq, SzA (B + 1) a → ∃ r, Option.bind (eb { t with ac := t.ac.filter fun c => c.fId != (mf t x).fId } a) (fun c => some (Sum.inl c : aa ⊕ (aa × Int))) = some r ∧ (∀ a', r = .inl a' → SzM M a' ∧ jK aq.fId a'.ai ∧ a'.ac.length ≤ s.ac.length) ∧ ∀ q, r = .inr q → SzM M q.1 ∧ jK aq.fId q.1.ai ∧ q.1.ac.length ≤ s.ac.length := by
    intro a hsa
    rw [jf _ _ (by show t.ai.length + 1 ≤ _; omega)]
    refine ⟨_, rfl, fun a' e => ?_, fun r e => by cases e⟩
    injection e with e
    subst e
    refine ⟨⟨B + 1, ht0.putE (c := t.ac.filter fun c => c.fId != (mf t x).fId) (l := t.aQ) hsa (Nat.le_trans (List.length_filter_le _ _) (by omega)) (by omega), ?_⟩, iR _ _ _ hsr, ?_⟩
    ·show B + 1 + (List.filter _ t.ac).length ≤ M
     omega
    ·show (List.filter _ t.ac).length ≤ _
     omega
   split
   ·rw [aD (by simp; omega)]
    simp only [zb, List.nil_append]
    rw [aD (by simp; omega)]
    simp only [zb]
    refine fin _ ?_
    exact ⟨ha.queue, ha.asks, by show (List.filter _ _).length ≤ _; omega, by show (_ ++ [_]).length ≤ _; simp; omega, ha.told, ha.lost⟩
   ·simp only [zb]
    refine fin _ ?_
    exact ⟨ha.queue, ha.asks, by show (List.filter _ _).length ≤ _; omega, ha.kills, ha.told, ha.lost⟩) (fun b hb => hb) ⟨h, hs, Nat.le_refl _⟩
 rw [h1]
 exact ⟨_, rfl, h2⟩
def fj (v_s : aa) (au : ByteArray) (af : Int) (bV : Int) (ml : Int) (st : Unit) (x_ : aq) : Option ((Unit) ⊕ ((Int) ⊕ (Int))) :=
 let v_a : aq := x_
 let v_k : Int := 0
 (ah (jY v_a au v_s af bV ml) ab v_k).bind fun r15 => match r15 with
 | .inr m16 => some (.inr (.inr m16))
 | .inl m16 =>
 let v_k := m16
 some (.inl ())
theorem xL (v_s : aa) (au : ByteArray) (af : Int) (bV : Int) (ml : Int) (a_ : Unit) (hl : v_s.ai.length ≤ 1000000) : ah (jZ v_s au af bV ml) ab (0) = bk (fj v_s au af bV ml) (fun a_ => (.inl ((v_s.ai.length : Int)))) a_ v_s.ai :=
 ay v_s.ai (S := Int) (fun a_ k_ => (k_)) (fj v_s au af bV ml) (fun a_ => (.inl ((v_s.ai.length : Int)))) (an hl) (fun k a x hx => by
  unfold jZ fj; exact bH)
  (fun a => by unfold jZ; exact cF) a_
def lB (v_l : (List Int)) (v_n : Int) (st : Unit) (x_ : Int) : Option ((Unit) ⊕ ((Int) ⊕ (Bool))) :=
 if (x_ == v_n) = true then
 some (.inr (.inr true))
 else
 some (.inl ())
theorem CO (v_l : (List Int)) (v_n : Int) (a_ : Unit) (hl : v_l.length ≤ 1000000) : ah (oT v_l v_n) ab (0) = bk (lB v_l v_n) (fun a_ => (.inl ((v_l.length : Int)))) a_ v_l :=
 ay v_l (S := Int) (fun a_ k_ => (k_)) (lB v_l v_n) (fun a_ => (.inl ((v_l.length : Int)))) (an hl) (fun k a x hx => by
  unfold oT lB; exact bH)
  (fun a => by unfold oT; exact cF) a_
def eD (v_s : aa) (af : Int) (au : ByteArray) (v_l : (List Int)) (st : Int) (x_ : am) : Option ((Int) ⊕ ((Int × Int))) :=
 let v_n := st
 let v_c : am := x_
 (if (v_c.aY == af) = true then (if (au.toList == (⟨#[]⟩ : ByteArray).toList) = true then some true else (i7 v_s v_c).bind fun c8 => some (c8.toList == au.toList)).bind fun q9 => some q9 else some false).bind fun q10 => (if q10 = true then (if (v_c.jm != 0) = true then some true else (xN v_l v_c.fId).bind fun c11 => some c11).bind fun q12 => some q12 else some false).bind fun q13 => if q13 = true then
 let v_n : Int := (i64.wrap (v_n + v_c.cC.bD))
 some (.inl v_n)
 else
 some (.inl v_n)
theorem wh (v_s : aa) (af : Int) (au : ByteArray) (v_l : (List Int)) (a_ : Int) (hl : v_s.ac.length ≤ 1000000) : ah (jw v_s af au v_l) ab (a_, (0)) = bk (eD v_s af au v_l) (fun a_ => (a_, ((v_s.ac.length : Int)))) a_ v_s.ac :=
 ay v_s.ac (S := Int × Int) (fun a_ k_ => (a_, (k_))) (eD v_s af au v_l) (fun a_ => (a_, ((v_s.ac.length : Int)))) (an hl) (fun k a x hx => by
  unfold jw eD; exact bH)
  (fun a => by unfold jw; exact cF) a_
def eB (v_s : aa) (af : Int) (au : ByteArray) (v_l : (List Int)) (st : am × Bool) (x_ : am) : Option ((am × Bool) ⊕ ((am × Bool × Int))) :=
 let cL := st.1
 let bS := st.2
 let v_c : am := x_
 (if (v_c.aY != af) = true then some true else (i7 v_s v_c).bind fun c15 => some (!(c15.toList == au.toList))).bind fun q16 => (if q16 = true then some true else some (v_c.jm != 0)).bind fun q17 => (if q17 = true then some true else (xN v_l v_c.fId).bind fun c18 => some c18).bind fun q19 => if q19 = true then
 some (.inl (cL, bS))
 else
 (if (!bS) = true then some true else (if cL.bB = true then some (!v_c.bB) else some false).bind fun q20 => some q20).bind fun q21 => (if q21 = true then some true else (if (cL.bB == v_c.bB) = true then some (decide (v_c.fId > cL.fId)) else some false).bind fun q22 => some q22).bind fun q23 => if q23 = true then
 let t24 : am := v_c
 let t25 : Bool := true
 let cL : am := t24
 let bS : Bool := t25
 some (.inl (cL, bS))
 else
 some (.inl (cL, bS))
theorem wg (v_s : aa) (af : Int) (au : ByteArray) (v_l : (List Int)) (a_ : am × Bool) (hl : v_s.ac.length ≤ 1000000) : ah (jv v_s af au v_l) ab (a_.1, a_.2, (0)) = bk (eB v_s af au v_l) (fun a_ => (a_.1, a_.2, ((v_s.ac.length : Int)))) a_ v_s.ac :=
 ay v_s.ac (S := am × Bool × Int) (fun a_ k_ => (a_.1, a_.2, (k_))) (eB v_s af au v_l) (fun a_ => (a_.1, a_.2, ((v_s.ac.length : Int)))) (an hl) (fun k a x hx => by
  unfold jv eB; exact bH)
  (fun a => by unfold jv; exact cF) a_
def gm (bP : (List aj)) (v_s : aa) (af : Int) (st : Int) (x_ : aj) : Option ((Int) ⊕ ((Int × Int))) :=
 let kP := st
 (se v_s x_.aF af).bind fun c6 => let kP : Int := (i64.wrap (kP + c6))
 some (.inl kP)
theorem zC (bP : (List aj)) (v_s : aa) (af : Int) (a_ : Int) (hl : bP.length ≤ 1000000) : ah (lD bP v_s af) ab (a_, (0)) = bk (gm bP v_s af) (fun a_ => (a_, ((bP.length : Int)))) a_ bP :=
 ay bP (S := Int × Int) (fun a_ k_ => (a_, (k_))) (gm bP v_s af) (fun a_ => (a_, ((bP.length : Int)))) (an hl) (fun k a x hx => by
  unfold lD gm; exact bH)
  (fun a => by unfold lD; exact cF) a_
def gj (bP : (List aj)) (v_s : aa) (af : Int) (v_l : (List Int)) (st : Int × am) (x_ : aj) : Option ((Int × am) ⊕ ((Int × am × Int))) :=
 let cm := st.1
 let v_x := st.2
 let v_p : ByteArray := x_.aF
 (eG v_s v_p af).bind fun c18 => (mN v_s v_p af v_l).bind fun c19 => let DJ : Int := (i64.wrap ((i64.wrap (c18.bD - x_.bD)) - c19))
 (pX v_s v_p af v_l).bind fun c20 => let v_c : am := c20.1
 let bS : Bool := c20.2
 (if bS = true then some (decide (DJ > cm)) else some false).bind fun q21 => if q21 = true then
 let t22 : Int := DJ
 let t23 : am := v_c
 let cm : Int := t22
 let v_x : am := t23
 some (.inl (cm, v_x))
 else
 some (.inl (cm, v_x))
theorem zB (bP : (List aj)) (v_s : aa) (af : Int) (v_l : (List Int)) (a_ : Int × am) (hl : bP.length ≤ 1000000) : ah (lC bP v_s af v_l) ab (a_.1, a_.2, (0)) = bk (gj bP v_s af v_l) (fun a_ => (a_.1, a_.2, ((bP.length : Int)))) a_ bP :=
 ay bP (S := Int × am × Int) (fun a_ k_ => (a_.1, a_.2, (k_))) (gj bP v_s af v_l) (fun a_ => (a_.1, a_.2, ((bP.length : Int)))) (an hl) (fun k a x hx => by
  unfold lC gj; exact bH)
  (fun a => by unfold lC; exact cF) a_
def gp (kO : aa) (ye : aa) (st : (List Int)) (x_ : am) : Option (((List Int)) ⊕ (((List Int) × Int))) :=
 let v_l := st
 (eL ye x_.fId).bind fun c5 => let bS : Bool := c5.2
 if (!bS) = true then
 (aU v_l [x_.fId]).bind fun b6 => let v_l : (List Int) := b6
 some (.inl v_l)
 else
 some (.inl v_l)
theorem zE (kO : aa) (ye : aa) (a_ : (List Int)) (hl : kO.ac.length ≤ 1000000) : ah (lG kO ye) ab (a_, (0)) = bk (gp kO ye) (fun a_ => (a_, ((kO.ac.length : Int)))) a_ kO.ac :=
 ay kO.ac (S := (List Int) × Int) (fun a_ k_ => (a_, (k_))) (gp kO ye) (fun a_ => (a_, ((kO.ac.length : Int)))) (an hl) (fun k a x hx => by
  unfold lG gp; exact bH)
  (fun a => by unfold lG; exact cF) a_
def gh (v_l : (List am)) (af : Int) (st : aa) (x_ : am) : Option ((aa) ⊕ ((aa × Int))) :=
 let v_s := st
 (eL v_s x_.fId).bind fun c15 => let wV : am := c15.1
 let bS : Bool := c15.2
 if (!bS) = true then
 some (.inl v_s)
 else
 (i7 v_s wV).bind fun c16 => (eG v_s c16 af).bind fun c17 => (pV v_s wV).bind fun c18 => (i7 v_s wV).bind fun c19 => (zF v_s af c19).bind fun c20 => if (decide ((i64.wrap (c17.bD - c18)) > c20)) = true then
 (jg v_s ([wV.fId] : (List Int))).bind fun c21 => let v_s : aa := c21
 some (.inl v_s)
 else
 (nQ v_s wV.fId 0).bind fun c22 => let v_s : aa := c22
 some (.inl v_s)
theorem zy (v_l : (List am)) (af : Int) (a_ : aa) (hl : v_l.length ≤ 1000000) : ah (lA v_l af) ab (a_, (0)) = bk (gh v_l af) (fun a_ => (a_, ((v_l.length : Int)))) a_ v_l :=
 ay v_l (S := aa × Int) (fun a_ k_ => (a_, (k_))) (gh v_l af) (fun a_ => (a_, ((v_l.length : Int)))) (an hl) (fun k a x hx => by
  unfold lA gh; exact bH)
  (fun a => by unfold lA; exact cF) a_
def fm (v_l : (List Int)) (st : aa) (x_ : Int) : Option ((aa) ⊕ ((aa × Int))) :=
 let v_s := st
 (nQ v_s x_ (if 1 > v_s.bW then 1 else v_s.bW)).bind fun c5 => let v_s : aa := c5
 some (.inl v_s)
theorem xO (v_l : (List Int)) (a_ : aa) (hl : v_l.length ≤ 1000000) : ah (j7 v_l) ab (a_, (0)) = bk (fm v_l) (fun a_ => (a_, ((v_l.length : Int)))) a_ v_l :=
 ay v_l (S := aa × Int) (fun a_ k_ => (a_, (k_))) (fm v_l) (fun a_ => (a_, ((v_l.length : Int)))) (an hl) (fun k a x hx => by
  unfold j7 fm; exact bH)
  (fun a => by unfold j7; exact cF) a_
def eE (v_l : (List aj)) (st : (List aj)) (v_i : Int) (x_ : aj) : Option (((List aj)) ⊕ (((List aj) × Int))) :=
 let al := st
 let v_k : Int := 0
 (ah (gr al v_i v_l) ab v_k).bind fun r13 =>
 let v_k := r13
 (hiO al v_k).bind fun b14 => (aU ([] : (List aj)) b14).bind fun b15 => let v_x : (List aj) := b15
 (aU v_x [x_]).bind fun b16 => let v_x : (List aj) := b16
 (loO al v_k).bind fun b17 => (aU v_x b17).bind fun b18 => let al : (List aj) := b18
 some (.inl al)
theorem wi (v_l : (List aj)) (a_ : (List aj)) (hl : v_l.length ≤ 1000000) : ah (jx v_l) ab (a_, (0)) = ny (eE v_l) (fun a_ => (a_, ((v_l.length : Int)))) a_ 0 v_l :=
 fa v_l (S := (List aj) × Int) (fun a_ k_ => (a_, (k_))) (eE v_l) (fun a_ => (a_, ((v_l.length : Int)))) (an hl) (fun k a x hx => by
  unfold jx eE; exact bH)
  (fun a => by unfold jx; exact cF) a_
def ka (v_l : (List aj)) (au : ByteArray) (st : Unit) (x_ : aj) : Option ((Unit) ⊕ ((Int) ⊕ (Int))) :=
 if (x_.aF.toList == au.toList) = true then
 some (.inr (.inr x_.bD))
 else
 some (.inl ())
theorem BB (v_l : (List aj)) (au : ByteArray) (a_ : Unit) (hl : v_l.length ≤ 1000000) : ah (nn v_l au) ab (0) = bk (ka v_l au) (fun a_ => (.inl ((v_l.length : Int)))) a_ v_l :=
 ay v_l (S := Int) (fun a_ k_ => (k_)) (ka v_l au) (fun a_ => (.inl ((v_l.length : Int)))) (an hl) (fun k a x hx => by
  unfold nn ka; exact bH)
  (fun a => by unfold nn; exact cF) a_
def VS (n : Int) : Int := if (decide (n < 0) || decide (n > 1125899906842624)) = true then 0 else n
theorem uX (n : Int) : lH n = some (VS n) := by
 unfold lH VS
 simp only [orB, zb]
 split <;> rfl
theorem KE (t : Int) (a b c : List Int) (hN : a.length ≤ 1000) (hb : b.length = a.length) (hc : c.length = a.length) : ∃ r, vO t a b c = some r ∧ r.length = a.length := by
 have hn : (if (c.length : Int) < (if (b.length : Int) < (a.length : Int) then (b.length : Int) else (a.length : Int)) then (c.length : Int) else (if (b.length : Int) < (a.length : Int) then (b.length : Int) else (a.length : Int))) = (a.length : Int) := by
  rw [hb, hc]
  simp
 unfold vO
 simp only [hn, uX, zb]
 obtain ⟨r, e1, e2⟩ := aM (f := od (a.length : Int) a b c) (fun st => ∃ k : Nat, st.2.2 = (k : Int) ∧ k ≤ a.length ∧ st.1.length = k) (fun st => a.length - st.2.2.toNat) (fun r => r.1.length = a.length) (fun st ⟨k, h1, h2, h3⟩ => by
  unfold od
  simp only [h1]
  by_cases hlt : k < a.length
  ·have g1 : a[k]? = some a[k] := zq hlt
   have g2 : b[k]? = some (b[k]'(by omega)) := zq (by omega)
   have g3 : c[k]? = some (c[k]'(by omega)) := zq (by omega)
   simp only [bJ g1, if_true, aC g1, aC g2, aC g3, uX, zb, a6 hlt (show a.length ≤ 1000000 by omega)]
   rw [aD (by simp; omega)]
   exact .inl ⟨_, rfl, ⟨k + 1, rfl, hlt, by simp; omega⟩, by simp only [zt]; omega⟩
  ·have : k = a.length := by omega
   subst this
   simp only [bz, zf, if_false]
   exact .inr ⟨_, rfl, h3⟩) ab ([], VS t, 0) ⟨0, rfl, Nat.zero_le _, rfl⟩ (by have := an (show a.length ≤ 1000000 by omega); omega)
 rw [e1]
 simp only [zb]
 obtain ⟨q, f1, f2⟩ := aM (f := ob (a.length : Int) b c) (fun st => ∃ k : Nat, st.2.2 = (k : Int) ∧ k ≤ a.length ∧ st.1.length = a.length) (fun st => a.length - st.2.2.toNat) (fun r => r.1.length = a.length) (fun st ⟨k, h1, h2, h3⟩ => by
  unfold ob
  simp only [h1]
  by_cases hlt : k < a.length
  ·have g1 : a[k]? = some a[k] := zq hlt
   have g2 : b[k]? = some (b[k]'(by omega)) := zq (by omega)
   have g3 : c[k]? = some (c[k]'(by omega)) := zq (by omega)
   have g4 : st.1[k]? = some (st.1[k]'(by omega)) := zq (by omega)
   simp only [bJ g1, if_true, aC g2, aC g3, aC g4, uX, zb, a6 hlt (show a.length ≤ 1000000 by omega), zt]
   exact .inl ⟨_, rfl, ⟨k + 1, rfl, hlt, by simp; omega⟩, by simp only [zt]; omega⟩
  ·have : k = a.length := by omega
   subst this
   simp only [bz, zf, if_false]
   exact .inr ⟨_, rfl, h3⟩) ab (r.1, r.2.1, 0) ⟨0, rfl, Nat.zero_le _, e2⟩ (by have := an (show a.length ≤ 1000000 by omega); omega)
 rw [f1]
 exact ⟨_, rfl, f2⟩
theorem Cm {B : Nat} {s : aa} (h : SzS B s) (hD : Deep s.bN) (hB : B ≤ 1000000) (k : Int) : ∀ (d n : Nat) (p : ByteArray) (v : Int), 4 - dv 6 p ≤ d → d < n → d ≤ 4 → ∃ r, lI n s p k v = some r ∧ r.length ≤ 16 ^ d
 | d, 0, p, _, _, hn, _ => absurd hn (Nat.not_lt_zero _)
 | d, n + 1, p, v, hp, hn, hd => by
  obtain ⟨m, h2, h3, h4⟩ := tc s.bN p h.conf.sz
  have hq := hD.few
  have k2 := h.nodes.1
  unfold lI
  simp only [h2, zb]
  split
  ·exact ⟨_, rfl, by show 1 ≤ 16 ^ d; exact Nat.one_le_pow _ _ (by omega)⟩
  ·rename_i hne
   have hm : 0 < m.length := by
    rcases Nat.eq_zero_or_pos m.length with h0 | h0
    ·rw [h0] at hne; exact absurd rfl hne
    ·exact h0
   have kid := Ch s.bN p h.conf.sz h2
   have kd : ∀ x ∈ m, dv 6 p + 1 = dv 6 x ∧ dv 6 x ≤ 4 := fun x hx => by
    obtain ⟨⟨q, hq1, hq2⟩, a1, a2⟩ := kid x hx
    subst hq2
    exact ⟨It a1 a2 (h.conf.sz.paths q hq1) (hD.deep q hq1), hD.deep q hq1⟩
   have hd0 : 0 < d := by
    obtain ⟨a1, a2⟩ := kd m[0] (List.getElem_mem hm)
    omega
   obtain ⟨d', rfl⟩ : ∃ d', d = d' + 1 := ⟨d - 1, by omega⟩
   have hpow : 16 ^ d' ≤ 16 ^ 3 := Nat.pow_le_pow_right (by omega) (by omega)
   have hm1 : m.length ≤ 1000000 := by omega
   obtain ⟨r, e1, e2⟩ := aM (f := p6 (lI n) m s k) (fun st => ∃ i : Nat, st.2.2.2 = (i : Int) ∧ i ≤ m.length ∧ st.1.length = i ∧ st.2.1.length = i ∧ st.2.2.1.length = i) (fun st => m.length - st.2.2.2.toNat) (fun r => r.1.length = m.length ∧ r.2.1.length = m.length ∧ r.2.2.1.length = m.length) (fun st ⟨i, i1, i2, i3, i4, i5⟩ => by
    unfold p6
    simp only [i1]
    by_cases hlt : i < m.length
    ·have g1 : m[i]? = some m[i] := zq hlt
     obtain ⟨u, hu⟩ := fp h hB m[i] k
     obtain ⟨w, hw⟩ := u9 h hB m[i] k
     simp only [bJ g1, if_true, aC g1, nL s _ k h.conf (Nat.le_trans k2 hB), FK s _ k h.conf (Nat.le_trans k2 hB), hu, hw, zb, a6 hlt hm1]
     rw [aD (by simp; omega)]
     simp only [zb]
     rw [aD (by simp; omega)]
     simp only [zb]
     rw [aD (by simp; omega)]
     exact .inl ⟨_, rfl, ⟨i + 1, rfl, hlt, by simp; omega, by simp; omega, by simp; omega⟩, by simp only [zt]; omega⟩
    ·have : i = m.length := by omega
     subst this
     simp only [bz, zf, if_false]
     exact .inr ⟨_, rfl, i3, i4, i5⟩) ab ([], [], [], 0) ⟨0, rfl, Nat.zero_le _, rfl, rfl, rfl⟩ (by have := an hm1; omega)
   rw [e1]
   simp only [zb]
   obtain ⟨x, x1, x2⟩ := KE v r.1 r.2.2.1 r.2.1 (by omega) (by omega) (by omega)
   rw [x1]
   simp only [zb]
   obtain ⟨q, f1, f2⟩ := aM (f := p5 (lI n) m s k x) (fun st => ∃ i : Nat, st.2 = (i : Int) ∧ i ≤ m.length ∧ st.1.length ≤ i * 16 ^ d') (fun st => m.length - st.2.toNat) (fun r => r.1.length ≤ m.length * 16 ^ d') (fun st ⟨i, i1, i2, i3⟩ => by
    unfold p5
    simp only [i1]
    by_cases hlt : i < m.length
    ·have g1 : m[i]? = some m[i] := zq hlt
     have g2 : x[i]? = some (x[i]'(by omega)) := zq (by omega)
     obtain ⟨a1, a2⟩ := kd m[i] (List.getElem_mem hlt)
     obtain ⟨c, c1, c2⟩ := Cm h hD hB k d' n m[i] (x[i]'(by omega)) (by omega) (by omega) (by omega)
     have hj2 : i * 16 ^ d' ≤ 16 * 16 ^ 3 := Nat.mul_le_mul (by omega) hpow
     simp only [bJ g1, if_true, aC g1, aC g2, c1, zb, a6 hlt hm1]
     rw [aD (by omega)]
     refine .inl ⟨_, rfl, ⟨i + 1, rfl, hlt, ?_⟩, by simp only [zt]; omega⟩
     show (st.1 ++ c).length ≤ _
     rw [List.length_append, Nat.succ_mul]
     omega
    ·have : i = m.length := by omega
     subst this
     simp only [bz, zf, if_false]
     exact .inr ⟨_, rfl, i3⟩) ab ([], 0) ⟨0, rfl, Nat.zero_le _, by simp⟩ (by have := an hm1; omega)
   rw [f1]
   refine ⟨_, rfl, Nat.le_trans f2 ?_⟩
   rw [Nat.pow_succ, Nat.mul_comm]
   exact Nat.mul_le_mul_left _ (by omega)
theorem wE {B : Nat} {s : aa} (h : SzS B s) (hD : Deep s.bN) (hB : B ≤ 1000000) (k : Int) : ∃ r, p7 s k = some r ∧ r.length ≤ 65536 := by
 obtain ⟨l, h1, h2⟩ := Cm h hD hB k 4 ab ⟨#[114, 111, 111, 116]⟩ (uM s k).bD (by omega) (by unfold ab; omega) (by omega)
 have h2 : l.length ≤ 65536 := h2
 have k2 := h.nodes.1
 unfold p7
 simp only [nK s k (Nat.le_trans k2 hB), h1, zb]
 rw [wi l [] (by omega)]
 obtain ⟨r, e1, e2⟩ := mu (g := eE l) (fin := fun b => (b, (l.length : Int))) (fun j b => b.length ≤ j) (fun r => r.1.length ≤ l.length) l 0 [] (fun j out x hx ho => by
  have hj := (zg.1 hx).1
  obtain ⟨K, hK1, hK2⟩ := nB out (by omega) (f := gr out ((0 + j : Nat) : Int) l) (fun i y hy => by
   have hi := (zg.1 hy).1
   refine ⟨Op.bytesLess y.aF.toList x.aF.toList, ?_⟩
   unfold gr
   simp only [bJ hy, if_true, aC hy, aC (show l[0 + j]? = some x by rwa [Nat.zero_add]), zb, a6 hi (show out.length ≤ 1000000 by omega)]) (by unfold gr; simp only [bz, zf, if_false, zb])
  unfold eE
  dsimp only
  rw [hK1]
  simp only [zb]
  rw [nZ hK2]
  simp only [zb]
  rw [aD (by simp; omega)]
  simp only [zb]
  rw [aD (by simp; omega)]
  simp only [zb]
  rw [ko hK2]
  simp only [zb]
  rw [aD (by simp; omega)]
  refine ⟨_, rfl, fun a' e => ?_, fun r e => by cases e⟩
  injection e with e
  subst e
  simp; omega) (fun b hb => by simpa using hb) (by simp)
 rw [e1]
 exact ⟨_, rfl, by show r.1.length ≤ _; omega⟩
theorem Qi {B : Nat} {s : aa} (h : SzS B s) (hD : Deep s.bN) (hB : B ≤ 1000000) (k : Int) (p : ByteArray) : ∃ r, zF s k p = some r := by
 obtain ⟨l, h1, h2⟩ := wE h hD hB k
 unfold zF
 rw [h1]
 dsimp only [zb]
 rw [BB l p () (by omega), show ka l p = fun (_ : Unit) x => if (x.aF.toList == p.toList) = true then some (.inr (.inr x.bD)) else some (.inl ()) from rfl,
  kA (fun x : aj => x.aF.toList == p.toList) (fun x => (Sum.inr x.bD : Int ⊕ Int)) (.inl (l.length : Int)) l]
 simp only [zb]
 cases l.find? fun x => x.aF.toList == p.toList <;> exact ⟨_, rfl⟩
end Go.Proofs.YtmjkjaahbgikjaaGreat
