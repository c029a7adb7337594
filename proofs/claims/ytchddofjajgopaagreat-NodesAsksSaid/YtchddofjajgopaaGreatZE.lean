/- My texts, in one. -/
import Derived.Test.YtchddofjajgopaaGreatZD
set_option linter.all false
set_option maxRecDepth 100000
set_option maxHeartbeats 4000000
namespace Go.Proofs.YtchddofjajgopaaGreat
open Go.RowKit
open IntKind (i64)
open Go.Proofs.Tryz (prog)
def sk (v_s : ByteArray) (v_c : Int) (st : (List ByteArray) × Int × Int) : Option (((List ByteArray) × Int × Int) ⊕ (((List ByteArray) × Int × Int))) :=
let v_l := st.1
let n6 := st.2.1
let v_i := st.2.2
if (decide (v_i < (v_s.size : Int))) = true then
(kM v_s v_i).bind fun b1 => if (b1 == v_c) = true then
(Il v_s n6 v_i).bind fun b2 => (aU v_l [b2]).bind fun b3 => let v_l : (List ByteArray) := b3
let n6 : Int := (i64.wrap (v_i + 1))
let v_i : Int := (i64.wrap (v_i + 1))
some (.inl (v_l, n6, v_i))
else
let v_i : Int := (i64.wrap (v_i + 1))
some (.inl (v_l, n6, v_i))
else
some (.inr (v_l, n6, v_i))
def EP (v_s : ByteArray) (v_c : Int) : Option ((List ByteArray)) :=
let v_l : (List ByteArray) := []
let n6 : Int := 0
let v_i : Int := 0
(ah (sk v_s v_c) ab (v_l, n6, v_i)).bind fun r4 =>
let v_l := r4.1
let n6 := r4.2.1
let v_i := r4.2.2
(if (decide (n6 < (v_s.size : Int))) = true then
(Q1 v_s n6).bind fun b6 => (aU v_l [b6]).bind fun b7 => let v_l : (List ByteArray) := b7
some v_l
else
some v_l).bind fun j5 => let v_l := j5
some v_l
def ph (v_l : (List ByteArray)) (st : (List ByteArray) × Int) : Option (((List ByteArray) × Int) ⊕ (((List ByteArray) × Int))) :=
let aj := st.1
let v_i := st.2
if (decide (v_i < (v_l.length : Int))) = true then
(ax v_l v_i).bind fun b2 => if (!(b2.toList == (⟨#[]⟩ : ByteArray).toList)) = true then
(ax v_l v_i).bind fun b3 => (aU aj [b3]).bind fun b4 => let aj : (List ByteArray) := b4
let v_i : Int := (i64.wrap (v_i + 1))
some (.inl (aj, v_i))
else
let v_i : Int := (i64.wrap (v_i + 1))
some (.inl (aj, v_i))
else
some (.inr (aj, v_i))
def yl (v_s : ByteArray) : Option ((List ByteArray)) :=
let aj : (List ByteArray) := []
(EP v_s 32).bind fun c1 => let v_l : (List ByteArray) := c1
let v_i : Int := 0
(ah (ph v_l) ab (aj, v_i)).bind fun r5 =>
let aj := r5.1
let v_i := r5.2
some aj
def nS (v_s : ByteArray) (st : Int × Int) : Option ((Int × Int) ⊕ ((Int × Int) ⊕ (Int × Bool))) :=
let v_n := st.1
let v_i := st.2
if (decide (v_i < (v_s.size : Int))) = true then
(kM v_s v_i).bind fun b5 => (if (decide (b5 < 48)) = true then some true else (kM v_s v_i).bind fun b6 => some (decide (b6 > 57))).bind fun q7 => if q7 = true then
some (.inr (.inr (0, false)))
else
(kM v_s v_i).bind fun b8 => let v_n : Int := (i64.wrap ((i64.wrap (v_n * 10)) + (i64.wrap (IntKind.u8.wrap (b8 - 48)))))
let v_i : Int := (i64.wrap (v_i + 1))
some (.inl (v_n, v_i))
else
some (.inr (.inl (v_n, v_i)))
def oI (v_s : ByteArray) : Option (Int × Bool) :=
(if (decide ((v_s.size : Int) < 1)) = true then some true else some (decide ((v_s.size : Int) > 7))).bind fun q1 => (if q1 = true then some true else (kM v_s 0).bind fun b2 => (if (b2 == 48) = true then some (decide ((v_s.size : Int) > 1)) else some false).bind fun q3 => some q3).bind fun q4 => if q4 = true then
some (0, false)
else
let v_n : Int := 0
let v_i : Int := 0
(ah (nS v_s) ab (v_n, v_i)).bind fun r9 => match r9 with
| .inr m10 => some m10
| .inl m10 =>
let v_n := m10.1
let v_i := m10.2
some (v_n, true)
def pj (v_s : ByteArray) (st : Int) : Option ((Int) ⊕ ((Int))) :=
let v_k := st
(if (decide (v_k < (v_s.size : Int))) = true then (kM v_s v_k).bind fun b1 => some (b1 != 47) else some false).bind fun q2 => if q2 = true then
let v_k : Int := (i64.wrap (v_k + 1))
some (.inl v_k)
else
some (.inr v_k)
def ym (v_s : ByteArray) : Option (dV × Bool) :=
let v_k : Int := 0
(ah (pj v_s) ab v_k).bind fun r3 =>
let v_k := r3
if (v_k == (v_s.size : Int)) = true then
some ((⟨0, 0⟩ : dV), false)
else
(M5 v_s v_k).bind fun b4 => (oI b4).bind fun c5 => let v_a : Int := c5.1
let v_p : Bool := c5.2
(Q1 v_s (i64.wrap (v_k + 1))).bind fun b6 => (oI b6).bind fun c7 => let v_b : Int := c7.1
let v_q : Bool := c7.2
(if v_p = true then some v_q else some false).bind fun q8 => some ((⟨v_a, v_b⟩ : dV), q8)
def pk (v_w : (List ByteArray)) (st : Bool × aC × Int) : Option ((Bool × aC × Int) ⊕ ((Bool × aC × Int))) :=
let FB := st.1
let v_q := st.2.1
let v_i := st.2.2
(if (decide (v_i < (v_w.length : Int))) = true then some FB else some false).bind fun q6 => if q6 = true then
let v_c : dV := (⟨0, 0⟩ : dV)
(ax v_w v_i).bind fun b7 => (ym b7).bind fun c8 => let v_c : dV := c8.1
let FB : Bool := c8.2
(aU v_q.bz [v_c]).bind fun b9 => let v_q : aC := { v_q with bz := b9 }
let v_i : Int := (i64.wrap (v_i + 1))
some (.inl (FB, v_q, v_i))
else
some (.inr (FB, v_q, v_i))
def yn (v_w : (List ByteArray)) (qz : Int) : Option (aC × Bool) :=
(if ((v_w.length : Int) != (i64.wrap (3 + qz))) = true then some true else (ax v_w 0).bind fun b1 => some (!(b1.toList == (⟨#[113, 117, 101, 117, 101]⟩ : ByteArray).toList))).bind fun q2 => if q2 = true then
some ((⟨⟨#[]⟩, [], 0⟩ : aC), false)
else
(ax v_w 2).bind fun b3 => (oI b3).bind fun c4 => let v_n : Int := c4.1
let FB : Bool := c4.2
(ax v_w 1).bind fun b5 => let v_q : aC := (⟨b5, [], v_n⟩ : aC)
let v_i : Int := 3
(ah (pk v_w) ab (FB, v_q, v_i)).bind fun r10 =>
let FB := r10.1
let v_q := r10.2.1
let v_i := r10.2.2
some (v_q, FB)
def pm (v_c : az) (v_q : aC) (st : Int) : Option ((Int) ⊕ ((Int))) :=
let v_k := st
(if (decide (v_k < (v_c.ae.length : Int))) = true then (ax v_c.ae v_k).bind fun b10 => some (Op.bytesLess b10.aI.toList v_q.aI.toList) else some false).bind fun q11 => if q11 = true then
let v_k : Int := (i64.wrap (v_k + 1))
some (.inl v_k)
else
some (.inr v_k)
def pn (v_l : (List ByteArray)) (st : az × Bool × Int) : Option ((az × Bool × Int) ⊕ ((az × Bool × Int) ⊕ (az × Int))) :=
let v_c := st.1
let mM := st.2.1
let v_i := st.2.2
if (decide (v_i < (v_l.length : Int))) = true then
(ax v_l v_i).bind fun b2 => (yl b2).bind fun c3 => let v_w : (List ByteArray) := c3
if ((v_w.length : Int) == 0) = true then
let v_i : Int := (i64.wrap (v_i + 1))
some (.inl (v_c, mM, v_i))
else
if ((v_c.ak.length : Int) == 0) = true then
(ax v_w 0).bind fun b4 => if (!(b4.toList == (⟨#[108, 97, 98, 101, 108, 115]⟩ : ByteArray).toList)) = true then
some (.inr (.inr ((⟨[], []⟩ : az), 6)))
else
if (decide ((v_w.length : Int) > 3)) = true then
some (.inr (.inr ((⟨[], []⟩ : az), 4)))
else
(loO v_w 1).bind fun b5 => (aU ([(⟨#[]⟩ : ByteArray)] : (List ByteArray)) b5).bind fun b6 => let v_c : az := { v_c with ak := b6 }
let v_i : Int := (i64.wrap (v_i + 1))
some (.inl (v_c, mM, v_i))
else
(if ((v_c.ae.length : Int) == 16) = true then (ax v_w 0).bind fun b7 => some (b7.toList == (⟨#[113, 117, 101, 117, 101]⟩ : ByteArray).toList) else some false).bind fun q8 => if q8 = true then
some (.inr (.inr ((⟨[], []⟩ : az), 4)))
else
(yn v_w (v_c.ak.length : Int)).bind fun c9 => let v_q : aC := c9.1
let FB : Bool := c9.2
if (!FB) = true then
some (.inr (.inr ((⟨[], []⟩ : az), 6)))
else
let v_k : Int := 0
(ah (pm v_c v_q) ab v_k).bind fun r12 =>
let v_k := r12
(if mM = true then some true else (if (decide (v_k < (v_c.ae.length : Int))) = true then (ax v_c.ae v_k).bind fun b13 => some (b13.aI.toList == v_q.aI.toList) else some false).bind fun q14 => some q14).bind fun q15 => let mM : Bool := q15
(hiO v_c.ae v_k).bind fun b16 => (aU ([] : (List aC)) b16).bind fun b17 => let v_x : (List aC) := b17
(aU v_x [v_q]).bind fun b18 => (loO v_c.ae v_k).bind fun b19 => (aU b18 b19).bind fun b20 => let v_c : az := { v_c with ae := b20 }
let v_i : Int := (i64.wrap (v_i + 1))
some (.inl (v_c, mM, v_i))
else
some (.inr (.inl (v_c, mM, v_i)))
def yp (v_s : ByteArray) : Option (az × Int) :=
if (decide ((v_s.size : Int) > 2000)) = true then
some ((⟨[], []⟩ : az), 5)
else
let v_c : az := (⟨[], []⟩ : az)
let mM : Bool := false
(EP v_s 10).bind fun c1 => let v_l : (List ByteArray) := c1
let v_i : Int := 0
(ah (pn v_l) ab (v_c, mM, v_i)).bind fun r21 => match r21 with
| .inr m22 => some m22
| .inl m22 =>
let v_c := m22.1
let mM := m22.2.1
let v_i := m22.2.2
if ((v_c.ak.length : Int) == 0) = true then
some ((⟨[], []⟩ : az), 6)
else
if mM = true then
some ((⟨[], []⟩ : az), 7)
else
some (v_c, 0)
def dn : Nat → Int → Option (ByteArray)
| 0 => fun _ => none
| fuel + 1 => fun v_n =>
let self := dn fuel
if (decide (v_n < 0)) = true then
if (v_n == (-9223372036854775808)) = true then
some (⟨#[45, 57, 50, 50, 51, 51, 55, 50, 48, 51, 54, 56, 53, 52, 55, 55, 53, 56, 48, 56]⟩ : ByteArray)
else
(self (i64.wrap (0 - v_n))).bind fun c1 => (lY (⟨#[45]⟩ : ByteArray) c1).bind fun b2 => some b2
else
if (decide (v_n ≥ 10)) = true then
(self (i64.wrap (Int.tdiv v_n 10))).bind fun c3 => (self (Int.tmod v_n 10)).bind fun c4 => (lY c3 c4).bind fun b5 => some b5
else
(VD ([(IntKind.u8.wrap (i64.wrap (48 + v_n)))] : (List Int))).bind fun b6 => some b6
def qt (v_c : az) (st : ByteArray × Int) : Option ((ByteArray × Int) ⊕ ((ByteArray × Int))) :=
let aj := st.1
let v_i := st.2
if (decide (v_i < (v_c.ak.length : Int))) = true then
(lY aj (⟨#[32]⟩ : ByteArray)).bind fun b1 => (ax v_c.ak v_i).bind fun b2 => (lY b1 b2).bind fun b3 => let aj : ByteArray := b3
let v_i : Int := (i64.wrap (v_i + 1))
some (.inl (aj, v_i))
else
some (.inr (aj, v_i))
def qq (v_q : aC) (st : ByteArray × Int) : Option ((ByteArray × Int) ⊕ ((ByteArray × Int))) :=
let aj := st.1
let v_k := st.2
if (decide (v_k < (v_q.bz.length : Int))) = true then
(lY aj (⟨#[32]⟩ : ByteArray)).bind fun b12 => (ax v_q.bz v_k).bind fun b13 => (dn ab b13.jz).bind fun c14 => (lY b12 c14).bind fun b15 => (lY b15 (⟨#[47]⟩ : ByteArray)).bind fun b16 => (ax v_q.bz v_k).bind fun b17 => (dn ab b17.pY).bind fun c18 => (lY b16 c18).bind fun b19 => let aj : ByteArray := b19
let v_k : Int := (i64.wrap (v_k + 1))
some (.inl (aj, v_k))
else
some (.inr (aj, v_k))
def qr (v_c : az) (st : ByteArray × Int) : Option ((ByteArray × Int) ⊕ ((ByteArray × Int))) :=
let aj := st.1
let aQ := st.2
if (decide (aQ < (v_c.ae.length : Int))) = true then
(ax v_c.ae aQ).bind fun b6 => let v_q : aC := b6
(lY aj (⟨#[113, 117, 101, 117, 101, 32]⟩ : ByteArray)).bind fun b7 => (lY b7 v_q.aI).bind fun b8 => (lY b8 (⟨#[32]⟩ : ByteArray)).bind fun b9 => (dn ab v_q.dw).bind fun c10 => (lY b9 c10).bind fun b11 => let aj : ByteArray := b11
let v_k : Int := 0
(ah (qq v_q) ab (aj, v_k)).bind fun r20 =>
let aj := r20.1
let v_k := r20.2
(lY aj (⟨#[10]⟩ : ByteArray)).bind fun b21 => let aj : ByteArray := b21
let aQ : Int := (i64.wrap (aQ + 1))
some (.inl (aj, aQ))
else
some (.inr (aj, aQ))
def yo (v_c : az) : Option (ByteArray) :=
let aj : ByteArray := (⟨#[108, 97, 98, 101, 108, 115]⟩ : ByteArray)
let v_i : Int := 1
(ah (qt v_c) ab (aj, v_i)).bind fun r4 =>
let aj := r4.1
let v_i := r4.2
(lY aj (⟨#[10]⟩ : ByteArray)).bind fun b5 => let aj : ByteArray := b5
let aQ : Int := 0
(ah (qr v_c) ab (aj, aQ)).bind fun r22 =>
let aj := r22.1
let aQ := r22.2
some aj
def Jz : Option (aa) :=
some (⟨(⟨([(⟨#[]⟩ : ByteArray)] : (List ByteArray)), ([(⟨(⟨#[114, 111, 111, 116]⟩ : ByteArray), ([(⟨10000, 10000⟩ : dV)] : (List dV)), 10000⟩ : aC)] : (List aC))⟩ : az), [], [], [], [], [], 0, 0, 0⟩ : aa)
def dG (v_s : aa) (v_e : Int) : Option (aa × bt) :=
some (v_s, (⟨v_e, [], [], [], 0⟩ : bt))
def jk (v_s : aa) (v_c : az) (st : Int) : Option ((Int) ⊕ ((Int) ⊕ (aa × bt))) :=
let v_i := st
if (decide (v_i < (v_s.bN.ak.length : Int))) = true then
(ax v_c.ak v_i).bind fun b6 => (ax v_s.bN.ak v_i).bind fun b7 => if (!(b6.toList == b7.toList)) = true then
(dG v_s 14).bind fun c8 => some (.inr (.inr c8))
else
let v_i : Int := (i64.wrap (v_i + 1))
some (.inl v_i)
else
some (.inr (.inl v_i))
def ji (v_s : aa) (v_c : az) (st : Int) : Option ((Int) ⊕ ((Int) ⊕ (aa × bt))) :=
let aQ := st
if (decide (aQ < (v_s.ao.length : Int))) = true then
(ax v_s.ao aQ).bind fun b11 => (dA b11).bind fun c12 => (if c12 = true then (ax v_s.ao aQ).bind fun b13 => (jL v_c b13.bW).bind fun c14 => some (!c14) else some false).bind fun q15 => if q15 = true then
(dG v_s 14).bind fun c16 => some (.inr (.inr c16))
else
let aQ : Int := (i64.wrap (aQ + 1))
some (.inl aQ)
else
some (.inr (.inl aQ))
def sp (v_s : aa) (Xb : ByteArray) : Option (aa × bt) :=
(yp Xb).bind fun c1 => let v_c : az := c1.1
let v_e : Int := c1.2
(if (v_e == 0) = true then
(tT v_c).bind fun c3 => let v_e : Int := c3
some v_e
else
some v_e).bind fun j2 => let v_e := j2
if (v_e != 0) = true then
(dG v_s v_e).bind fun c4 => some c4
else
if (decide ((v_c.ak.length : Int) < (v_s.bN.ak.length : Int))) = true then
(dG v_s 14).bind fun c5 => some c5
else
let v_i : Int := 0
(ah (jk v_s v_c) ab v_i).bind fun r9 => match r9 with
| .inr m10 => some m10
| .inl m10 =>
let v_i := m10
let aQ : Int := 0
(ah (ji v_s v_c) ab aQ).bind fun r17 => match r17 with
| .inr m18 => some m18
| .inl m18 =>
let aQ := m18
let v_s : aa := { v_s with bN := v_c }
some (v_s, (⟨0, [], [], [], 0⟩ : bt))
def ou (v_s : aa) (cx : Int) (st : (List Int) × Int) : Option (((List Int) × Int) ⊕ (((List Int) × Int))) :=
let v_l := st.1
let v_i := st.2
if (decide (v_i < (v_s.ac.length : Int))) = true then
(ax v_s.ac v_i).bind fun b1 => if (b1.bK == cx) = true then
(ax v_s.ac v_i).bind fun b2 => (aU v_l [b2.fId]).bind fun b3 => let v_l : (List Int) := b3
let v_i : Int := (i64.wrap (v_i + 1))
some (.inl (v_l, v_i))
else
let v_i : Int := (i64.wrap (v_i + 1))
some (.inl (v_l, v_i))
else
some (.inr (v_l, v_i))
def wU (v_s : aa) (cx : Int) : Option ((List Int)) :=
let v_l : (List Int) := []
let v_i : Int := 0
(ah (ou v_s cx) ab (v_l, v_i)).bind fun r4 =>
let v_l := r4.1
let v_i := r4.2
some v_l
def lh (v_x : aJ) (v_t : aa) (st : (List Int) × Int) : Option (((List Int) × Int) ⊕ (((List Int) × Int))) :=
let co := st.1
let v_i := st.2
if (decide (v_i < (v_x.fO.length : Int))) = true then
(ax v_x.fO v_i).bind fun b7 => (eG v_t b7).bind fun c8 => let v_c : al := c8.1
let xp : Bool := c8.2
(if xp = true then some (v_c.bK == v_x.fId) else some false).bind fun q9 => if q9 = true then
(aU co [v_c.fId]).bind fun b10 => let co : (List Int) := b10
let v_i : Int := (i64.wrap (v_i + 1))
some (.inl (co, v_i))
else
let v_i : Int := (i64.wrap (v_i + 1))
some (.inl (co, v_i))
else
some (.inr (co, v_i))
def yF (v_s : aa) (v_x : aJ) : Option (aa × bt) :=
(kZ v_s v_x.fId).bind fun c1 => let v_n : aM := c1.1
let bS : Bool := c1.2
(if bS = true then some v_n.fUp else some false).bind fun q2 => (if q2 = true then some (v_n.cJ == v_x.cJ) else some false).bind fun q3 => if q3 = true then
(wU v_s v_x.fId).bind fun c4 => some (v_s, (⟨0, [], c4, [], 0⟩ : bt))
else
(CK v_s v_x.fId v_x.cJ).bind fun c5 => let v_t : aa := c5.1
let v_e : Int := c5.2
if (v_e != 0) = true then
(dG v_s v_e).bind fun c6 => some c6
else
let co : (List Int) := []
let v_i : Int := 0
(ah (lh v_x v_t) ab (co, v_i)).bind fun r11 =>
let co := r11.1
let v_i := r11.2
(i7 v_t co).bind fun c12 => let v_t : aa := c12
(pB v_t v_x.fId).bind fun c13 => let v_t : aa := c13.1
(wU v_t v_x.fId).bind fun c14 => some (v_t, (⟨0, [], c14, [], 0⟩ : bt))
def jN (co : (List Int)) (v_s : aa) (st : (List al) × Int) : Option (((List al) × Int) ⊕ (((List al) × Int))) :=
let v_l := st.1
let v_i := st.2
if (decide (v_i < (co.length : Int))) = true then
(ax co v_i).bind fun b1 => (eG v_s b1).bind fun c2 => let v_c : al := c2.1
let bS : Bool := c2.2
if bS = true then
(aU v_l [v_c]).bind fun b3 => let v_l : (List al) := b3
let v_i : Int := (i64.wrap (v_i + 1))
some (.inl (v_l, v_i))
else
let v_i : Int := (i64.wrap (v_i + 1))
some (.inl (v_l, v_i))
else
some (.inr (v_l, v_i))
def rl (v_s : aa) (co : (List Int)) : Option ((List al)) :=
let v_l : (List al) := []
let v_i : Int := 0
(ah (jN co v_s) ab (v_l, v_i)).bind fun r4 =>
let v_l := r4.1
let v_i := r4.2
some v_l
def iu (v_s : aa) (eP : Int) (st : (List Int) × Int) : Option (((List Int) × Int) ⊕ (((List Int) × Int))) :=
let v_l := st.1
let v_i := st.2
if (decide (v_i < (v_s.ac.length : Int))) = true then
(ax v_s.ac v_i).bind fun b1 => (if (b1.bE == eP) = true then (ax v_s.ac v_i).bind fun b2 => some (b2.kW != 0) else some false).bind fun q3 => if q3 = true then
(ax v_s.ac v_i).bind fun b4 => (aU v_l [b4.fId]).bind fun b5 => let v_l : (List Int) := b5
let v_i : Int := (i64.wrap (v_i + 1))
some (.inl (v_l, v_i))
else
let v_i : Int := (i64.wrap (v_i + 1))
some (.inl (v_l, v_i))
else
some (.inr (v_l, v_i))
def nA (v_s : aa) (eP : Int) : Option ((List Int)) :=
let v_l : (List Int) := []
let v_i : Int := 0
(ah (iu v_s eP) ab (v_l, v_i)).bind fun r6 =>
let v_l := r6.1
let v_i := r6.2
some v_l
def jM (jW : (List aO)) (v_s : aa) (st : (List aO) × Int) : Option (((List aO) × Int) ⊕ (((List aO) × Int) ⊕ ((List aO) × Int))) :=
let v_l := st.1
let v_i := st.2
if (decide (v_i < (jW.length : Int))) = true then
(ax jW v_i).bind fun b1 => (pb b1 (v_s.bN.ak.length : Int)).bind fun c2 => let v_e : Int := c2
if (v_e != 0) = true then
some (.inr (.inr ([], v_e)))
else
(ax jW v_i).bind fun b3 => (EG v_l b3).bind fun c4 => let v_l : (List aO) := c4.1
let v_e : Int := c4.2
if (v_e != 0) = true then
some (.inr (.inr ([], v_e)))
else
let v_i : Int := (i64.wrap (v_i + 1))
some (.inl (v_l, v_i))
else
some (.inr (.inl (v_l, v_i)))
def uY (v_s : aa) (v_l : (List aO)) (jW : (List aO)) : Option ((List aO) × Int) :=
let v_i : Int := 0
(ah (jM jW v_s) ab (v_l, v_i)).bind fun r5 => match r5 with
| .inr m6 => some m6
| .inl m6 =>
let v_l := m6.1
let v_i := m6.2
some (v_l, 0)
def jh (v_x : aJ) (st : aa × aB × Int) : Option ((aa × aB × Int) ⊕ ((aa × aB × Int))) :=
let v_s := st.1
let v_a := st.2.1
let v_i := st.2.2
if (decide (v_i < (v_x.fO.length : Int))) = true then
(ax v_x.fO v_i).bind fun b11 => (eG v_s b11).bind fun c12 => let v_c : al := c12.1
let xp : Bool := c12.2
(if xp = true then some (v_c.bE == v_a.fId) else some false).bind fun q13 => (if q13 = true then some (!v_c.bU) else some false).bind fun q14 => if q14 = true then
(pC v_s v_c.fId).bind fun c15 => let v_s : aa := c15
(i6 v_a.cA v_c.fId).bind fun c16 => let v_a : aB := { v_a with cA := c16.1 }
let v_i : Int := (i64.wrap (v_i + 1))
some (.inl (v_s, v_a, v_i))
else
let v_i : Int := (i64.wrap (v_i + 1))
some (.inl (v_s, v_a, v_i))
else
some (.inr (v_s, v_a, v_i))
def so (v_s : aa) (v_x : aJ) : Option (aa × bt) :=
(eF v_s v_x.fId).bind fun c1 => let v_a : aB := c1.1
let bS : Bool := c1.2
if (!bS) = true then
(dG v_s 2).bind fun c2 => some c2
else
if (v_a.ed != 2) = true then
(dG v_s 14).bind fun c3 => some c3
else
if (decide (v_x.cJ < v_a.cJ)) = true then
(dG v_s 15).bind fun c4 => some c4
else
if (v_x.cJ == v_a.cJ) = true then
(rl v_s v_a.sI).bind fun c5 => (nA v_s v_a.fId).bind fun c6 => (aU ([] : (List Int)) v_a.tG).bind fun b7 => some (v_s, (⟨0, c5, c6, b7, 0⟩ : bt))
else
if (decide ((i64.wrap (v_x.cJ - 1)) > v_a.cJ)) = true then
(dG v_s 1).bind fun c8 => some c8
else
(uY v_s v_a.cf v_x.cf).bind fun c9 => let v_l : (List aO) := c9.1
let v_e : Int := c9.2
if (v_e != 0) = true then
(dG v_s v_e).bind fun c10 => some c10
else
let v_i : Int := 0
(ah (jh v_x) ab (v_s, v_a, v_i)).bind fun r17 =>
let v_s := r17.1
let v_a := r17.2.1
let v_i := r17.2.2
(rl v_s v_a.cA).bind fun c18 => (nA v_s v_a.fId).bind fun c19 => (aU ([] : (List Int)) v_a.iK).bind fun b20 => let v_o : bt := (⟨0, c18, c19, b20, 0⟩ : bt)
let t21 : (List aO) := v_l
let t22 : Int := v_s.bR
let t23 : Int := v_x.cJ
let v_a : aB := { v_a with cf := t21 }
let v_a : aB := { v_a with bO := t22 }
let v_a : aB := { v_a with cJ := t23 }
let t24 : (List Int) := v_a.cA
let t25 : (List Int) := v_a.iK
let t26 : (List Int) := []
let t27 : (List Int) := []
let v_a : aB := { v_a with sI := t24 }
let v_a : aB := { v_a with tG := t25 }
let v_a : aB := { v_a with cA := t26 }
let v_a : aB := { v_a with iK := t27 }
(eH v_s v_a).bind fun c28 => some (c28, v_o)
def yC (v_s : aa) (bD : Int) (H7 : Int) : Option (aa × bt) :=
(eF v_s bD).bind fun c1 => let v_a : aB := c1.1
let bS : Bool := c1.2
if (!bS) = true then
(dG v_s 2).bind fun c2 => some c2
else
(dA v_a).bind fun c3 => if (!c3) = true then
(dG v_s 14).bind fun c4 => some c4
else
(JX v_s bD H7).bind fun c5 => let v_t : aa := c5.1
let jy : (List Int) := c5.2
some (v_t, (⟨0, [], [], jy, 0⟩ : bt))
def lg (v_s : aa) (eP : Int) (st : Int) : Option ((Int) ⊕ ((Int) ⊕ (Int))) :=
let v_i := st
if (decide (v_i < (v_s.ac.length : Int))) = true then
(ax v_s.ac v_i).bind fun b1 => (if (b1.bE == eP) = true then (ax v_s.ac v_i).bind fun b2 => some b2.bU else some false).bind fun q3 => if q3 = true then
(ax v_s.ac v_i).bind fun b4 => some (.inr (.inr b4.fId))
else
let v_i : Int := (i64.wrap (v_i + 1))
some (.inl v_i)
else
some (.inr (.inl v_i))
def tX (v_s : aa) (eP : Int) : Option (Int) :=
let v_i : Int := 0
(ah (lg v_s eP) ab v_i).bind fun r5 => match r5 with
| .inr m6 => some m6
| .inl m6 =>
let v_i := m6
some (-1)
def ld (v_l : (List Int)) (st : aa × Int) : Option ((aa × Int) ⊕ ((aa × Int))) :=
let v_s := st.1
let v_i := st.2
if (decide (v_i < (v_l.length : Int))) = true then
(ax v_l v_i).bind fun b5 => (yi v_s b5).bind fun c6 => (ax v_l v_i).bind fun b7 => (fu c6 b7).bind fun c8 => let v_s : aa := c8
(ax v_l v_i).bind fun b9 => (wU v_s b9).bind fun c10 => (i7 v_s c10).bind fun c11 => let v_s : aa := c11
let v_i : Int := (i64.wrap (v_i + 1))
some (.inl (v_s, v_i))
else
some (.inr (v_s, v_i))
def lc (v_l : (List Int)) (st : aa × Int) : Option ((aa × Int) ⊕ ((aa × Int))) :=
let v_s := st.1
let aQ := st.2
if (decide (aQ < (v_l.length : Int))) = true then
(ax v_l aQ).bind fun b14 => (tX v_s b14).bind fun c15 => (i7 v_s ([c15] : (List Int))).bind fun c16 => let v_s : aa := c16
let aQ : Int := (i64.wrap (aQ + 1))
some (.inl (v_s, aQ))
else
some (.inr (v_s, aQ))
def lb (v_s : aa) (st : (List a6) × Int) : Option (((List a6) × Int) ⊕ (((List a6) × Int))) :=
let xm := st.1
let zC := st.2
if (decide (zC < (v_s.bw.length : Int))) = true then
(ax v_s.bw zC).bind fun b18 => if (decide (b18.kV > v_s.bR)) = true then
(ax v_s.bw zC).bind fun b19 => (aU xm [b19]).bind fun b20 => let xm : (List a6) := b20
let zC : Int := (i64.wrap (zC + 1))
some (.inl (xm, zC))
else
let zC : Int := (i64.wrap (zC + 1))
some (.inl (xm, zC))
else
some (.inr (xm, zC))
def yB (v_s : aa) (v_n : Int) : Option (aa × bt) :=
(if (decide (v_n < 1)) = true then some true else some (decide (v_n > 100))).bind fun q1 => if q1 = true then
(dG v_s 1).bind fun c2 => some c2
else
if (decide ((i64.wrap (v_s.bR + v_n)) > 1000000000)) = true then
(dG v_s 11).bind fun c3 => some c3
else
let kE : aa := v_s
let v_s : aa := { v_s with bR := (i64.wrap (v_s.bR + v_n)) }
(rf v_s).bind fun c4 => let v_l : (List Int) := c4
let v_i : Int := 0
(ah (ld v_l) ab (v_s, v_i)).bind fun r12 =>
let v_s := r12.1
let v_i := r12.2
(sw v_s).bind fun c13 => let v_l : (List Int) := c13
let aQ : Int := 0
(ah (lc v_l) ab (v_s, aQ)).bind fun r17 =>
let v_s := r17.1
let aQ := r17.2
let xm : (List a6) := []
let zC : Int := 0
(ah (lb v_s) ab (xm, zC)).bind fun r21 =>
let xm := r21.1
let zC := r21.2
let v_s : aa := { v_s with bw := xm }
(uZ v_s).bind fun c22 => let v_s : aa := c22.1
(tZ kE v_s).bind fun c23 => some (v_s, (⟨0, [], [], c23, 0⟩ : bt))
def rm (v_s : aa) (v_x : aJ) : Option (aa × bt) :=
if (v_x.gR == 1) = true then
(sp v_s v_x.K6).bind fun c1 => some c1
else
if (v_x.gR == 2) = true then
(p9 v_s v_x.bK).bind fun c2 => let v_t : aa := c2.1
let v_e : Int := c2.2
some (v_t, (⟨v_e, [], [], [], 0⟩ : bt))
else
if (v_x.gR == 3) = true then
(yF v_s v_x).bind fun c3 => some c3
else
if (v_x.gR == 4) = true then
(su v_s v_x.bE).bind fun c4 => let YE : aa := c4.1
let YH : Int := c4.2
some (YE, (⟨YH, [], [], [], 0⟩ : bt))
else
if (v_x.gR == 5) = true then
(so v_s v_x).bind fun c5 => some c5
else
if (v_x.gR == 6) = true then
(yC v_s v_x.fId 3).bind fun c6 => some c6
else
if (v_x.gR == 7) = true then
(yC v_s v_x.fId 4).bind fun c7 => some c7
else
if (v_x.gR == 8) = true then
(yB v_s v_x.fN).bind fun c8 => some c8
else
if (v_x.gR == 9) = true then
(yQ v_s v_x.o5 v_x.fN).bind fun c9 => let YD : aa := c9.1
let v_n : Int := c9.2.1
let YG : Int := c9.2.2
some (YD, (⟨YG, [], [], [], v_n⟩ : bt))
else
if (v_x.gR == 10) = true then
(uc v_s v_x.fId).bind fun c10 => let YC : aa := c10.1
let YF : Int := c10.2
some (YC, (⟨YF, [], [], [], 0⟩ : bt))
else
if (v_x.gR == 11) = true then
if (decide (v_s.ql ≥ 1048576)) = true then
(dG v_s 11).bind fun c11 => some c11
else
let t12 : Int := (i64.wrap (v_s.ql + 1))
let t13 : Int := 0
let v_s : aa := { v_s with ql := t12 }
let v_s : aa := { v_s with rQ := t13 }
some (v_s, (⟨0, [], [], [], 0⟩ : bt))
else
(dG v_s 3).bind fun c14 => some c14
def Ss : Ent := ⟨[.lf (.int .i64)], [.lf (.bool)], fun x => yu x.1⟩
theorem Sr : EOk prog 182 Ss := aF .n [] [] [] .nil Tryz.mixed Tryz.func182
def U3 : Ent := ⟨[.ag 0], [.lf (.bool)], fun x => sn x.1⟩
theorem L0 : EOk prog 179 U3 := aF .n [] [] [] (.cons Sr .nil) Tryz.mixed Tryz.func179
def Sy : Ent := ⟨[.ag 0, .ag 0], [.lf (.bool)], fun x => fy x.1 x.2.1⟩
theorem oJ : EOk prog 145 Sy := aF .n [] [] [] .nil Tryz.mixed Tryz.func145
def Sx : Ent := ⟨[.ag 0, .ag 0], [.ag 0], fun x => uX x.1 x.2.1⟩
theorem HM : EOk prog 41 Sx := aF .n [] [4] [] .nil Tryz.mixed Tryz.func41
def Sq : Ent := ⟨[.lf (.int .i64), .lf (.int .i64)], [.lf (.int .i64), .lf (.int .i64)], fun x => yr x.1 x.2.1⟩
theorem Sp : EOk prog 186 Sq := aF .n [] [] [] .nil Tryz.mixed Tryz.func186
def Ou : Ent := ⟨[.ag 17, .ag 17], [.lf (.int .i64)], fun x => po x.1 x.2.1⟩
theorem ES : EOk prog 184 Ou := aF (.s .n (.s (.s .n (.j [.box 2 238 17 []] .n)) (.s (.s .n (.j [.box 3 238 17 []] .n)) .n))) [] [] [] (.cons Sp .nil) Tryz.mixed Tryz.func184
def Sv : Ent := ⟨[.ag 0, .ag 0], [.ag 17], fun x => yw x.1 x.2.1⟩
theorem Su : EOk prog 185 Sv := aF .n [] [4] [] (.cons ES .nil) Tryz.mixed Tryz.func185
def Oy : Ent := ⟨[.ag 0, .ag 0, .ag 0, .ag 0], [.lf (.int .i64)], fun x => yx x.1 x.2.1 x.2.2.1 x.2.2.2.1⟩
theorem Ox : EOk prog 183 Oy := aF .n [] [] [] (.cons L0 (.cons Su (.cons ES .nil))) Tryz.mixed Tryz.func183
def Sw : Ent := ⟨[.ag 0, .ag 0], [.ag 0], fun x => de x.1 x.2.1⟩
theorem il : EOk prog 25 Sw := aF .n [] [4] [] .nil Tryz.mixed Tryz.func25
def Oq : Ent := ⟨[.lf (.int .i64), .lf (.int .i64)], [.lf (.int .i64)], fun x => tU x.1 x.2.1⟩
theorem Oo : EOk prog 180 Oq := aF .n [] [] [] .nil Tryz.mixed Tryz.func180
def Ow : Ent := ⟨[.ag 0, .lf (.int .i64)], [.ag 0, .lf (.int .i64)], fun x => tV x.1 x.2.1⟩
theorem ET : EOk prog 176 Ow := aF .n [] [4] [] (.cons L0 (.cons Oo .nil)) Tryz.mixed Tryz.func176
def Sk : Ent := ⟨[.lf (.str)], [.lf (.bool)], fun x => uV x.1⟩
theorem HB : EOk prog 131 Sk := aF (.s .n (.s .n (.s (.s .n (.s (.lp [.leaf 3 (.int .i64)] 0 true .n) .n)) .n))) [] [] [] .nil Tryz.mixed Tryz.func131
def LN : Ent := ⟨[.ag 5], [.lf (.int .i64)], fun x => rg x.1⟩
theorem LM : EOk prog 112 LN := aF (.s .n (.s .n (.s .n (.s (.s .n (.s (.lp [.leaf 3 (.int .i64)] 0 true .n) .n)) (.s (.s .n (.s (.lp [.leaf 4 (.int .i64)] 2 true (.s .n (.s (.s (.s .n (.s (.lp [.leaf 5 (.int .i64)] 4 true .n) .n)) .n) .n))) .n)) .n))))) [] [] [] (.cons HB .nil) Tryz.mixed Tryz.func112
def LQ : Ent := ⟨[.lf (.str)], [.lf (.bool)], fun x => uU x.1⟩
theorem LO : EOk prog 132 LQ := aF (.s .n (.s .n (.s (.s .n (.s (.lp [.leaf 3 (.int .i64), .leaf 4 (.int .i64), .leaf 5 (.int .i64)] 0 true .n) .n)) .n))) [] [] [] (.cons HB .nil) Tryz.mixed Tryz.func132
def Oa : Ent := ⟨[.lf (.str)], [.lf (.str)], fun x => dQ x.1⟩
theorem wR : EOk prog 100 Oa := aF (.s .n (.s .n (.s (.s (.lp [.leaf 3 (.int .i64)] 0 false .n) .n) .n))) [] [] [] .nil Tryz.mixed Tryz.func100
def So : Ent := ⟨[.ag 5, .lf (.str)], [.ag 4, .lf (.bool)], fun x => jg x.1 x.2.1⟩
theorem rj : EOk prog 115 So := aF (.s .n (.s (.s .n (.s (.lp [.leaf 6 (.int .i64)] 0 true .n) .n)) .n)) [] [4] [] .nil Tryz.mixed Tryz.func115
def N9 : Ent := ⟨[.ag 5, .lf (.int .i64)], [.lf (.int .i64)], fun x => tR x.1 x.2.1⟩
theorem N8 : EOk prog 113 N9 := aF (.s .n (.s .n (.s .n (.s .n (.s .n (.s .n (.s .n (.s (.s .n (.s (.lp [.leaf 8 (.int .i64)] 0 true .n) .n)) .n)))))))) [] [] [] (.cons LO (.cons wR (.cons rj .nil))) Tryz.mixed Tryz.func113
def HF : Ent := ⟨[.ag 5, .lf (.str)], [.lf (.sl (.str))], fun x => eW x.1 x.2.1⟩
theorem uW : EOk prog 54 HF := aF (.s .n (.s .n (.s (.s .n (.s (.lp [.row 5 5 9 1 (.str), .leaf 6 (.int .i64)] 0 false .n) .n)) .n))) [] [] [] (.cons wR .nil) Tryz.mixed Tryz.func54
def Sj : Ent := ⟨[.ag 5], [.lf (.bool)], fun x => CM x.1⟩
theorem Si : EOk prog 114 Sj := aF (.s .n (.s (.s .n (.s (.lp [.leaf 3 (.int .i64)] 0 true (.s .n (.s (.s (.s .n (.s .n (.s (.lp [.leaf 5 (.int .i64)] 2 true (.s .n (.s (.s (.s .n (.s (.s .n (.s (.lp [.leaf 6 (.int .i64), .leaf 7 (.int .i64)] 4 false .n) .n)) .n)) .n) .n))) .n))) .n) .n))) .n)) .n)) [] [] [] (.cons uW (.cons rj .nil)) Tryz.mixed Tryz.func114
def Oc : Ent := ⟨[.ag 5], [.lf (.int .i64)], fun x => tT x.1⟩
theorem Ob : EOk prog 74 Oc := aF (.s .n (.s .n (.s .n (.s (.s .n (.s (.lp [.leaf 3 (.int .i64)] 0 true .n) .n)) (.s (.s .n (.s (.lp [.leaf 4 (.int .i64)] 2 true .n) .n)) .n))))) [] [] [] (.cons LM (.cons N8 (.cons Si .nil))) Tryz.mixed Tryz.func74
def Sm : Ent := ⟨[.ag 5, .lf (.str)], [.lf (.bool)], fun x => jL x.1 x.2.1⟩
theorem AE : EOk prog 76 Sm := aF .n [] [] [] (.cons rj (.cons uW .nil)) Tryz.mixed Tryz.func76
def WG : Ent := ⟨[.lf (.str)], [.lf (.sl (.str))], fun x => yk x.1⟩
theorem Jt : EOk prog 164 WG := aF (.s .n (.s .n (.s (.s (.lp [.row 3 3 9 1 (.str), .leaf 0 (.str)] 0 false .n) .n) .n))) [] [] [] (.cons wR .nil) Tryz.mixed Tryz.func164
def Sh : Ent := ⟨[.ag 12, .lf (.int .i64)], [.ag 0], fun x => sg x.1 x.2.1⟩
theorem Sg : EOk prog 166 Sh := aF (.s .n (.s .n (.s (.s .n (.s (.lp [.box 5 27 0 [], .leaf 6 (.int .i64)] 0 false .n) .n)) .n))) [] [4] [] (.cons il .nil) Tryz.mixed Tryz.func166
def N5 : Ent := ⟨[.ag 12, .lf (.int .i64)], [.ag 0], fun x => iQ x.1 x.2.1⟩
theorem pd : EOk prog 99 N5 := aF (.s .n (.s .n (.s (.s .n (.s (.lp [.box 5 27 0 [], .leaf 6 (.int .i64)] 0 false .n) .n)) .n))) [] [4] [] (.cons il .nil) Tryz.mixed Tryz.func99
def Sd : Ent := ⟨[.ag 12, .lf (.str), .lf (.int .i64), .lf (.bool)], [.ag 0], fun x => sf x.1 x.2.1 x.2.2.1 x.2.2.2.1⟩
theorem Hy : EOk prog 174 Sd := aF (.s .n (.s .n (.s .n (.s .n (.s .n (.s (.s .n (.s (.lp [.box 11 27 0 [], .leaf 13 (.int .i64)] 0 false (.s .n (.s (.s (.s .n (.s .n (.s (.s .n (.j [.leaf 16 (.int .i64)] .n)) .n))) .n) .n))) .n)) .n)))))) [] [8] [] (.cons rj (.cons pd (.cons Jt (.cons ET .nil)))) Tryz.mixed Tryz.func174
def EM : Ent := ⟨[.ag 12, .lf (.str), .lf (.int .i64)], [.ag 0], fun x => k9 x.1 x.2.1 x.2.2.1⟩
theorem pe : EOk prog 158 EM := aF .n [] [6] [] (.cons Hy .nil) Tryz.mixed Tryz.func158
def HA : Ent := ⟨[.ag 12, .lf (.str), .lf (.int .i64)], [.ag 0], fun x => uT x.1 x.2.1 x.2.2.1⟩
theorem Hz : EOk prog 165 HA := aF .n [] [6] [] (.cons Hy .nil) Tryz.mixed Tryz.func165
def Sf : Ent := ⟨[.ag 12, .lf (.str), .lf (.int .i64)], [.ag 0], fun x => CL x.1 x.2.1 x.2.2.1⟩
theorem Se : EOk prog 163 Sf := aF .n [] [6] [] (.cons rj (.cons pe (.cons ET .nil))) Tryz.mixed Tryz.func163
def Pp : Ent := ⟨[.ag 12, .lf (.int .i64)], [.ag 12], fun x => pC x.1 x.2.1⟩
theorem Fi : EOk prog 89 Pp := aF (.s .n (.s .n (.s (.s .n (.s (.lp [.row 5 5 86 9 (.st 6), .leaf 6 (.int .i64)] 0 false .n) .n)) .n))) [] [4] [] .nil Tryz.mixed Tryz.func89
def Po : Ent := ⟨[.ag 12, .lf (.int .i64)], [.ag 6, .lf (.bool)], fun x => eG x.1 x.2.1⟩
theorem mI : EOk prog 78 Po := aF (.s .n (.s (.s .n (.s (.lp [.leaf 6 (.int .i64)] 0 true .n) .n)) .n)) [] [4] [] .nil Tryz.mixed Tryz.func78
def Pn : Ent := ⟨[.ag 12, .lf (.int .i64)], [.ag 2, .lf (.bool)], fun x => eF x.1 x.2.1⟩
theorem gG : EOk prog 82 Pn := aF (.s .n (.s (.s .n (.s (.lp [.leaf 6 (.int .i64)] 0 true .n) .n)) .n)) [] [4] [] .nil Tryz.mixed Tryz.func82
def Pm : Ent := ⟨[.ag 2], [.lf (.bool)], fun x => dA x.1⟩
theorem gF : EOk prog 75 Pm := aF .n [] [] [] .nil Tryz.mixed Tryz.func75
def SP : Ent := ⟨[.ag 12, .ag 2], [.ag 12], fun x => eH x.1 x.2.1⟩
theorem oM : EOk prog 84 SP := aF (.s .n (.s .n (.s (.s (.lp [.leaf 5 (.int .i64)] 0 false .n) .n) (.s .n (.s .n (.s (.s .n (.j [.leaf 5 (.int .i64)] .n)) .n)))))) [] [4] [] .nil Tryz.mixed Tryz.func84
def Ph : Ent := ⟨[.ag 12, .lf (.int .i64)], [.ag 12, .lf (.sl (.int .i64))], fun x => ru x.1 x.2.1⟩
theorem Fg : EOk prog 116 Ph := aF (.s .n (.s .n (.s .n (.s .n (.s (.s .n (.s (.lp [.row 8 8 3 1 (.int .i64), .row 6 6 86 9 (.st 6), .leaf 9 (.int .i64)] 0 false .n) .n)) (.s (.s .n (.s (.lp [.row 7 7 88 3 (.st 11), .leaf 10 (.int .i64)] 2 false .n) .n)) .n)))))) [] [4] [] .nil Tryz.mixed Tryz.func116
def SR : Ent := ⟨[.ag 12, .lf (.int .i64), .lf (.int .i64)], [.ag 12, .lf (.sl (.int .i64))], fun x => JX x.1 x.2.1 x.2.2.1⟩
theorem SQ : EOk prog 91 SR := aF .n [] [6] [] (.cons gG (.cons gF (.cons oM (.cons Fg .nil)))) Tryz.mixed Tryz.func91
def MD : Ent := ⟨[.ag 2], [.lf (.sl (.st 1))], fun x => oL x.1⟩
theorem BL : EOk prog 85 MD := aF .n [] [] [] .nil Tryz.mixed Tryz.func85
def F5 : Ent := ⟨[.lf (.sl (.int .i64)), .lf (.int .i64)], [.lf (.sl (.int .i64)), .lf (.bool)], fun x => i6 x.1 x.2.1⟩
theorem vR : EOk prog 90 F5 := aF (.s .n (.s .n (.s (.s .n (.s (.lp [.row 6 6 3 1 (.int .i64), .leaf 7 (.int .i64)] 0 false .n) .n)) .n))) [] [] [] .nil Tryz.mixed Tryz.func90
def Pk : Ent := ⟨[.ag 12, .lf (.sl (.int .i64))], [.ag 12], fun x => i7 x.1 x.2.1⟩
theorem w8 : EOk prog 79 Pk := aF (.s .n (.s (.s .n (.s (.lp [.box 2 41 12 [], .leaf 5 (.int .i64)] 0 false (.s .n (.s (.s (.s .n (.s .n (.s .n (.s .n (.s .n (.s .n (.s .n (.s (.s .n (.j [.box 8 70 2 []] .n)) .n)))))))) .n) .n))) .n)) .n)) [(4, [73, 76, 79, 80]), (6, [73, 76, 79, 80]), (8, [73, 76, 79, 80]), (11, [73, 76, 79, 80]), (12, [73, 76, 79, 80]), (14, [73, 76, 79, 80]), (17, [73, 76, 79, 80])] [4] [] (.cons mI (.cons gG (.cons BL (.cons oM (.cons Fg (.cons Fi (.cons vR .nil))))))) Tryz.mixed Tryz.func79
def JW : Ent := ⟨[.ag 12], [.lf (.sl (.int .i64))], fun x => sw x.1⟩
theorem JV : EOk prog 94 JW := aF (.s .n (.s .n (.s (.s .n (.s (.lp [.row 3 3 3 1 (.int .i64), .leaf 4 (.int .i64)] 0 false .n) .n)) .n))) [] [] [] .nil Tryz.mixed Tryz.func94
def Pj : Ent := ⟨[.lf (.int .i64)], [.lf (.bool)], fun x => ul x.1⟩
theorem Pi : EOk prog 81 Pj := aF .n [] [] [] .nil Tryz.mixed Tryz.func81
def JS : Ent := ⟨[.ag 12], [.ag 12], fun x => ss x.1⟩
theorem JR : EOk prog 83 JS := aF (.s .n (.s .n (.s .n (.s (.s .n (.s (.lp [.leaf 4 (.bool), .row 3 3 70 14 (.st 2), .leaf 5 (.int .i64)] 0 false .n) .n)) .n)))) [(6, [30, 31])] [2] [] (.cons gF .nil) Tryz.mixed Tryz.func83
def JU : Ent := ⟨[.ag 12, .ag 2], [.ag 12, .lf (.int .i64)], fun x => su x.1 x.2.1⟩
theorem JT : EOk prog 45 JU := aF (.s .n (.s .n (.s .n (.s .n (.s .n (.s (.s .n (.s (.lp [.leaf 8 (.int .i64), .leaf 9 (.int .i64)] 0 false .n) .n)) (.s .n (.s .n (.s (.s .n (.j [.box 2 41 12 []] .n)) .n))))))))) [] [4] [] (.cons Pi (.cons gG (.cons gF (.cons AE (.cons JR (.cons BL (.cons oM .nil))))))) Tryz.mixed Tryz.func45
def RZ : Ent := ⟨[.lf (.int .i64)], [.lf (.bool)], fun x => ye x.1⟩
theorem RY : EOk prog 136 RZ := aF .n [] [] [] .nil Tryz.mixed Tryz.func136
def NZ : Ent := ⟨[.ag 1, .lf (.int .i64)], [.lf (.int .i64)], fun x => pb x.1 x.2.1⟩
theorem NY : EOk prog 118 NZ := aF .n [] [] [] (.cons RY .nil) Tryz.mixed Tryz.func118
def U0 : Ent := ⟨[.lf (.sl (.st 1)), .lf (.int .i64)], [.ag 1, .lf (.bool)], fun x => Jq x.1 x.2.1⟩
theorem UZ : EOk prog 147 U0 := aF (.s .n (.s (.s .n (.s (.lp [.leaf 6 (.int .i64)] 0 true .n) .n)) .n)) [] [4] [] .nil Tryz.mixed Tryz.func147
def R5 : Ent := ⟨[.lf (.sl (.st 1)), .lf (.int .i64)], [.lf (.sl (.st 1))], fun x => CJ x.1 x.2.1⟩
theorem R4 : EOk prog 169 R5 := aF (.s .n (.s .n (.s (.s .n (.s (.lp [.row 5 7 122 8 (.st 1), .leaf 6 (.int .i64)] 0 false .n) .n)) .n))) [] [] [] .nil Tryz.mixed Tryz.func169
def Jp : Ent := ⟨[.lf (.sl (.st 1)), .lf (.int .i64)], [.ag 0], fun x => ka x.1 x.2.1⟩
theorem Jo : EOk prog 175 Jp := aF (.s .n (.s .n (.s (.s .n (.s (.lp [.box 5 27 0 [], .leaf 6 (.int .i64)] 0 false .n) .n)) .n))) [] [4] [] (.cons il .nil) Tryz.mixed Tryz.func175
def UY : Ent := ⟨[.lf (.sl (.st 1)), .ag 1], [.lf (.sl (.st 1)), .lf (.int .i64)], fun x => EG x.1 x.2.1⟩
theorem UX : EOk prog 119 UY := aF (.s .n (.s .n (.s .n (.s .n (.s (.s .n (.s (.lp [.row 6 6 122 8 (.st 1), .leaf 7 (.bool), .leaf 8 (.int .i64)] 0 false (.s .n (.s (.s (.s (.s .n (.j [.row 6 6 122 8 (.st 1), .leaf 7 (.bool)] .n)) .n) .n) .n))) .n)) (.s (.s .n (.j [.row 6 6 122 8 (.st 1)] .n)) .n)))))) [] [] [] .nil Tryz.mixed Tryz.func119
def R2 : Ent := ⟨[.lf (.sl (.st 1)), .lf (.int .i64)], [.lf (.sl (.st 1)), .lf (.bool)], fun x => CI x.1 x.2.1⟩
theorem R1 : EOk prog 167 R2 := aF (.s .n (.s .n (.s .n (.s (.s .n (.s (.lp [.leaf 7 (.bool), .row 6 6 122 8 (.st 1), .leaf 8 (.int .i64)] 0 false .n) .n)) .n)))) [] [] [] .nil Tryz.mixed Tryz.func167
def MB : Ent := ⟨[.lf (.str), .lf (.str)], [.lf (.bool)], fun x => mH x.1 x.2.1⟩
theorem BI : EOk prog 172 MB := aF (.s .n (.s .n (.s (.s .n (.s (.lp [.leaf 6 (.int .i64)] 0 true .n) .n)) .n))) [] [] [] (.cons Jt .nil) Tryz.mixed Tryz.func172
def vQ : Ent := ⟨[.ag 12, .lf (.str), .lf (.int .i64)], [.ag 0], fun x => nC x.1 x.2.1 x.2.2.1⟩
theorem vP : EOk prog 159 vQ := aF (.s .n (.s .n (.s (.s .n (.s (.lp [.box 7 27 0 [], .leaf 8 (.int .i64)] 0 false .n) .n)) .n))) [] [6] [] (.cons gF (.cons BI (.cons Jo (.cons il .nil)))) Tryz.mixed Tryz.func159
def Pf : Ent := ⟨[.ag 12, .lf (.str), .lf (.int .i64), .lf (.bool), .lf (.int .i64)], [.ag 0], fun x => uf x.1 x.2.1 x.2.2.1 x.2.2.2.1 x.2.2.2.2.1⟩
theorem Fa : EOk prog 156 Pf := aF (.s .n (.s .n (.s (.s .n (.s (.lp [.box 11 27 0 [], .leaf 12 (.int .i64)] 0 false .n) .n)) .n))) [] [10] [] (.cons gG (.cons BI (.cons il .nil))) Tryz.mixed Tryz.func156
def Fd : Ent := ⟨[.ag 12, .lf (.str), .lf (.int .i64)], [.ag 0], fun x => ez x.1 x.2.1 x.2.2.1⟩
theorem ki : EOk prog 137 Fd := aF .n [] [6] [] (.cons Fa .nil) Tryz.mixed Tryz.func137
def Pg : Ent := ⟨[.ag 12, .lf (.str), .lf (.int .i64), .ag 0], [.lf (.bool)], fun x => ug x.1 x.2.1 x.2.2.1 x.2.2.2.1⟩
theorem Ff : EOk prog 151 Pg := aF (.s .n (.s .n (.s (.s .n (.s (.lp [.leaf 10 (.int .i64)] 0 true .n) .n)) .n))) [] [] [] (.cons Jt (.cons ki (.cons il (.cons Hz (.cons oJ (.cons pd (.cons Sg (.cons HM .nil)))))))) Tryz.mixed Tryz.func151
def Fc : Ent := ⟨[.ag 12, .lf (.str), .lf (.int .i64), .lf (.int .i64)], [.ag 0], fun x => oz x.1 x.2.1 x.2.2.1 x.2.2.2.1⟩
theorem Fb : EOk prog 162 Fc := aF .n [] [8] [] (.cons Fa .nil) Tryz.mixed Tryz.func162
def Pe : Ent := ⟨[.ag 12, .lf (.str)], [.lf (.sl (.int .i64))], fun x => y8 x.1 x.2.1⟩
theorem Pd : EOk prog 154 Pe := aF (.s .n (.s .n (.s (.s .n (.s (.lp [.leaf 5 (.sl (.st 2)), .leaf 6 (.int .i64)] 0 false (.s .n (.s (.s (.s .n (.s .n (.s .n (.s (.s (.lp [.leaf 8 (.int .i64)] 2 false .n) .n) .n)))) .n) .n))) .n)) (.s .n (.s (.s .n (.s (.lp [.row 10 10 3 1 (.int .i64), .leaf 11 (.int .i64)] 4 false .n) .n)) .n))))) [(6, [5, 53, 56, 57, 62, 75, 76])] [] [] (.cons gF .nil) Tryz.mixed Tryz.func154
def My : Ent := ⟨[.ag 12, .lf (.str), .lf (.str), .lf (.int .i64)], [.lf (.bool)], fun x => va x.1 x.2.1 x.2.2.1 x.2.2.2.1⟩
theorem Mx : EOk prog 181 My := aF .n [] [] [] (.cons ki (.cons pe (.cons Ox .nil))) Tryz.mixed Tryz.func181
def E9 : Ent := ⟨[.ag 12, .lf (.str), .lf (.int .i64)], [.lf (.sl (.str))], fun x => y5 x.1 x.2.1 x.2.2.1⟩
theorem Pc : EOk prog 177 E9 := aF (.s .n (.s .n (.s .n (.s (.s .n (.s (.lp [.leaf 8 (.sl (.str)), .leaf 9 (.int .i64)] 0 false (.s .n (.s (.s (.s .n (.s (.s (.lp [.leaf 10 (.int .i64)] 2 false .n) .n) .n)) .n) .n))) .n)) .n)))) [(1, [8, 46, 52, 53, 58]), (7, [8, 46, 52, 53, 58])] [] [] (.cons uW (.cons Mx .nil)) Tryz.mixed Tryz.func177
theorem JN (k : Nat) (x : cG [.ag 12, .lf (.str), .lf (.int .i64)]) : iC ⟨prog, [(168, ⟨[.ag 12, .lf (.str), .lf (.int .i64)], [.lf (.sl (.str))], fun x => iX k x.1 x.2.1 x.2.2.1⟩), (177, E9)], 35, [.lf (.sl (.str))], [.tmp 6], [(1, [18, 33]), (8, [18])], [], []⟩ ((Tryz.f168).body.getD .skip) (.s (.n) (.s (.n) (.s (.n) (.s (.n) (.s (.s (.n) (.s (.lp [.row 8 8 9 1 (.str), .leaf 9 (.int .i64)] 0 false (.n)) .n)) (.n)))))) [.ag 12, .lf (.str), .lf (.int .i64)] x = iX (k + 1) x.1 x.2.1 x.2.2.1 := by kernel_rfl
theorem yY : ∀ k : Nat, bQ prog 168 [.ag 12, .lf (.str), .lf (.int .i64)] [.lf (.sl (.str))] (fun x => iX k x.1 x.2.1 x.2.2.1)
 | 0 => fun x r h => by cases h
 | k + 1 => cE (n := 35) (.cons (yY k) (.cons (Pc) (.nil))) Tryz.mixed Tryz.func168 rfl (by kernel_rfl) rfl rfl rfl (JN k)
def JQ : Ent := ⟨[.ag 12, .lf (.int .i64)], [.lf (.sl (.str))], fun x => sr x.1 x.2.1⟩
theorem JP : EOk prog 153 JQ := aF .n [] [] [] (.cons (yY ab) .nil) Tryz.mixed Tryz.func153
def Mw : Ent := ⟨[.ag 1, .ag 7], [.lf (.int .i64)], fun x => mG x.1 x.2.1⟩
theorem BG : EOk prog 161 Mw := aF .n [] [] [] .nil Tryz.mixed Tryz.func161
def SO : Ent := ⟨[.ag 1, .ag 7], [.lf (.bool)], fun x => sq x.1 x.2.1⟩
theorem HW : EOk prog 148 SO := aF .n [] [] [] (.cons BG .nil) Tryz.mixed Tryz.func148
def Hx : Ent := ⟨[.ag 12, .lf (.int .i64)], [.ag 7, .lf (.bool)], fun x => kZ x.1 x.2.1⟩
theorem mB : EOk prog 17 Hx := aF (.s .n (.s (.s .n (.s (.lp [.leaf 6 (.int .i64)] 0 true .n) .n)) .n)) [] [4] [] .nil Tryz.mixed Tryz.func17
def U1 : Ent := ⟨[.ag 12, .ag 7], [.ag 12], fun x => Ay x.1 x.2.1⟩
theorem EH : EOk prog 35 U1 := aF (.s .n (.s .n (.s (.s (.lp [.leaf 5 (.int .i64)] 0 false .n) .n) (.s .n (.s .n (.s (.s .n (.j [.leaf 5 (.int .i64)] .n)) .n)))))) [] [4] [] .nil Tryz.mixed Tryz.func35
def Sc : Ent := ⟨[.ag 12, .lf (.int .i64), .lf (.int .i64)], [.ag 12, .lf (.int .i64)], fun x => CK x.1 x.2.1 x.2.2.1⟩
theorem Sb : EOk prog 15 Sc := aF .n [] [6] [] (.cons mB (.cons EH .nil)) Tryz.mixed Tryz.func15
def Sa : Ent := ⟨[.ag 12, .lf (.int .i64)], [.ag 12], fun x => yi x.1 x.2.1⟩
theorem R9 : EOk prog 93 Sa := aF .n [] [4] [] (.cons mB (.cons EH .nil)) Tryz.mixed Tryz.func93
def Hv : Ent := ⟨[.ag 12, .lf (.int .i64)], [.ag 0], fun x => yg x.1 x.2.1⟩
theorem Hu : EOk prog 19 Hv := aF (.s .n (.s .n (.s (.s .n (.s (.lp [.box 5 27 0 [], .leaf 6 (.int .i64)] 0 false .n) .n)) .n))) [] [4] [] (.cons il .nil) Tryz.mixed Tryz.func19
def Hw : Ent := ⟨[.ag 12, .lf (.int .i64)], [.ag 0], fun x => uS x.1 x.2.1⟩
theorem AA : EOk prog 21 Hw := aF .n [] [4] [] (.cons mB (.cons Hu (.cons HM .nil))) Tryz.mixed Tryz.func21
def R8 : Ent := ⟨[.lf (.int .i64)], [.lf (.bool)], fun x => yf x.1⟩
theorem R7 : EOk prog 34 R8 := aF .n [] [] [] .nil Tryz.mixed Tryz.func34
def FT : Ent := ⟨[.ag 12, .ag 7], [.ag 12, .lf (.int .i64)], fun x => p9 x.1 x.2.1⟩
theorem FS : EOk prog 12 FT := aF .n [] [4] [] (.cons R7 (.cons mB (.cons EH .nil))) Tryz.mixed Tryz.func12
def Bu : Ent := ⟨[.ag 12], [.lf (.sl (.int .i64))], fun x => rf x.1⟩
theorem Bt : EOk prog 24 Bu := aF (.s .n (.s .n (.s (.s .n (.s (.lp [.row 3 3 3 1 (.int .i64), .leaf 4 (.int .i64)] 0 false .n) .n)) .n))) [] [] [] .nil Tryz.mixed Tryz.func24
def O2 : Ent := ⟨[.ag 12, .lf (.int .i64)], [.ag 11, .lf (.bool)], fun x => yS x.1 x.2.1⟩
theorem O1 : EOk prog 133 O2 := aF (.s .n (.s (.s .n (.s (.lp [.leaf 6 (.int .i64)] 0 true .n) .n)) .n)) [] [4] [] .nil Tryz.mixed Tryz.func133
def SI : Ent := ⟨[.ag 12, .lf (.str), .ag 1], [.lf (.bool)], fun x => yV x.1 x.2.1 x.2.2.1⟩
theorem HV : EOk prog 149 SI := aF .n [] [] [] (.cons ki (.cons il (.cons pe (.cons oJ .nil)))) Tryz.mixed Tryz.func149
def O3 : Ent := ⟨[.ag 12, .lf (.str), .lf (.int .i64), .lf (.int .i64)], [.lf (.bool)], fun x => ue x.1 x.2.1 x.2.2.1 x.2.2.2.1⟩
theorem EZ : EOk prog 150 O3 := aF .n [] [] [] (.cons Fb (.cons Se (.cons oJ .nil))) Tryz.mixed Tryz.func150
def JM : Ent := ⟨[.ag 12, .lf (.int .i64)], [.ag 12], fun x => fu x.1 x.2.1⟩
theorem yW : EOk prog 92 JM := aF (.s .n (.s .n (.s (.s .n (.s (.lp [.row 5 5 88 3 (.st 11), .leaf 6 (.int .i64)] 0 false .n) .n)) .n))) [] [4] [] .nil Tryz.mixed Tryz.func92
def Mt : Ent := ⟨[.ag 12, .ag 7, .ag 2, .ag 1], [.ag 12, .ag 6], fun x => mF x.1 x.2.1 x.2.2.1 x.2.2.2.1⟩
theorem BF : EOk prog 152 Mt := aF (.s .n (.s .n (.s .n (.s .n (.s (.s .n (.j [.box 6 70 2 []] .n)) (.s .n (.s (.s (.lp [.leaf 11 (.int .i64)] 0 false .n) .n) .n))))))) [(3, [54, 57, 60, 61, 86, 89, 90, 96]), (13, [54, 57, 60, 61, 81, 86, 89, 90, 96])] [8, 9] [] (.cons R1 (.cons oM .nil)) Tryz.mixed Tryz.func152
def O5 : Ent := ⟨[.ag 12, .ag 7, .ag 11], [.ag 12, .lf (.int .i64), .ag 6, .lf (.bool)], fun x => rq x.1 x.2.1 x.2.2.1⟩
theorem O4 : EOk prog 134 O5 := aF .n [] [6, 8] [] (.cons gG (.cons UZ (.cons gF (.cons HW (.cons oJ (.cons HV (.cons EZ (.cons yW (.cons AA (.cons Ff (.cons BF .nil))))))))))) Tryz.mixed Tryz.func134
def Mr : Ent := ⟨[.ag 12, .lf (.int .i64), .lf (.int .i64)], [.lf (.bool)], fun x => u6 x.1 x.2.1 x.2.2.1⟩
theorem Mq : EOk prog 170 Mr := aF (.s .n (.s (.s .n (.s (.lp [.leaf 7 (.int .i64)] 0 true .n) .n)) .n)) [] [] [] .nil Tryz.mixed Tryz.func170
def O7 : Ent := ⟨[.ag 12, .ag 11], [.ag 12], fun x => rr x.1 x.2.1⟩
theorem O6 : EOk prog 171 O7 := aF (.s .n (.s .n (.s (.s (.lp [.leaf 5 (.int .i64)] 0 false .n) .n) .n))) [] [4] [] .nil Tryz.mixed Tryz.func171
def SK : Ent := ⟨[.ag 12, .ag 7, .ag 2, .ag 1, .lf (.bool)], [.ag 12, .lf (.int .i64), .ag 6], fun x => u7 x.1 x.2.1 x.2.2.1 x.2.2.2.1 x.2.2.2.2.1⟩
theorem SJ : EOk prog 155 SK := aF (.s .n (.s .n (.s .n (.s (.s .n (.s (.s (.s .n (.j [.box 7 70 2 [], .box 5 41 12 []] .n)) .n) .n)) .n)))) [] [10, 12] [] (.cons HV (.cons BG (.cons oJ (.cons HW (.cons R4 (.cons oM (.cons Ff (.cons AA (.cons BF (.cons Mq (.cons O6 .nil))))))))))) Tryz.mixed Tryz.func155
def Mo : Ent := ⟨[.ag 12, .ag 7, .lf (.bool)], [.ag 12, .lf (.int .i64), .ag 6], fun x => eb x.1 x.2.1 x.2.2.1⟩
theorem Mn : EOk prog 135 Mo := aF (.s .n (.s .n (.s (.s .n (.s (.lp [.box 3 41 12 [], .leaf 10 (.int .i64)] 0 true (.s .n (.s (.s (.s .n (.s .n (.s (.lp [.box 3 41 12 [], .leaf 12 (.int .i64)] 2 true (.s .n (.s (.s (.s .n (.s .n (.s .n (.s (.lp [.box 3 41 12 [], .leaf 15 (.int .i64)] 4 true .n) .n)))) .n) .n))) .n))) .n) .n))) .n)) .n))) [] [6, 8] [] (.cons JP (.cons Pd (.cons gG (.cons EZ (.cons SJ .nil))))) Tryz.mixed Tryz.func135
def SN : Ent := ⟨[.ag 12, .lf (.int .i64)], [.ag 12, .lf (.int .i64), .ag 6], fun x => u9 x.1 x.2.1⟩
theorem SM : EOk prog 117 SN := aF .n [] [4, 6] [] (.cons mB (.cons O1 (.cons O4 (.cons Mn .nil)))) Tryz.mixed Tryz.func117
def Pb : Ent := ⟨[.ag 12, .lf (.int .i64)], [.ag 12, .lf (.sl (.st 6))], fun x => pB x.1 x.2.1⟩
theorem Pa : EOk prog 80 Pb := aF (.s .n (.s .n (.s (.s .n (.s (.lp [.box 2 41 12 [], .row 6 6 86 9 (.st 6), .leaf 7 (.int .i64)] 0 false .n) .n)) .n))) [(5, [27, 28])] [4] [] (.cons SM .nil) Tryz.mixed Tryz.func80
def OQ : Ent := ⟨[.lf (.int .i64)], [.lf (.int .i64)], fun x => lu x.1⟩
theorem OP : EOk prog 178 OQ := aF .n [] [] [] .nil Tryz.mixed Tryz.func178
def BD : Ent := ⟨[.lf (.int .i64), .lf (.sl (.int .i64)), .lf (.sl (.int .i64)), .lf (.sl (.int .i64))], [.lf (.sl (.int .i64))], fun x => u4 x.1 x.2.1 x.2.2.1 x.2.2.2.1⟩
theorem Mf : EOk prog 173 BD := aF (.s .n (.s .n (.s .n (.s .n (.s (.s .n (.s (.lp [.row 11 11 3 1 (.int .i64), .leaf 10 (.int .i64), .leaf 12 (.int .i64)] 0 false .n) .n)) (.s (.s .n (.s (.lp [.row 11 11 3 1 (.int .i64), .leaf 10 (.int .i64), .leaf 14 (.int .i64)] 2 false .n) .n)) .n)))))) [(2, [49, 50]), (7, [49, 50]), (13, [49, 50])] [] [] (.cons OP .nil) Tryz.mixed Tryz.func173
theorem OS (k : Nat) (x : cG [.ag 12, .lf (.str), .lf (.int .i64), .lf (.int .i64)]) : iC ⟨prog, [(157, ⟨[.ag 12, .lf (.str), .lf (.int .i64), .lf (.int .i64)], [.lf (.sl (.st 18))], fun x => lw k x.1 x.2.1 x.2.2.1 x.2.2.2.1⟩), (54, HF), (158, EM), (165, HA), (137, Fd), (159, vQ), (173, BD)], 101, [.lf (.sl (.st 18))], [.tmp 8], [(1, [27, 43, 44, 54, 55, 74, 75, 99]), (8, [27, 54, 55, 74, 75, 99]), (9, [27, 43, 44, 74, 75, 99]), (10, [27, 43, 44, 54, 55, 99]), (11, [10, 11, 12, 27, 43, 44, 54, 55, 74, 75, 99]), (16, [10, 11, 12, 27, 43, 44, 54, 55, 74, 75])], [], []⟩ ((Tryz.f157).body.getD .skip) (.s (.n) (.s (.n) (.s (.n) (.s (.n) (.s (.s (.n) (.s (.lp [.row 10 10 3 1 (.int .i64), .row 12 12 3 1 (.int .i64), .row 11 11 3 1 (.int .i64), .leaf 13 (.int .i64)] 0 false (.n)) .n)) (.s (.n) (.s (.n) (.s (.s (.n) (.s (.lp [.row 15 15 198 2 (.st 18), .leaf 16 (.int .i64)] 2 false (.n)) .n)) (.n))))))))) [.ag 12, .lf (.str), .lf (.int .i64), .lf (.int .i64)] x = lw (k + 1) x.1 x.2.1 x.2.2.1 x.2.2.2.1 := by kernel_rfl
theorem EY : ∀ k : Nat, bQ prog 157 [.ag 12, .lf (.str), .lf (.int .i64), .lf (.int .i64)] [.lf (.sl (.st 18))] (fun x => lw k x.1 x.2.1 x.2.2.1 x.2.2.2.1)
 | 0 => fun x r h => by cases h
 | k + 1 => cE (n := 101) (.cons (EY k) (.cons (uW) (.cons (pe) (.cons (Hz) (.cons (ki) (.cons (vP) (.cons (Mf) (.nil)))))))) Tryz.mixed Tryz.func157 rfl (by kernel_rfl) rfl rfl rfl (OS k)
def JJ : Ent := ⟨[.ag 12, .lf (.int .i64)], [.lf (.sl (.st 18))], fun x => pA x.1 x.2.1⟩
theorem yN : EOk prog 141 JJ := aF (.s .n (.s .n (.s .n (.s (.s .n (.s (.lp [.leaf 5 (.sl (.st 18)), .leaf 7 (.int .i64)] 0 false (.s .n (.s (.s (.s .n (.s (.s (.lp [.leaf 8 (.int .i64)] 2 false .n) .n) .n)) .n) .n))) .n)) .n)))) [(2, [5, 46, 52, 53, 58])] [] [] (.cons pd (.cons (EY ab) .nil)) Tryz.mixed Tryz.func141
def SE : Ent := ⟨[.ag 12, .lf (.int .i64), .lf (.str)], [.lf (.int .i64)], fun x => yM x.1 x.2.1 x.2.2.1⟩
theorem SC : EOk prog 140 SE := aF (.s .n (.s .n (.s (.s .n (.s (.lp [.leaf 8 (.int .i64)] 0 true .n) .n)) .n))) [] [] [] (.cons yN .nil) Tryz.mixed Tryz.func140
def OO : Ent := ⟨[.ag 12, .ag 12], [.lf (.sl (.int .i64))], fun x => tZ x.1 x.2.1⟩
theorem EX : EOk prog 97 OO := aF (.s .n (.s .n (.s (.s .n (.s (.lp [.row 5 5 3 1 (.int .i64), .leaf 6 (.int .i64)] 0 false .n) .n)) .n))) [(5, [36, 37])] [] [] (.cons mI .nil) Tryz.mixed Tryz.func97
def L9 : Ent := ⟨[.ag 12, .lf (.str), .lf (.int .i64)], [.lf (.int .i64)], fun x => rn x.1 x.2.1 x.2.2.1⟩
theorem L8 : EOk prog 142 L9 := aF (.s .n (.s .n (.s (.s .n (.s (.lp [.leaf 9 (.int .i64)] 0 true (.s .n (.s (.s (.s .n (.s .n (.s (.lp [.leaf 11 (.int .i64)] 2 true .n) .n))) .n) .n))) .n)) .n))) [] [] [] (.cons ki (.cons pe (.cons gF (.cons vP .nil)))) Tryz.mixed Tryz.func142
def OJ : Ent := ⟨[.ag 12, .ag 6], [.lf (.str)], fun x => iU x.1 x.2.1⟩
theorem wX : EOk prog 138 OJ := aF .n [] [] [] (.cons gG .nil) Tryz.mixed Tryz.func138
def U5 : Ent := ⟨[.lf (.sl (.int .i64)), .lf (.int .i64)], [.lf (.bool)], fun x => wY x.1 x.2.1⟩
theorem Mb : EOk prog 160 U5 := aF (.s .n (.s (.s .n (.s (.lp [.leaf 5 (.int .i64)] 0 true .n) .n)) .n)) [] [] [] .nil Tryz.mixed Tryz.func160
def JG : Ent := ⟨[.ag 12, .lf (.str), .lf (.int .i64), .lf (.sl (.int .i64))], [.lf (.int .i64)], fun x => mE x.1 x.2.1 x.2.2.1 x.2.2.2.1⟩
theorem JF : EOk prog 143 JG := aF (.s .n (.s .n (.s (.s .n (.s (.lp [.leaf 9 (.int .i64), .leaf 10 (.int .i64)] 0 false .n) .n)) .n))) [] [] [] (.cons wX (.cons Mb .nil)) Tryz.mixed Tryz.func143
def JD : Ent := ⟨[.ag 12, .lf (.str), .lf (.int .i64), .lf (.sl (.int .i64))], [.ag 6, .lf (.bool)], fun x => pv x.1 x.2.1 x.2.2.1 x.2.2.2.1⟩
theorem JC : EOk prog 144 JD := aF (.s .n (.s .n (.s (.s .n (.s (.lp [.box 10 86 6 [], .leaf 11 (.bool), .leaf 12 (.int .i64)] 0 false .n) .n)) .n))) [] [8] [] (.cons wX (.cons Mb .nil)) Tryz.mixed Tryz.func144
def ON : Ent := ⟨[.ag 12, .lf (.int .i64)], [.lf (.sl (.int .i64))], fun x => yK x.1 x.2.1⟩
theorem OM : EOk prog 121 ON := aF (.s .n (.s .n (.s .n (.s (.s .n (.s (.lp [.leaf 6 (.int .i64), .leaf 7 (.int .i64)] 0 false .n) .n)) (.s .n (.s (.s (.lp [.row 8 8 3 1 (.int .i64)] 2 true (.s .n (.s (.s .n (.s (.s .n (.s (.lp [.leaf 9 (.int .i64), .box 10 86 6 [], .leaf 11 (.int .i64)] 4 false .n) .n)) .n)) .n))) .n) .n)))))) [(1, [103, 104]), (2, [103, 104]), (6, [103, 104]), (8, [103, 104]), (14, [103, 104]), (15, [103, 104])] [] [] (.cons yN (.cons pd (.cons ki (.cons L8 (.cons JF (.cons JC .nil)))))) Tryz.mixed Tryz.func121
def JB : Ent := ⟨[.ag 12, .ag 6], [.lf (.int .i64)], fun x => pq x.1 x.2.1⟩
theorem JA : EOk prog 139 JB := aF (.s .n (.s .n (.s (.s .n (.s (.lp [.leaf 5 (.int .i64), .leaf 6 (.int .i64)] 0 false .n) .n)) .n))) [] [] [] .nil Tryz.mixed Tryz.func139
def OI : Ent := ⟨[.ag 12, .lf (.int .i64), .lf (.int .i64)], [.ag 12], fun x => nB x.1 x.2.1 x.2.2.1⟩
theorem EW : EOk prog 122 OI := aF (.s .n (.s .n (.s (.s .n (.s (.lp [.row 7 9 86 9 (.st 6), .leaf 8 (.int .i64)] 0 false .n) .n)) .n))) [] [6] [] .nil Tryz.mixed Tryz.func122
def OL : Ent := ⟨[.ag 12, .lf (.int .i64)], [.ag 12], fun x => yH x.1 x.2.1⟩
theorem OK : EOk prog 120 OL := aF (.s .n (.s .n (.s (.s .n (.s (.lp [.row 5 5 86 9 (.st 6), .leaf 6 (.int .i64)] 0 false .n) .n)) (.s (.s .n (.s (.lp [.box 2 41 12 [], .leaf 8 (.int .i64)] 2 false .n) .n)) .n)))) [(11, [5, 43, 44, 84]), (13, [5, 43, 44, 84]), (14, [5, 43, 44]), (15, [5, 43, 44, 84])] [4] [] (.cons mI (.cons wX (.cons ki (.cons JA (.cons SC (.cons w8 (.cons EW .nil))))))) Tryz.mixed Tryz.func120
def Md : Ent := ⟨[.ag 12], [.ag 12, .lf (.sl (.int .i64))], fun x => uZ x.1⟩
theorem Mc : EOk prog 96 Md := aF (.s .n (.s .n (.s (.s .n (.s (.lp [.box 1 41 12 [], .leaf 5 (.int .i64)] 0 false (.s .n (.s (.s (.s .n (.s .n (.s .n (.s (.lp [.box 1 41 12 [], .leaf 7 (.int .i64)] 2 false .n) .n)))) .n) .n))) .n)) .n))) [] [2] [] (.cons OK (.cons OM (.cons EW (.cons EX .nil)))) Tryz.mixed Tryz.func96
def OV : Ent := ⟨[.lf (.int .i64)], [.lf (.bool)], fun x => ub x.1⟩
theorem OU : EOk prog 123 OV := aF .n [] [] [] .nil Tryz.mixed Tryz.func123
def U7 : Ent := ⟨[.lf (.sl (.st 8)), .lf (.int .i64), .lf (.int .i64)], [.ag 0], fun x => ud x.1 x.2.1 x.2.2.1⟩
theorem U6 : EOk prog 146 U7 := aF (.s .n (.s .n (.s (.s .n (.s (.lp [.box 7 27 0 [], .leaf 8 (.int .i64)] 0 false .n) .n)) .n))) [] [6] [] (.cons il .nil) Tryz.mixed Tryz.func146
def OX : Ent := ⟨[.lf (.sl (.st 8)), .ag 0, .ag 8, .lf (.int .i64), .lf (.int .i64)], [.lf (.bool)], fun x => rp x.1 x.2.1 x.2.2.1 x.2.2.2.1 x.2.2.2.2.1⟩
theorem OW : EOk prog 124 OX := aF (.s .n (.s .n (.s (.s .n (.s (.lp [.leaf 11 (.int .i64)] 0 true .n) .n)) .n))) [] [] [] (.cons U6 (.cons il (.cons oJ .nil))) Tryz.mixed Tryz.func124
def Mj : Ent := ⟨[.lf (.sl (.st 8)), .ag 0, .ag 8, .lf (.int .i64)], [.lf (.int .i64), .lf (.int .i64)], fun x => u5 x.1 x.2.1 x.2.2.1 x.2.2.2.1⟩
theorem Mi : EOk prog 98 Mj := aF (.s .n (.s .n (.s .n (.s (.s .n (.s (.lp [.leaf 10 (.int .i64), .leaf 11 (.int .i64)] 0 false (.s .n (.s (.s (.s .n (.s (.s .n (.j [.leaf 12 (.int .i64)] .n)) .n)) .n) .n))) .n)) .n)))) [] [] [] (.cons OU (.cons OW .nil)) Tryz.mixed Tryz.func98
def SH : Ent := ⟨[.ag 12, .ag 8, .lf (.int .i64)], [.ag 12, .lf (.int .i64), .lf (.int .i64)], fun x => yQ x.1 x.2.1 x.2.2.1⟩
theorem SG : EOk prog 49 SH := aF (.s .n (.s .n (.s .n (.s (.s .n (.s (.lp [.leaf 9 (.int .i64), .leaf 10 (.int .i64)] 0 true .n) .n)) .n)))) [] [6] [] (.cons pd (.cons Mi .nil)) Tryz.mixed Tryz.func49
def OZ : Ent := ⟨[.ag 12, .lf (.int .i64)], [.ag 12, .lf (.int .i64)], fun x => uc x.1 x.2.1⟩
theorem OY : EOk prog 50 OZ := aF (.s .n (.s .n (.s (.s .n (.s (.lp [.row 6 6 72 6 (.st 8), .leaf 7 (.int .i64)] 0 false .n) .n)) .n))) [] [4] [] .nil Tryz.mixed Tryz.func50
theorem Ju (k : Nat) (x : cG [.lf (.int .i64)]) : iC ⟨prog, [(52, ⟨[.lf (.int .i64)], [.lf (.str)], fun x => dn k x.1⟩)], 25, [.lf (.str)], [.tmp 2], [], [], []⟩ ((Tryz.f52).body.getD .skip) (.n) [.lf (.int .i64)] x = dn (k + 1) x.1 := by kernel_rfl
theorem yq : ∀ k : Nat, bQ prog 52 [.lf (.int .i64)] [.lf (.str)] (fun x => dn k x.1)
 | 0 => fun x r h => by cases h
 | k + 1 => cE (n := 25) (.cons (yq k) (.nil)) Tryz.mixed Tryz.func52 rfl (by kernel_rfl) rfl rfl rfl (Ju k)
def U2 : Ent := ⟨[.lf (.str), .lf (.int .u8)], [.lf (.sl (.str))], fun x => EP x.1 x.2.1⟩
theorem LX : EOk prog 109 U2 := aF (.s .n (.s .n (.s .n (.s (.s .n (.s (.lp [.row 5 5 9 1 (.str), .leaf 6 (.int .i64), .leaf 7 (.int .i64)] 0 false .n) .n)) (.s (.s .n (.j [.row 5 5 9 1 (.str)] .n)) .n))))) [] [] [] .nil Tryz.mixed Tryz.func109
def Oe : Ent := ⟨[.lf (.str)], [.lf (.sl (.str))], fun x => yl x.1⟩
theorem Od : EOk prog 110 Oe := aF (.s .n (.s .n (.s .n (.s (.s .n (.s (.lp [.row 3 3 9 1 (.str), .leaf 5 (.int .i64)] 0 false .n) .n)) .n)))) [] [] [] (.cons LX .nil) Tryz.mixed Tryz.func110
def LW : Ent := ⟨[.lf (.str)], [.lf (.int .i64), .lf (.bool)], fun x => oI x.1⟩
theorem Bw : EOk prog 129 LW := aF (.s .n (.s .n (.s .n (.s (.s .n (.s (.lp [.leaf 4 (.int .i64), .leaf 5 (.int .i64)] 0 true .n) .n)) .n)))) [] [] [] .nil Tryz.mixed Tryz.func129
def Oh : Ent := ⟨[.lf (.str)], [.ag 3, .lf (.bool)], fun x => ym x.1⟩
theorem Og : EOk prog 130 Oh := aF (.s .n (.s .n (.s (.s (.lp [.leaf 4 (.int .i64)] 0 false .n) .n) .n))) [] [2] [] (.cons Bw .nil) Tryz.mixed Tryz.func130
def Oj : Ent := ⟨[.lf (.sl (.str)), .lf (.int .i64)], [.ag 4, .lf (.bool)], fun x => yn x.1 x.2.1⟩
theorem Oi : EOk prog 111 Oj := aF (.s .n (.s .n (.s .n (.s .n (.s (.s .n (.s (.lp [.leaf 7 (.bool), .box 8 99 4 [(1, 1161, 96, 2, .st 3)], .leaf 9 (.int .i64)] 0 false .n) .n)) .n))))) [] [4] [] (.cons Bw (.cons Og .nil)) Tryz.mixed Tryz.func111
def Om : Ent := ⟨[.lf (.str)], [.ag 5, .lf (.int .i64)], fun x => yp x.1⟩
theorem Ol : EOk prog 73 Om := aF (.s .n (.s .n (.s .n (.s .n (.s .n (.s (.s .n (.s (.lp [.box 4 34 5 [], .leaf 5 (.bool), .leaf 7 (.int .i64)] 0 true (.s .n (.s (.s (.s .n (.s .n (.s .n (.s .n (.s .n (.s .n (.s .n (.s (.s (.lp [.leaf 11 (.int .i64)] 2 false .n) .n) .n)))))))) .n) .n))) .n)) .n)))))) [] [2] [] (.cons LX (.cons Od (.cons Oi .nil))) Tryz.mixed Tryz.func73
def AF : Ent := ⟨[.ag 5], [.lf (.str)], fun x => yo x.1⟩
theorem HI : EOk prog 28 AF := aF (.s .n (.s .n (.s (.s .n (.s (.lp [.leaf 3 (.str), .leaf 4 (.int .i64)] 0 false .n) .n)) (.s .n (.s (.s .n (.s (.lp [.leaf 3 (.str), .leaf 5 (.int .i64)] 2 false (.s .n (.s (.s (.s .n (.s .n (.s (.s .n (.s (.lp [.leaf 3 (.str), .leaf 7 (.int .i64)] 4 false .n) .n)) .n))) .n) .n))) .n)) .n))))) [] [] [] (.cons (yq ab) .nil) Tryz.mixed Tryz.func28
def AH : Ent := ⟨[], [.ag 12], fun x => Jz ⟩
theorem HQ : EOk prog 26 AH := aF .n [] [0] [] .nil Tryz.mixed Tryz.func26
def SB : Ent := ⟨[.ag 12, .lf (.int .i64)], [.ag 12, .ag 10], fun x => dG x.1 x.2.1⟩
theorem oK : EOk prog 51 SB := aF .n [] [4, 5] [] .nil Tryz.mixed Tryz.func51
def Jy : Ent := ⟨[.ag 12, .lf (.str)], [.ag 12, .ag 10], fun x => sp x.1 x.2.1⟩
theorem Jx : EOk prog 43 Jy := aF (.s .n (.s .n (.s (.s .n (.j [.leaf 7 (.int .i64)] .n)) (.s .n (.s .n (.s (.s .n (.s (.lp [.leaf 8 (.int .i64)] 0 true .n) .n)) (.s (.s .n (.s (.lp [.leaf 9 (.int .i64)] 2 true .n) .n)) .n))))))) [] [4, 5] [] (.cons Ol (.cons Ob (.cons oK (.cons gF (.cons AE .nil))))) Tryz.mixed Tryz.func43
def U4 : Ent := ⟨[.ag 12, .lf (.int .i64)], [.lf (.sl (.int .i64))], fun x => wU x.1 x.2.1⟩
theorem L4 : EOk prog 77 U4 := aF (.s .n (.s .n (.s (.s .n (.s (.lp [.row 5 5 3 1 (.int .i64), .leaf 6 (.int .i64)] 0 false .n) .n)) .n))) [] [] [] .nil Tryz.mixed Tryz.func77
def OE : Ent := ⟨[.ag 12, .ag 9], [.ag 12, .ag 10], fun x => yF x.1 x.2.1⟩
theorem OD : EOk prog 44 OE := aF (.s .n (.s .n (.s .n (.s .n (.s .n (.s .n (.s (.s .n (.s (.lp [.row 10 10 3 1 (.int .i64), .leaf 11 (.int .i64)] 0 false .n) .n)) .n))))))) [(1, [83, 84]), (3, [83, 84]), (4, [83, 84]), (6, [83, 84]), (11, [83, 84]), (14, [10, 83, 84]), (15, [10, 83, 84]), (16, [10, 83, 84])] [4, 5] [] (.cons mB (.cons L4 (.cons Sb (.cons oK (.cons mI (.cons w8 (.cons Pa .nil))))))) Tryz.mixed Tryz.func44
def L6 : Ent := ⟨[.ag 12, .lf (.sl (.int .i64))], [.lf (.sl (.st 6))], fun x => rl x.1 x.2.1⟩
theorem L5 : EOk prog 86 L6 := aF (.s .n (.s .n (.s (.s .n (.s (.lp [.row 5 5 86 9 (.st 6), .leaf 6 (.int .i64)] 0 false .n) .n)) .n))) [(5, [27, 28])] [] [] (.cons mI .nil) Tryz.mixed Tryz.func86
def FV : Ent := ⟨[.ag 12, .lf (.int .i64)], [.lf (.sl (.int .i64))], fun x => nA x.1 x.2.1⟩
theorem FU : EOk prog 87 FV := aF (.s .n (.s .n (.s (.s .n (.s (.lp [.row 5 5 3 1 (.int .i64), .leaf 6 (.int .i64)] 0 false .n) .n)) .n))) [] [] [] .nil Tryz.mixed Tryz.func87
def L3 : Ent := ⟨[.ag 12, .lf (.sl (.st 1)), .lf (.sl (.st 1))], [.lf (.sl (.st 1)), .lf (.int .i64)], fun x => uY x.1 x.2.1 x.2.2.1⟩
theorem L2 : EOk prog 88 L3 := aF (.s .n (.s (.s .n (.s (.lp [.leaf 1 (.sl (.st 1)), .leaf 8 (.int .i64)] 0 true .n) .n)) .n)) [] [] [] (.cons NY (.cons UX .nil)) Tryz.mixed Tryz.func88
def Jw : Ent := ⟨[.ag 12, .ag 9], [.ag 12, .ag 10], fun x => so x.1 x.2.1⟩
theorem Jv : EOk prog 46 Jw := aF (.s .n (.s .n (.s .n (.s .n (.s .n (.s (.s .n (.s (.lp [.box 2 41 12 [], .box 6 70 2 [], .leaf 10 (.int .i64)] 1 false .n) .n)) .n)))))) [(1, [61, 64, 144, 147]), (3, [61, 64, 144, 147]), (5, [61, 64, 144, 147]), (7, [61, 64, 144, 147]), (9, [144, 147]), (11, [61, 64, 144, 147]), (12, [61, 64, 144, 147]), (14, [61, 64, 144, 147]), (18, [61, 64, 144, 147]), (20, [61, 64, 144, 147]), (21, [61, 64, 144, 147]), (22, [61, 64]), (25, [61, 64, 144, 147])] [4, 5] [] (.cons gG (.cons oK (.cons L5 (.cons FU (.cons L2 (.cons mI (.cons Fi (.cons vR (.cons oM .nil))))))))) Tryz.mixed Tryz.func46
def SA : Ent := ⟨[.ag 12, .lf (.int .i64), .lf (.int .i64)], [.ag 12, .ag 10], fun x => yC x.1 x.2.1 x.2.2.1⟩
theorem Sz : EOk prog 47 SA := aF .n [] [6, 7] [] (.cons gG (.cons oK (.cons gF (.cons SQ .nil)))) Tryz.mixed Tryz.func47
def OC : Ent := ⟨[.ag 12, .lf (.int .i64)], [.lf (.int .i64)], fun x => tX x.1 x.2.1⟩
theorem OB : EOk prog 95 OC := aF (.s .n (.s (.s .n (.s (.lp [.leaf 5 (.int .i64)] 0 true .n) .n)) .n)) [] [] [] .nil Tryz.mixed Tryz.func95
def OA : Ent := ⟨[.ag 12, .lf (.int .i64)], [.ag 12, .ag 10], fun x => yB x.1 x.2.1⟩
theorem Oz : EOk prog 48 OA := aF (.s .n (.s .n (.s .n (.s .n (.s .n (.s .n (.s (.s .n (.s (.lp [.box 2 41 12 [], .leaf 8 (.int .i64)] 0 false .n) .n)) (.s .n (.s (.s .n (.s (.lp [.box 2 41 12 [], .leaf 9 (.int .i64)] 2 false .n) .n)) (.s .n (.s (.s .n (.s (.lp [.row 10 10 72 6 (.st 8), .leaf 11 (.int .i64)] 4 false .n) .n)) .n))))))))))) [(2, [79, 103, 104]), (4, [79, 103, 104]), (7, [79, 103, 104]), (11, [79, 103, 104]), (12, [79, 103, 104]), (13, [79, 103, 104]), (17, [103, 104]), (25, [10, 79, 103, 104]), (26, [10, 79, 103, 104])] [4, 5] [] (.cons oK (.cons Bt (.cons R9 (.cons yW (.cons L4 (.cons w8 (.cons JV (.cons OB (.cons Mc (.cons EX .nil)))))))))) Tryz.mixed Tryz.func48
def EV : Ent := ⟨[.ag 12, .ag 9], [.ag 12, .ag 10], fun x => rm x.1 x.2.1⟩
theorem OG : EOk prog 27 EV := aF .n [] [4, 5] [] (.cons Jx (.cons FS (.cons OD (.cons JT (.cons Jv (.cons Sz (.cons Oz (.cons SG (.cons OY (.cons oK .nil)))))))))) Tryz.mixed Tryz.func27
noncomputable def uB (x : cG [.lf (.int .i64), .lf (.int .i64)]) : Option (bf [.lf (.int .i64)]) := iC ⟨prog, [], 15, [.lf (.int .i64)], [.tmp 4], [], [], []⟩ ((Tryz.f10).body.getD .skip) (.n) [.lf (.int .i64), .lf (.int .i64)] x
noncomputable def MH : Ent := ⟨[.lf (.int .i64), .lf (.int .i64)], [.lf (.int .i64)], uB⟩
theorem MG : bQ prog 10 [.lf (.int .i64), .lf (.int .i64)] [.lf (.int .i64)] uB := cE (n := 15) (.nil) Tryz.mixed Tryz.func10 rfl (by kernel_rfl) rfl rfl rfl (fun _ => rfl)
noncomputable def AV (x : cG [.lf (.sl (.int .i64)), .lf (.sl (.int .i64))]) : Option (bf [.lf (.bool)]) := iC ⟨prog, [], 26, [.lf (.bool)], [.tmp 4], [], [], []⟩ ((Tryz.f22).body.getD .skip) (.s (.n) (.s (.n) (.s (.s (.n) (.s (.lp [.leaf 4 (.bool), .leaf 5 (.int .i64)] 0 true (.n)) .n)) (.n)))) [.lf (.sl (.int .i64)), .lf (.sl (.int .i64))] x
noncomputable def SW : Ent := ⟨[.lf (.sl (.int .i64)), .lf (.sl (.int .i64))], [.lf (.bool)], AV⟩
theorem SU : bQ prog 22 [.lf (.sl (.int .i64)), .lf (.sl (.int .i64))] [.lf (.bool)] AV := cE (n := 26) (.nil) Tryz.mixed Tryz.func22 rfl (by kernel_rfl) rfl rfl rfl (fun _ => rfl)
noncomputable def xe (x : cG []) : Option (bf [.lf (.bool)]) := iC ⟨prog, [(26, AH), (11, xd), (16, lR), (20, uw)], 37, [.lf (.bool)], [.tmp 0], [], [], []⟩ ((Tryz.f7).body.getD .skip) (.n) [] x
noncomputable def Pr : Ent := ⟨[], [.lf (.bool)], xe⟩
theorem Pq : bQ prog 7 [] [.lf (.bool)] xe := cE (n := 37) (.cons (HQ) (.cons (xc) (.cons (lQ) (.cons (uv) (.nil))))) Tryz.mixed Tryz.func7 rfl (by kernel_rfl) rfl rfl rfl (fun _ => rfl)
abbrev Tx := List UInt8
def sv (l : Tx) : Value := .string ⟨l.toArray⟩
theorem XX (S : ByteArray) : sv S.data.toList = .string S := by cases S; rfl
structure QD where
 path : Tx
 caps : List (Int × Int)
 user : Int
def above (l : Tx) : Tx := ((l.reverse.dropWhile (fun b => b != 46)).drop 1).reverse
theorem UT {l : Tx} (h : (46 : UInt8) ∉ l) : above l = [] := by
 unfold above
 have hp : ∀ x ∈ l.reverse, (x != 46) = true := fun x hx => by
  simp
  intro e
  subst e
  exact h (List.mem_reverse.1 hx)
 have := List.dropWhile_append_of_pos (l₂ := []) hp
 rw [List.append_nil] at this
 rw [this]
 rfl
theorem UU {a t : Tx} (h : (46 : UInt8) ∉ t) : above (a ++ 46 :: t) = a := by
 unfold above
 have hp : ∀ x ∈ t.reverse, (x != 46) = true := fun x hx => by simp; intro e; subst e; exact h (List.mem_reverse.1 hx)
 rw [List.reverse_append, List.reverse_cons, List.append_assoc, List.dropWhile_append_of_pos hp]
 simp
def kS (p : Tx) (q : QD) : Bool := decide (p ≠ []) && decide (above q.path = p)
def cD (p : Tx) (l : List QD) : List Tx := (l.filter (kS p)).map (·.path)
theorem DH (l : List QD) : cD [] l = [] := by
 unfold cD
 have : l.filter (kS []) = [] := by
  rw [List.filter_eq_nil_iff]
  intro q _
  simp [kS]
 rw [this]; rfl
theorem Ru {p : Tx} {l : List QD} {k : Nat} (h : k < l.length) : cD p (l.take (k + 1)) = cD p (l.take k) ++ if kS p l[k] then [l[k].path] else [] := by
 unfold cD
 rw [List.take_succ_eq_append_getElem h, List.filter_append, List.map_append]
 congr 1
 by_cases hk : kS p l[k] = true
 ·simp [hk]
 ·simp [hk]
theorem T4 (p : Tx) (l : List QD) : (cD p l).length ≤ l.length := by
 unfold cD
 rw [List.length_map]
 exact List.length_filter_le _ _
theorem V5 {p : Tx} {q : QD} (h0 : p ≠ []) (h : above q.path = p) : kS p q = true := by simp [kS, h0, h]
theorem Xz {p : Tx} {q : QD} (h : ¬ above q.path = p) : kS p q = false := by simp [kS, h]
theorem WZ {z x : ByteArray} (h : ¬ z = x) : (z.toList == x.toList) = false := by
 rw [beq_eq_false_iff_ne]
 intro e
 rw [ByteArray.toList_eq, ByteArray.toList_eq] at e
 apply h
 cases z; cases x
 simp only at e
 rw [Array.toList_inj] at e
 rw [e]
theorem uR (S : ByteArray) : S.size = S.data.toList.length := by cases S; rfl
theorem UN (S : ByteArray) (k : Nat) (h : k < S.size) : S[k] = S.data.toList[k]'(by rw [← uR]; exact h) := by cases S; rfl
theorem XP {S : ByteArray} : S = ⟨#[]⟩ ↔ S.data.toList = [] := by
 cases S with
 | mk d => constructor
           ·intro h; injection h with h; rw [h]
           ·intro h; simp at h; rw [h]
theorem Qo (S : ByteArray) (i j : Nat) : (S.extract i j).data.toList = (S.data.toList.drop i).take (j - i) := by
 cases S with
 | mk d => simp [ByteArray.extract, ByteArray.copySlice, Array.toList_extract, List.extract_eq_take_drop]
theorem W3 {T S : ByteArray} (e : T.data.toList = S.data.toList) : T = S := by
 cases T; cases S; simp only at e; rw [Array.toList_inj] at e; rw [e]
def cg (cs : List (Int × Int)) : List Value := cs.flatMap fun p => [.int .i64 p.1, .int .i64 p.2]
theorem FQ (cs : List (Int × Int)) (a b : Int) : cg (cs ++ [(a, b)]) = cg cs ++ [.int .i64 a, .int .i64 b] := by simp [cg]
structure QC where
 p : ByteArray
 A : Option Addr
 n : Nat
 c : Nat
 u : Int
def Ku (q : QC) : List Value := [.string q.p, .slice q.A q.n q.c, .int .i64 q.u]
def fJ (qs : List QC) : List Value := qs.flatMap Ku
theorem Kv (qs : List QC) (q : QC) : fJ (qs ++ [q]) = fJ qs ++ Ku q := by simp [fJ]
theorem Tryz.infoStr : (prog.info? 9).map (fun i => (i.zero, i.size, i.bytes)) = some (some (.string ⟨#[]⟩), 1, 16) := by kernel_rfl
theorem Tryz.infoQ : (prog.info? 99).map (fun i => (i.zero, i.size, i.bytes)) = some (some (.agg #[.string ⟨#[]⟩, .slice none 0 0, .int .i64 0]), 3, 48) := by kernel_rfl
theorem YK {s : ByteArray} {A : Option Addr} {n c : Nat} {i : Int} : ∀ u ∈ [Value.string s, Value.slice A n c, Value.int .i64 i], u.oneCell' = true := by
 intro u hu
 simp only [List.mem_cons, List.mem_nil_iff, or_false] at hu
 rcases hu with rfl | rfl | rfl <;> rfl
structure W6 (w : World) (g k : Nat) (q : QD) : Prop where
 ex : ∃ (P : ByteArray) (A : Option Addr) (c : Nat), w.cell? ⟨g, k * 3, none⟩ = some (.string P) ∧ w.cell? ⟨g, k * 3 + 1, none⟩ = some (.slice A q.caps.length c) ∧ w.cell? ⟨g, k * 3 + 2, none⟩ = some (.int .i64 q.user) ∧ P.data.toList = q.path ∧ RdK 2 w (.slice A q.caps.length c) q.caps.length (cg q.caps)
def QAt (w : World) (v : Value) (ds : List QD) : Prop := ∃ A c, v = .slice A ds.length c ∧ ds.length ≤ c ∧ c ≤ maxLen ∧ (0 < ds.length → ∃ g, A = some ⟨g, 0, none⟩ ∧ g < w.heap.size ∧ ∀ k (h : k < ds.length), W6 w g k ds[k])
theorem QAt.open {w : World} {v : Value} {ds : List QD} (h : QAt w v ds) : ∃ A N c, v = .slice A N c ∧ N = ds.length ∧ N ≤ c ∧ c ≤ 9223372036854775807 ∧ (0 < N → ∃ g, A = some ⟨g, 0, none⟩ ∧ g < w.heap.size ∧ ∀ k (h : k < ds.length), W6 w g k ds[k]) := by
 obtain ⟨A, c, rfl, h1, h2, h3⟩ := h
 unfold maxLen at h2
 exact ⟨A, _, c, rfl, rfl, h1, by omega, h3⟩
theorem J7 (a n : Int) (w : World) (hn : 0 < n ∧ n ≤ 1125899906842625) :
  Calls prog 53 #[.int .i64 a, .int .i64 n] w fun e w' => e = .returned (.int .i64 (a % n)) ∧ w = w' := by
 obtain ⟨n0, n1⟩ := hn
 have hz : (n == 0) = false := by simp; omega
 have l1 : a.tmod n < n := Int.tmod_lt_of_pos a n0
 have l2 : -n < a.tmod n := by have := Int.lt_tmod_of_pos a n0; omega
 by_cases hneg : a.tmod n < 0
 ·rw [Ld n0 hneg]
  go_enter Tryz.func53, Tryz.ntmps53
  go_wp2
  go_ret
  exact ⟨rfl, rfl⟩
 ·rw [Lc n0 hneg]
  go_enter Tryz.func53, Tryz.ntmps53
  go_wp2
  go_ret
  exact ⟨rfl, rfl⟩
theorem gw (a : Int) (n : Nat) (m : Int) (w : World) (hm : m = (n : Int)) (hn : 0 < n ∧ n ≤ 1125899906842625) :
  Calls prog 53 #[.int .i64 a, .int .i64 m] w fun e w' => ∃ y : Nat, e = .returned (.int .i64 (y : Int)) ∧ (y : Int) = a % (n : Int) ∧ y < n ∧ w = w' := by
 subst hm
 refine (J7 a n w ⟨by omega, by omega⟩).mono ?_
 rintro e w' ⟨rfl, rfl⟩
 have h0 := Int.emod_nonneg a (show (n : Int) ≠ 0 by omega)
 have h1 := Int.emod_lt_of_pos a (show (0 : Int) < n by omega)
 refine ⟨(a % (n : Int)).toNat, ?_, by omega, by omega, rfl⟩
 rw [show (((a % (n : Int)).toNat : Nat) : Int) = a % (n : Int) from by omega]
theorem Ng {w : World} {base : Nat} {e : TypeId} {k : Nat} {v : Value} {n : Nat} {xs : List Value} (h : w.ownsRow base e k v n xs) {B : Nat} (hB : B ≤ base) : ∀ k, v.ownBlock = some k → B ≤ k :=
 fun k hk => Nat.le_trans hB (h.lt k hk).1
theorem M9 (S : ByteArray) (w : World) (hs : S.size ≤ 1000000000) : Calls prog 100 #[.string S] w fun e w' => ∃ T : ByteArray, e = .returned (.string T) ∧ T.data.toList = above S.data.toList ∧ T.size ≤ S.size ∧ w = w' := by
 go_enter Tryz.func100, Tryz.ntmps100
 go_wp2
 go_loop [3] (fun i => ∃ k : Nat, k ≤ S.size ∧ i = .int .i64 ((k : Int) - 1) ∧ (46 : UInt8) ∉ S.data.toList.drop k) (fun i => (intOf i + 1).toNat)
 case atStart => exact ⟨S.size, Nat.le_refl _, rfl, by rw [List.drop_of_length_le (by rw [uR]; omega)]; simp⟩
 case round =>
  obtain ⟨k, hk, rfl, hno⟩ := hrel
  have HNO := Lib.hid hno
  clear hno
  cases k with
  | zero =>
   have H2 := Lib.hid (UT (l := S.data.toList) (by have := HNO.out; simpa using this))
   go_wp2
   go_ret
   exact ⟨⟨#[]⟩, rfl, H2.out.symm, Nat.zero_le _, rfl⟩
  | succ k =>
   have hkl : k < S.data.toList.length := by rw [← uR]; omega
   have e1 : ((k + 1 : Nat) : Int) - 1 = (k : Int) := by omega
   rw [e1]
   have i0 : (0 : Int) ≤ (k : Int) := by omega
   have i1 : (k : Int) < (S.size : Int) := by omega
   have i2 : (k : Int) ≤ 1000000000 := by omega
   clear e1
   by_cases hd : S[k]'(by omega) = 46
   ·have H2 := Lib.hid (show above S.data.toList = S.data.toList.take k by
     have e : S.data.toList = S.data.toList.take k ++ 46 :: S.data.toList.drop (k + 1) := by
      have h4 : S.data.toList[k] = 46 := by rw [← UN S k (by omega)]; exact hd
      have := List.take_append_drop k S.data.toList
      rw [List.drop_eq_getElem_cons hkl, h4] at this
      exact this.symm
     have := UU (a := S.data.toList.take k) HNO.out
     rw [← e] at this
     exact this)
    have hq : (((S[k]'(by omega)).toNat : Int) != 46) = false := by rw [hd]; rfl
    have hq2 : ((S[k]'(by omega)).toNat : Int) = 46 := by rw [hd]; rfl
    clear hd
    go_wp2
    go_ret
    refine ⟨_, rfl, ?_, ?_, rfl⟩
    ·rw [Qo, H2.out]; simp
    ·rw [uR, Qo, uR]; simp; omega
   ·have hq : ¬ ((S[k]'(by omega)).toNat : Int) = 46 := fun h => hd (UInt8.toNat.inj (by have : (46 : UInt8).toNat = 46 := rfl; omega))
    have hq2 : (((S[k]'(by omega)).toNat : Int) != 46) = true := by simpa using hq
    have HN2 := Lib.hid (show (46 : UInt8) ∉ S.data.toList.drop k by
     rw [List.drop_eq_getElem_cons hkl, List.mem_cons, not_or]
     exact ⟨fun e => hd (by rw [UN S k (by omega)]; exact e.symm), HNO.out⟩)
    clear hd
    go_wp2
    go_round
    case rel => exact ⟨k, by omega, by simp, HN2.out⟩
    case measure => simp [intOf]
def Vc (p : Tx) (ds : List QD) (w : World) (e : Ending) (w' : World) : Prop := ∃ A n c, e = .returned (.slice A n c) ∧ n = (cD p ds).length ∧ w'.ownsRow w.heap.size 9 1 (.slice A n c) n ((cD p ds).map sv) ∧ Ext w w'
theorem Dk {w : World} {B B' : Nat} {e : TypeId} {k : Nat} {v : Value} {n : Nat} {xs : List Value} (h : w.ownsRow B e k v n xs) (hB : B' ≤ B) : w.ownsRow B' e k v n xs := by
 refine ⟨h.1, ?_⟩
 rcases h.2 with hn | ⟨g, cap, cur, rfl, hb, hr⟩
 ·exact .inl hn
 ·exact .inr ⟨g, cap, cur, rfl, Nat.le_trans hB hb, hr⟩
theorem Jn {w wr V w3 : World} {B n : Nat} {v v' : Value} {l : List Tx} {T : ByteArray} (HX : Ext w wr) (hV : Ext wr V) (hn : n = l.length) (HO : wr.ownsRow B 9 1 v n (l.map sv)) (hB : w.heap.size ≤ B)
  (ho3 : w3.ownsRow B 9 1 v' (n + 1) (l.map sv ++ [.string T])) (hg3 : V.grownBy w3 v.ownBlock) : w3.ownsRow B 9 1 v' (l ++ [T.data.toList]).length ((l ++ [T.data.toList]).map sv) ∧ Ext w w3 := by
 refine ⟨?_, (HX.trans hV).trans' (cO hg3 ?_ (Ng HO hB))⟩
 ·rw [List.length_append, List.length_singleton, ← hn, List.map_append, List.map_singleton, XX]
  exact ho3
 ·exact Nat.le_trans HX.size hV.size
theorem Q9 (ds : List QD) (vl vq : Value) (S : ByteArray) (w : World) (hq : QAt w vq ds) (hlen : ds.length ≤ 1000) (hp : ∀ q ∈ ds, q.path.length ≤ 1000000000) :
  Calls prog 54 #[.agg #[vl, vq], .string S] w (Vc S.data.toList ds w) := by
 obtain ⟨j0, hj, hy0, hy1, hy2⟩ := info_parts Tryz.infoStr
 obtain ⟨A, N, c, rfl, hN, hc1, hc2, hcell⟩ := hq.open
 have HC := Lib.hid hcell
 have HN := Lib.hid hN
 have HP := Lib.hid hp
 have hN1 : N ≤ 1000 := by omega
 clear hcell hN hq hp
 go_enter Tryz.func54, Tryz.ntmps54
 go_wp2
 refine UP (fun W0 hW0 => ?_)
 have X0 := Lib.hid (show Ext w W0 by rw [hW0]; exact aN _ _)
 have b1 : W0.cell? ⟨w.heap.size, 1, none⟩ = some (.slice A N c) := by rw [hW0]; simp [go_sem]
 clear hW0
 go_loopw [5, 6] (fun v i wr => ∃ (k : Nat), k ≤ N ∧ i = .int .i64 k ∧ wr.ownsRow W0.heap.size 9 1 v (cD S.data.toList (ds.take k)).length ((cD S.data.toList (ds.take k)).map sv) ∧ Ext W0 wr) (fun _ i _ => N - (intOf i).toNat)
 case atStart => exact ⟨0, by omega, rfl, World.ownsRow_nil W0 _ _ 1, Ext.refl _⟩
 case round =>
  obtain ⟨k, hkN, rfl, ho, hx⟩ := hrel
  have HX := Lib.hid hx
  have b1r := hx.cell' b1
  have hkd := T4 S.data.toList (ds.take k)
  rw [List.length_take] at hkd
  obtain ⟨n, hn⟩ : ∃ n, n = (cD S.data.toList (ds.take k)).length := ⟨_, rfl⟩
  rw [← hn] at ho hkd
  obtain ⟨Av, cv, rfl, hv1, hv2⟩ := cH ho
  have HNN := Lib.hid hn
  have HO := Lib.hid ho
  have hn1 : n ≤ 1000 := by omega
  clear hx ho hn hkd
  have i0 : (0 : Int) ≤ (k : Int) := by omega
  by_cases hlt : k < N
  ·have i1 : (k : Int) < (N : Int) := by omega
   have hkl : k < ds.length := by have := HN.out; omega
   have HS := Lib.hid (Ru (p := S.data.toList) hkl)
   by_cases hS : S = ⟨#[]⟩
   ·have hE : S.toList = [] := by rw [hS, ByteArray.toList_eq]
    have HK := Lib.hid (show cD S.data.toList (ds.take (k + 1)) = cD S.data.toList (ds.take k) by rw [hS]; show cD [] _ = cD [] _; rw [DH, DH])
    clear hS
    go_wp2
    go_roundw
    case rel => exact ⟨k + 1, by omega, by simp, by rw [HK.out, ← HNN.out]; exact HO.out, HX.out⟩
    case measure => simp [intOf]; omega
   ·have hne : S.data.toList ≠ [] := fun h => hS (XP.2 h)
    have hE : ¬ S.toList = [] := by rw [ByteArray.toList_eq]; exact hne
    have hE2 : S.toList.isEmpty = false := by simp [hE]
    have hE3 : (!S.toList.isEmpty) = true := by simp [hE]
    obtain ⟨g, rfl, hg, hqc⟩ := HC.out (by omega)
    obtain ⟨P, Ac, cc, h1, h2, h3, h4, h5⟩ := (hqc k hkl).ex
    have c0 := (X0.out.trans HX.out).cell h1
    have HPP := Lib.hid h4
    have hPs : P.size ≤ 1000000000 := by rw [uR, h4]; exact HP.out _ (List.getElem_mem hkl)
    clear hqc h1 h2 h3 h4 h5 hS
    go_wp2_with fail
    (with_reducible refine (M9 P _ hPs).mono ?_)
    rintro e w2 ⟨T, rfl, hT, hTs, rfl⟩
    have HT := Lib.hid hT
    clear hT
    by_cases hTS : T = S
    ·have HK := Lib.hid (show cD S.data.toList (ds.take (k + 1)) = cD S.data.toList (ds.take k) ++ [P.data.toList] by
      rw [HS.out, V5 hne (by rw [← HPP.out, ← HT.out, hTS]), HPP.out]; rfl)
     have q1 : (T.toList == S.toList) = true := by rw [hTS]; simp
     clear hTS hne
     go_wp2_with (at_builtin; refine CQ _ rfl (.tmp 27) (.tmp 34) 31 31 rfl W0.heap.size 9 j0 (.string ⟨#[]⟩) 16 Tryz.underlying31 hj hy0 hy1 hy2 rfl _ n ((cD S.data.toList (ds.take k)).map sv) rfl (HO.out.alloc _) _ 1 _ rfl ((Rd.one _ _ _ _ _ rfl rfl).src ?c1 Tryz.underlying31) ?c3 ?c4 ?c5 ?_)
     case c1 => first | rfl | (intro u hu; simp at hu; subst hu; rfl)
     case c3 => simp [maxLen]; omega
     case c4 => omega
     case c5 => have h2 := HX.out.size; simp; omega
     intro v' w3 ho3 hg3 _ _
     obtain ⟨y1, y2⟩ := Jn HX.out (aN wr _) HNN.out HO.out (Nat.le_refl _) ho3 hg3
     have Y1 := Lib.hid y1
     have Y2 := Lib.hid y2
     obtain ⟨A3, c3, rfl, _, _⟩ := cH ho3
     clear y1 y2 ho3 hg3
     go_wp2
     go_roundw
     case rel => exact ⟨k + 1, by omega, by simp, by rw [HK.out]; exact Y1.out, Y2.out⟩
     case measure => simp [intOf]; omega
    ·have HK := Lib.hid (show cD S.data.toList (ds.take (k + 1)) = cD S.data.toList (ds.take k) by
      rw [HS.out, Xz (by intro e; apply hTS; rw [← HPP.out, ← HT.out] at e; cases T; cases S; simp only at e; rw [Array.toList_inj] at e; rw [e])]; simp)
     have q1 : (T.toList == S.toList) = false := WZ hTS
     clear hTS hne
     go_wp2
     go_roundw
     case rel => exact ⟨k + 1, by omega, by simp, by rw [HK.out, ← HNN.out]; exact HO.out, HX.out⟩
     case measure => simp [intOf]; omega
  ·have i1 : ¬ (k : Int) < (N : Int) := by omega
   have HK := Lib.hid (show cD S.data.toList (ds.take k) = cD S.data.toList ds by rw [List.take_of_length_le (by have := HN.out; omega)])
   go_wp2
   go_ret
   exact ⟨Av, n, cv, rfl, by rw [← HK.out]; exact HNN.out, by rw [← HK.out]; exact Dk HO.out X0.out.size, X0.out.trans HX.out⟩
theorem xZ : ∀ (cs : List (Int × Int)) (k : Nat) (a b : Int), k < cs.length → cg (cs.set k (a, b)) = ((cg cs).set (k * 2) (.int .i64 a)).set (k * 2 + 1) (.int .i64 b)
 | [], k, _, _, h => by simp at h
 | p :: cs, 0, a, b, _ => rfl
 | p :: cs, k + 1, a, b, h => by
  have ih := xZ cs k a b (by simpa using h)
  rw [List.set_cons_succ]
  show [Value.int .i64 p.1, .int .i64 p.2] ++ cg (cs.set k (a, b)) = ((([Value.int .i64 p.1, .int .i64 p.2] ++ cg cs).set ((k + 1) * 2) (.int .i64 a)).set ((k + 1) * 2 + 1) (.int .i64 b))
  rw [ih, show (k + 1) * 2 = k * 2 + 1 + 1 by omega]
  rfl
theorem Jh (cs : List (Int × Int)) (k : Nat) (h : k < cs.length) : (cg cs)[k * 2]? = some (.int .i64 cs[k].1) ∧ (cg cs)[k * 2 + 1]? = some (.int .i64 cs[k].2) := by
 induction cs generalizing k with
 | nil => simp at h
 | cons p cs ih =>
  cases k with
  | zero => exact ⟨rfl, rfl⟩
  | succ k =>
   obtain ⟨h1, h2⟩ := ih k (by simpa using h)
   have e : cg (p :: cs) = .int .i64 p.1 :: .int .i64 p.2 :: cg cs := rfl
   rw [e, show (k + 1) * 2 = k * 2 + 1 + 1 by omega]
   exact ⟨h1, h2⟩
theorem tg (qs : List QC) (k : Nat) (q : QC) (h : qs[k]? = some q) : (fJ qs)[k * 3]? = some (.string q.p) ∧ (fJ qs)[k * 3 + 1]? = some (.slice q.A q.n q.c) ∧ (fJ qs)[k * 3 + 2]? = some (.int .i64 q.u) := by
 induction qs generalizing k with
 | nil => simp at h
 | cons p qs ih =>
  have e : fJ (p :: qs) = .string p.p :: .slice p.A p.n p.c :: .int .i64 p.u :: fJ qs := rfl
  cases k with
  | zero =>
   simp at h
   subst h
   exact ⟨rfl, rfl, rfl⟩
  | succ k =>
   obtain ⟨h1, h2, h3⟩ := ih k (by simpa using h)
   rw [e, show (k + 1) * 3 = k * 3 + 1 + 1 + 1 by omega]
   exact ⟨h1, h2, h3⟩
def cb (q : QC) : Option Nat := (Value.slice q.A q.n q.c).ownBlock
def vY (w : World) (B : Nat) (q : QC) (d : QD) : Prop := q.p.data.toList = d.path ∧ q.u = d.user ∧ q.n = d.caps.length ∧ w.ownsRow B 96 2 (.slice q.A q.n q.c) q.n (cg d.caps)
theorem vY.ext {w w' : World} {B : Nat} {q : QC} {d : QD} (h : vY w B q d) (x : Ext w w') : vY w' B q d := ⟨h.1, h.2.1, h.2.2.1, kO h.2.2.2 x⟩
theorem vY.kept {w w' : World} {B : Nat} {row : Option Nat} {q : QC} {d : QD} (h : vY w B q d) (x : w.grownBy w' row) (hr : cb q = none ∨ cb q ≠ row) : vY w' B q d := ⟨h.1, h.2.1, h.2.2.1, h.2.2.2.kept x hr⟩
structure iA (w : World) (B : Nat) (v : Value) (ds : List QD) (qs : List QC) : Prop where
 row : w.ownsRow B 99 3 v ds.length (fJ qs)
 len : qs.length = ds.length
 each : ∀ (k : Nat) (q : QC) (h : k < ds.length), qs[k]? = some q → vY w B q ds[k]
 apart : ∀ (i j : Nat) (qi qj : QC), i ≠ j → qs[i]? = some qi → qs[j]? = some qj → ∀ g, cb qi = some g → cb qj ≠ some g
theorem iA.nil (w : World) (B : Nat) : iA w B (.slice none 0 0) [] [] := ⟨World.ownsRow_nil w _ _ 3, rfl, fun k _ h => absurd h (by simp), fun i j qi qj _ h => by simp at h⟩
theorem iA.ext {w w' : World} {B : Nat} {v : Value} {ds : List QD} {qs : List QC} (h : iA w B v ds qs) (x : Ext w w') : iA w' B v ds qs :=
 ⟨kO h.row x, h.len, fun k q hk hq => (h.each k q hk hq).ext x, h.apart⟩
theorem oE {w : World} {B e e' k n R : Nat} {v : Value} {xs : List Value} {cur : Array Value} {f : Nat × Nat} (h : w.ownsRow B e k v n xs) (hR : w.heap[R]? = some (.cells cur e' f)) (he : e ≠ e') : v.ownBlock ≠ some R := by
 rcases h.2 with ⟨rfl, _⟩ | ⟨g, cap, cur', rfl, _, hg, _⟩
 ·intro e1; cases e1
 ·intro e1
  simp [Value.ownBlock] at e1
  subst e1
  rw [hg] at hR
  injection hR with hR
  injection hR with _ h2
  exact he h2
theorem iA.kept {w w' : World} {B R : Nat} {v : Value} {ds : List QD} {qs : List QC} {cur : Array Value} {e' : TypeId} {f : Nat × Nat} (h : iA w B v ds qs) (x : w.grownBy w' (some R)) (hR : w.heap[R]? = some (.cells cur e' f)) (h1 : 99 ≠ e') (h2 : 96 ≠ e') : iA w' B v ds qs :=
 ⟨h.row.kept x (.inr (oE h.row hR h1)), h.len, fun k q hk hq => (h.each k q hk hq).kept x (.inr (oE (h.each k q hk hq).2.2.2 hR h2)), h.apart⟩
theorem iA.rd {w : World} {B : Nat} {v : Value} {ds : List QD} {qs : List QC} (h : iA w B v ds qs) : QAt w v ds := by
 have hl := h.len
 rcases h.row.2 with ⟨rfl, h0⟩ | ⟨g, cap, cur, rfl, hb, hg, hc, hm, _⟩
 ·exact ⟨none, 0, by rw [h0], by omega, by simp [maxLen], fun hn => by omega⟩
 ·refine ⟨_, cap, rfl, hc, hm, fun hn => ⟨g, rfl, (Array.getElem?_eq_some_iff.1 hg).1, fun k hk => ?_⟩⟩
  obtain ⟨q, hq⟩ : ∃ q, qs[k]? = some q := ⟨qs[k]'(by omega), by rw [zq]⟩
  obtain ⟨h1, h2, h3, h4⟩ := h.each k q hk hq
  obtain ⟨c1, c2, c3⟩ := tg qs k q hq
  have hat := fun j (hj : j < ds.length * 3) => h.row.cellAt j hj
  refine ⟨q.p, q.A, q.c, ?_, ?_, ?_, h1, ?_⟩
  ·rw [hat _ (by omega)]; exact c1
  ·rw [hat _ (by omega), ← h3]; exact c2
  ·rw [hat _ (by omega), ← h2]; exact c3
  ·rw [← h3]; exact RdK.of_own h4
theorem iA.snoc {w V w4 : World} {B : Nat} {v v' : Value} {ds : List QD} {qs : List QC} {q : QC} {d : QD} (h : iA w B v ds qs) (x : Ext w V) (hq : vY V B q d) (hnew : ∀ g, cb q = some g → ∀ (i : Nat) (qi : QC), qs[i]? = some qi → cb qi ≠ some g)
  (hown : w4.ownsRow B 99 3 v' (ds.length + 1) (fJ qs ++ Ku q)) (hg : V.grownBy w4 v.ownBlock) : iA w4 B v' (ds ++ [d]) (qs ++ [q]) := by
 have hx := h.ext x
 have hne : ∀ q' d', vY V B q' d' → cb q' = none ∨ cb q' ≠ v.ownBlock := fun q' d' h' => Xo h'.2.2.2 hx.row (by decide)
 refine ⟨by rw [List.length_append, List.length_singleton, Kv]; exact hown, by simp [h.len], fun k q' hk hq' => ?_, fun i j qi qj hij hi hj g hgi => ?_⟩
 ·rw [List.length_append, List.length_singleton] at hk
  by_cases hlt : k < ds.length
  ·rw [List.getElem?_append_left (by rw [h.len]; exact hlt)] at hq'
   rw [List.getElem_append_left hlt]
   exact (hx.each k q' hlt hq').kept hg (hne _ _ (hx.each k q' hlt hq'))
  ·obtain rfl : k = ds.length := by omega
   rw [List.getElem?_append_right (by rw [h.len]; exact Nat.le_refl _), h.len] at hq'
   simp at hq'
   subst hq'
   rw [List.getElem_append_right (Nat.le_refl _)]
   simp only [Nat.sub_self, List.getElem_cons_zero]
   exact hq.kept hg (hne _ _ hq)
 ·by_cases h1 : i < qs.length
  ·rw [List.getElem?_append_left h1] at hi
   by_cases h2 : j < qs.length
   ·rw [List.getElem?_append_left h2] at hj
    exact h.apart i j qi qj hij hi hj g hgi
   ·rw [List.getElem?_append_right (by omega)] at hj
    have h3 : j - qs.length = 0 := by
     have := (zg.1 hj).1
     simp at this; omega
    rw [h3] at hj
    simp at hj
    subst hj
    intro e
    exact hnew g e i qi hi hgi
  ·rw [List.getElem?_append_right (by omega)] at hi
   have h3 : i - qs.length = 0 := by
    have := (zg.1 hi).1
    simp at this; omega
   rw [h3] at hi
   simp at hi
   subst hi
   by_cases h2 : j < qs.length
   ·rw [List.getElem?_append_left h2] at hj
    exact hnew g hgi j qj hj
   ·exfalso
    have := (zg.1 hj).1
    simp at this
    omega
def Ix (ds : List QD) (m k : Nat) (a b : Int) : List QD := ds.modify m fun q => ⟨q.path, q.caps.set k (a, b), q.user⟩
theorem qk (ds : List QD) (m k : Nat) (a b : Int) : (Ix ds m k a b).length = ds.length := by simp [Ix]
theorem iA.put {w : World} {B : Nat} {v : Value} {ds : List QD} {qs : List QC} (h : iA w B v ds qs) {m k : Nat} (hm : m < ds.length) (hk : k < (ds[m]).caps.length) :
  ∃ gq cq g c, v = .slice (some ⟨gq, 0, none⟩) ds.length cq ∧ w.cell? ⟨gq, m * 3 + 1, none⟩ = some (.slice (some ⟨g, 0, none⟩) (ds[m]).caps.length c) ∧ B ≤ g ∧ g < w.heap.size ∧ (∃ cur, w.heap[g]? = some (.cells cur 96 (0, 0))) ∧
   (∀ j, w.frozen? ⟨g, j, none⟩ = false) ∧ w.cell? ⟨g, k * 2, none⟩ = some (.int .i64 ((ds[m]).caps[k]).1) ∧ w.cell? ⟨g, k * 2 + 1, none⟩ = some (.int .i64 ((ds[m]).caps[k]).2) ∧
   ∀ a b, iA ((w.setCell ⟨g, k * 2, none⟩ (.int .i64 a)).setCell ⟨g, k * 2 + 1, none⟩ (.int .i64 b)) B v (Ix ds m k a b) qs ∧ w.grownBy ((w.setCell ⟨g, k * 2, none⟩ (.int .i64 a)).setCell ⟨g, k * 2 + 1, none⟩ (.int .i64 b)) (some g) := by
 have hl := h.len
 obtain ⟨q, hq⟩ : ∃ q, qs[m]? = some q := ⟨qs[m]'(by omega), by rw [zq]⟩
 obtain ⟨h1, h2, h3, h4⟩ := h.each m q hm hq
 rcases h.row.2 with ⟨_, h0⟩ | ⟨gq, cq, cur, rfl, hb, hg, hc, hmx, _⟩
 ·omega
 rcases h4.2 with ⟨_, h0⟩ | ⟨g, c, cur', ev, hb', hg', hc', hm', _⟩
 ·omega
 injection ev with eA eN eC
 have h4' : w.ownsRow B 96 2 (.slice (some ⟨g, 0, none⟩) q.n q.c) q.n (cg ds[m].caps) := by rw [← eA]; exact h4
 have hcq : cb q = some g := by unfold cb; rw [eA]; rfl
 have hcell := h.row.cellAt (m * 3 + 1) (by omega)
 rw [(tg qs m q hq).2.1, h3, eA] at hcell
 obtain ⟨k1, k2⟩ := Jh ds[m].caps k hk
 have c1 := h4'.cellAt (k * 2) (by omega)
 have c2 := h4'.cellAt (k * 2 + 1) (by omega)
 rw [k1] at c1
 rw [k2] at c2
 refine ⟨gq, cq, g, q.c, rfl, hcell, hb', (Array.getElem?_eq_some_iff.1 hg').1, ⟨cur', hg'⟩, h4'.frozenAt, c1, c2, fun a b => ?_⟩
 have hgr : w.grownBy ((w.setCell ⟨g, k * 2, none⟩ (.int .i64 a)).setCell ⟨g, k * 2 + 1, none⟩ (.int .i64 b)) (some g) :=
  ⟨rfl, rfl, rfl, by simp [World.setCell], fun i _ hi => (Below.heap_setCell _ _ _ _ (fun e => hi (by rw [e]))).trans (Below.heap_setCell _ _ _ _ (fun e => hi (by rw [e])))⟩
 have st := (h4'.stored (k * 2) (.int .i64 a)).1.stored (k * 2 + 1) (.int .i64 b)
 rw [← xZ _ _ _ _ hk] at st
 refine ⟨⟨?_, by rw [qk]; exact hl, fun i q' hi hq' => ?_, h.apart⟩, hgr⟩
 ·rw [qk]
  exact h.row.kept hgr (.inr (oE h.row hg' (by decide)))
 ·rw [qk] at hi
  simp only [Ix, List.getElem_modify]
  by_cases him : m = i
  ·subst him
   rw [hq] at hq'
   injection hq' with hq'
   subst hq'
   rw [if_pos rfl]
   refine ⟨h1, h2, by simpa using h3, ?_⟩
   rw [eA]
   exact st.1
  ·rw [if_neg him]
   exact (h.each i q' hi hq').kept hgr (.inr fun e => h.apart m i q q' him hq hq' g hcq e)
def Ts : Tx := [114, 111, 111, 116]
def l9 : Nat → List Tx
 | 0 => [[114, 111, 111, 116]]
 | 1 => [[114, 111, 111, 116], [114, 111, 111, 116, 46, 97], [114, 111, 111, 116, 46, 98]]
 | 2 => [[114, 111, 111, 116], [114, 111, 111, 116, 46, 97], [114, 111, 111, 116, 46, 97, 46, 120], [114, 111, 111, 116, 46, 97, 46, 121], [114, 111, 111, 116, 46, 98]]
 | 3 => [[114, 111, 111, 116], [114, 111, 111, 116, 46, 97], [114, 111, 111, 116, 46, 98], [114, 111, 111, 116, 46, 98, 46, 120], [114, 111, 111, 116, 46, 98, 46, 120, 46, 112], [114, 111, 111, 116, 46, 98, 46, 120, 46, 113], [114, 111, 111, 116, 46, 99]]
 | _ => [[114, 111, 111, 116], [114, 111, 111, 116, 46, 97]]
def gpu : Tx := [103, 112, 117]
def BV (nl : Nat) : List Tx := ([[], gpu] : List Tx).take nl
theorem pW {nl : Nat} (h : nl ≤ 2) : (BV nl).length = nl := by simp [BV]; omega
theorem Kd (y : Nat) : (l9 y).length ≤ 7 := by
 unfold l9
 split <;> decide
theorem Kc (y : Nat) : ∀ p ∈ l9 y, p.length ≤ 11 := by
 unfold l9
 split <;> decide
theorem MR (y : Nat) : (l9 y).Nodup := by
 unfold l9
 split <;> decide
def Bf (p : Tx) (ps : List Tx) : List Tx := ps.filter fun x => decide (p ≠ []) && decide (above x = p)
theorem DI (p : Tx) (ds : List QD) : cD p ds = Bf p (ds.map (·.path)) := by
 unfold cD Bf
 rw [List.filter_map]
 rfl
def qx : Int × Int := (10000, 10000)
structure G1 (nl : Nat) (ps : List Tx) (k : Nat) (ds : List QD) : Prop where
 paths : ds.map (·.path) = ps.take k
 each : ∀ q ∈ ds, q.caps = List.replicate nl qx ∧ 1 ≤ q.user ∧ q.user ≤ 1000000
theorem G1.nil (nl : Nat) (ps : List Tx) : G1 nl ps 0 [] := ⟨rfl, by simp⟩
theorem G1.snoc {nl k : Nat} {ps : List Tx} {ds : List QD} (h : G1 nl ps k ds) (hk : k < ps.length) {u : Int} (h1 : 1 ≤ u) (h2 : u ≤ 1000000) : G1 nl ps (k + 1) (ds ++ [⟨ps[k], List.replicate nl qx, u⟩]) := by
 refine ⟨?_, fun q hq => ?_⟩
 ·rw [List.map_append, h.paths, List.take_succ_eq_append_getElem hk]; rfl
 ·rcases List.mem_append.1 hq with hq | hq
  ·exact h.each q hq
  ·simp at hq; subst hq; exact ⟨rfl, h1, h2⟩
def Yz (c : Int × Int) : Prop := 0 ≤ c.1 ∧ c.1 ≤ c.2 ∧ c.2 ≤ 10000
structure Gd (nl : Nat) (ps : List Tx) (ds : List QD) : Prop where
 paths : ds.map (·.path) = ps
 each : ∀ q ∈ ds, q.caps.length = nl ∧ 1 ≤ q.user ∧ q.user ≤ 1000000 ∧ ∀ c ∈ q.caps, Yz c
 root : ∀ q ∈ ds, q.path = Ts → q.caps = List.replicate nl qx
theorem Gd.len {nl : Nat} {ps : List Tx} {ds : List QD} (h : Gd nl ps ds) : ds.length = ps.length := by
 have := congrArg List.length h.paths
 simpa using this
def GF (k : Nat) (q : QD) : Int := (q.caps.getD k (0, 0)).1
def Nl (k : Nat) (l : List QD) : Int := (l.map (GF k)).sum
def mu (p : Tx) (ds : List QD) : List QD := ds.filter (kS p)
theorem tB (p : Tx) (ds : List QD) : (mu p ds).length = (cD p ds).length := by simp [mu, cD]
def WI (k : Nat) (p : Tx) (ds : List QD) : Prop := mu p ds ≠ [] → Nl k (mu p ds) = 10000
structure GI (nl : Nat) (ps : List Tx) (i : Nat) (ds : List QD) : Prop where
 gd : Gd nl ps ds
 done : ∀ i' (h : i' < ps.length), i' < i → ∀ k, k < nl → WI k ps[i'] ds
structure GK (nl : Nat) (ps : List Tx) (i k : Nat) (ds : List QD) : Prop where
 gi : GI nl ps i ds
 part : ∀ h : i < ps.length, ∀ k', k' < k → WI k' ps[i] ds
structure GJ (nl : Nat) (ps : List Tx) (i k j : Nat) (left : Int) (ds : List QD) : Prop where
 gk : GK nl ps i k ds
 lo : 0 ≤ left
 hi : left ≤ 10000
 sum : ∀ h : i < ps.length, Nl k ((mu ps[i] ds).take j) = 10000 - left
 last : ∀ h : i < ps.length, 0 < j → j = (mu ps[i] ds).length → left = 0
def pM (p : Tx) (k : Nat) (a b : Int) (q : QD) : QD := if q.path = p then ⟨q.path, q.caps.set k (a, b), q.user⟩ else q
def ip (p : Tx) (k : Nat) (a b : Int) (ds : List QD) : List QD := ds.map (pM p k a b)
def eJ (p : Tx) (k : Nat) (a b : Int) (ds : List QD) (m : Nat) : List QD := (ds.take m).map (pM p k a b) ++ ds.drop m
theorem C5 (p : Tx) (k : Nat) (a b : Int) (ds : List QD) : eJ p k a b ds 0 = ds := by simp [eJ]
theorem Gq (p : Tx) (k : Nat) (a b : Int) (ds : List QD) : eJ p k a b ds ds.length = ip p k a b ds := by simp [eJ, ip]
theorem gz (p : Tx) (k : Nat) (a b : Int) (ds : List QD) (m : Nat) : (eJ p k a b ds m).length = ds.length := by simp [eJ]; omega
theorem zI (p : Tx) (k : Nat) (a b : Int) (ds : List QD) (m : Nat) (hm : m < ds.length) (h : m < (eJ p k a b ds m).length) : (eJ p k a b ds m)[m] = ds[m] := by
 have h2 : (eJ p k a b ds m)[m]? = ds[m]? := by
  unfold eJ
  rw [List.getElem?_append_right (by simp; omega), List.getElem?_drop]
  congr 1
  simp
  omega
 rw [zq h, zq hm] at h2
 injection h2
theorem zM (p : Tx) (k : Nat) (a b : Int) (q : QD) : (pM p k a b q).path = q.path := by unfold pM; split <;> rfl
theorem Rg (p : Tx) (k : Nat) (a b : Int) (q : QD) : (pM p k a b q).caps.length = q.caps.length := by unfold pM; split <;> simp
theorem Gv (p : Tx) (k : Nat) (a b : Int) (q : QD) : (pM p k a b q).user = q.user := by unfold pM; split <;> rfl
theorem Iw {p : Tx} {k : Nat} {a b : Int} {q : QD} (h : q.path ≠ p) : pM p k a b q = q := by unfold pM; rw [if_neg h]
theorem Kl {p : Tx} {k : Nat} {a b : Int} {ds : List QD} {m : Nat} (hm : m < ds.length) (h : ds[m].path ≠ p) : eJ p k a b ds (m + 1) = eJ p k a b ds m := by
 unfold eJ
 rw [List.take_succ_eq_append_getElem hm, List.map_append, List.drop_eq_getElem_cons hm]
 simp [Iw h]
theorem Dw {α : Type} : ∀ (l : List α) (x : α) (r : List α) (f : α → α) (n : Nat), l.length = n → (l ++ x :: r).modify n f = l ++ f x :: r
 | [], x, r, f, _, h => by subst h; rfl
 | y :: l, x, r, f, n, h => by
  subst h
  simp only [List.cons_append, List.length_cons, List.modify_succ_cons]
  rw [Dw l x r f _ rfl]
theorem Gp {p : Tx} {k : Nat} {a b : Int} {ds : List QD} {m : Nat} (hm : m < ds.length) (h : ds[m].path = p) : eJ p k a b ds (m + 1) = (eJ p k a b ds m).modify m (fun q => ⟨q.path, q.caps.set k (a, b), q.user⟩) := by
 have hl : ((ds.take m).map (pM p k a b)).length = m := by simp; omega
 unfold eJ
 rw [List.take_succ_eq_append_getElem hm, List.map_append, List.append_assoc]
 conv => rhs; rw [List.drop_eq_getElem_cons hm]
 rw [Dw _ _ _ _ _ hl]
 simp [pM, h]
theorem G1.start {nl : Nat} {ps : List Tx} {ds : List QD} (h : G1 nl ps ps.length ds) : GI nl ps 0 ds := by
 refine ⟨⟨by rw [h.paths, List.take_length], fun q hq => ?_, fun q hq _ => (h.each q hq).1⟩, fun _ _ h => by omega⟩
 obtain ⟨h1, h2, h3⟩ := h.each q hq
 refine ⟨by rw [h1]; simp, h2, h3, fun c hc => ?_⟩
 rw [h1] at hc
 have := List.eq_of_mem_replicate hc
 subst this
 exact ⟨by decide, by decide, by decide⟩
theorem GI.toK {nl i : Nat} {ps : List Tx} {ds : List QD} (h : GI nl ps i ds) : GK nl ps i 0 ds := ⟨h, fun _ _ h => by omega⟩
theorem GK.toJ {nl i k : Nat} {ps : List Tx} {ds : List QD} (h : GK nl ps i k ds) : GJ nl ps i k 0 10000 ds := ⟨h, by omega, by omega, fun _ => by simp [Nl], fun _ h => by omega⟩
theorem GJ.end {nl i k j : Nat} {left : Int} {ps : List Tx} {ds : List QD} (h : GJ nl ps i k j left ds) (hj : ∀ h : i < ps.length, j = (cD ps[i] ds).length) : GK nl ps i (k + 1) ds := by
 refine ⟨h.gk.gi, fun hi k' hk' hne => ?_⟩
 rcases Nat.lt_or_ge k' k with h1 | h1
 ·exact h.gk.part hi k' h1 hne
 ·obtain rfl : k' = k := by omega
  have h2 := hj hi
  rw [← tB] at h2
  have h3 := h.sum hi
  have h4 := h.last hi (by
   have : (mu ps[i] ds).length ≠ 0 := fun e => hne (List.eq_nil_of_length_eq_zero e)
   omega) h2
  rw [h2, List.take_length] at h3
  omega
theorem GK.end {nl i : Nat} {ps : List Tx} {ds : List QD} (h : GK nl ps i nl ds) : GI nl ps (i + 1) ds := by
 refine ⟨h.gi.gd, fun i' hi' hlt k hk => ?_⟩
 rcases Nat.lt_or_ge i' i with h1 | h1
 ·exact h.gi.done i' hi' h1 k hk
 ·obtain rfl : i' = i := by omega
  exact h.part hi' k hk
theorem KG {α : Type} {l : List α} (h : l.Nodup) {i j : Nat} (hi : i < l.length) (hj : j < l.length) (e : l[i] = l[j]) : i = j := by
 rcases Nat.lt_trichotomy i j with h1 | h1 | h1
 ·exact absurd e (List.pairwise_iff_getElem.1 h i j hi hj h1)
 ·exact h1
 ·exact absurd e.symm (List.pairwise_iff_getElem.1 h j i hj hi h1)
theorem FD {p : Tx} {k k' : Nat} {a b : Int} {q : QD} (h : k' ≠ k) : GF k' (pM p k a b q) = GF k' q := by
 unfold pM GF
 split
 ·simp only [List.getD_eq_getElem?_getD]
  rw [List.getElem?_set_ne (by omega)]
 ·rfl
theorem De {p : Tx} {k : Nat} {a b : Int} {q : QD} (h : q.path = p) (hk : k < q.caps.length) : GF k (pM p k a b q) = a := by
 unfold pM GF
 rw [if_pos h]
 simp only [List.getD_eq_getElem?_getD]
 rw [List.getElem?_set_self (by simpa using hk)]
 rfl
theorem Nr (pp p : Tx) (k : Nat) (a b : Int) (q : QD) : kS pp (pM p k a b q) = kS pp q := by unfold kS; rw [zM]
theorem xO (pp p : Tx) (k : Nat) (a b : Int) (ds : List QD) : mu pp (ip p k a b ds) = (mu pp ds).map (pM p k a b) := by
 unfold mu ip
 rw [List.filter_map]
 congr 1
 apply List.filter_congr
 intro q _
 exact Nr pp p k a b q
theorem V0 {p : Tx} {k k' : Nat} {a b : Int} (l : List QD) (h : k' ≠ k) : Nl k' (l.map (pM p k a b)) = Nl k' l := by
 unfold Nl
 rw [List.map_map]
 congr 1
 apply List.map_congr_left
 intro q _
 exact FD h
theorem Bb {p : Tx} {k : Nat} {a b : Int} (l : List QD) (h : ∀ q ∈ l, q.path ≠ p) : l.map (pM p k a b) = l := by
 conv => rhs; rw [← List.map_id l]
 apply List.map_congr_left
 intro q hq
 exact Iw (h q hq)
theorem wB {pp : Tx} {ds : List QD} {q : QD} (h : q ∈ mu pp ds) : above q.path = pp ∧ pp ≠ [] := by
 unfold mu at h
 have := (List.mem_filter.1 h).2
 simp [kS] at this
 exact ⟨this.2, this.1⟩
theorem Gd.set {nl k : Nat} {p : Tx} {n mo : Int} {ps : List Tx} {ds : List QD} (h : Gd nl ps ds) (hp : p ≠ Ts) (h0 : 0 ≤ n) (h2 : n ≤ mo) (h3 : mo ≤ 10000) : Gd nl ps (ip p k n mo ds) := by
 refine ⟨?_, fun q hq => ?_, fun q hq hr => ?_⟩
 ·unfold ip
  rw [List.map_map, ← h.paths]
  apply List.map_congr_left
  intro q _
  exact zM _ _ _ _ _
 ·unfold ip at hq
  obtain ⟨q', hq', rfl⟩ := List.mem_map.1 hq
  obtain ⟨h4, h5, h6, h7⟩ := h.each q' hq'
  refine ⟨by rw [Rg]; exact h4, by rw [Gv]; exact h5, by rw [Gv]; exact h6, fun c hc => ?_⟩
  unfold pM at hc
  split at hc
  ·rcases List.mem_or_eq_of_mem_set hc with hc | hc
   ·exact h7 c hc
   ·subst hc; exact ⟨h0, h2, h3⟩
  ·exact h7 c hc
 ·unfold ip at hq
  obtain ⟨q', hq', rfl⟩ := List.mem_map.1 hq
  rw [zM] at hr
  rw [Iw (by rw [hr]; exact fun e => hp e.symm)]
  exact h.root q' hq' hr
theorem GJ.step {nl i k j : Nat} {left n mo : Int} {ps : List Tx} {ds : List QD} (h : GJ nl ps i k j left ds) (hps : ps.Nodup) (hi : i < ps.length) (hj : j < (cD ps[i] ds).length) (hk : k < nl) (h0 : 0 ≤ n) (h1 : n ≤ left) (hlast : j + 1 = (cD ps[i] ds).length → n = left) (h2 : n ≤ mo) (h3 : mo ≤ 10000) :
  GJ nl ps i k (j + 1) (left - n) (ip ((cD ps[i] ds)[j]) k n mo ds) := by
 have hgd := h.gk.gi.gd
 have hjl : j < (mu ps[i] ds).length := by rw [tB]; exact hj
 obtain ⟨p, hp⟩ : ∃ p, p = (cD ps[i] ds)[j] := ⟨_, rfl⟩
 have hpp : (mu ps[i] ds)[j].path = p := by rw [hp]; simp [cD, mu]
 have hmem : (mu ps[i] ds)[j] ∈ mu ps[i] ds := List.getElem_mem hjl
 have hab : above p = ps[i] := by rw [← hpp]; exact (wB hmem).1
 have hne0 : ps[i] ≠ [] := (wB hmem).2
 have hroot : p ≠ Ts := by
  intro e
  rw [e] at hab
  exact hne0 (hab.symm.trans (by decide))
 rw [← hp]
 have hnd : ((mu ps[i] ds).map (·.path)).Nodup := by
  unfold mu
  have h5 : (ds.map (·.path)).Nodup := by rw [hgd.paths]; exact hps
  exact List.Nodup.sublist (List.Sublist.map _ List.filter_sublist) h5
 have other : ∀ i' (hi' : i' < ps.length), i' ≠ i → mu ps[i'] (ip p k n mo ds) = mu ps[i'] ds := by
  intro i' hi' hne
  rw [xO, Bb]
  intro q hq e
  have := (wB hq).1
  rw [e, hab] at this
  exact hne (KG hps hi' hi this.symm)
 have hcap : k < ((mu ps[i] ds)[j]).caps.length := by
  have : (mu ps[i] ds)[j] ∈ ds := (List.mem_filter.1 hmem).1
  rw [(hgd.each _ this).1]; exact hk
 have before : ((mu ps[i] ds).take j).map (pM p k n mo) = (mu ps[i] ds).take j := by
  apply Bb
  intro q hq e
  obtain ⟨j', hj', e2⟩ := List.mem_iff_getElem.1 hq
  rw [List.length_take] at hj'
  rw [List.getElem_take] at e2
  have e3 : ((mu ps[i] ds).map (·.path))[j']'(by simp; omega) = ((mu ps[i] ds).map (·.path))[j]'(by simpa using hjl) := by
   simp only [List.getElem_map]
   rw [e2, e, hpp]
  have := KG hnd _ _ e3
  omega
 refine ⟨⟨⟨hgd.set hroot h0 h2 h3, fun i' hi' hlt k' hk' => ?_⟩, fun _ k' hk' => ?_⟩, by omega, by have := h.hi; omega, fun _ => ?_, fun _ _ hjj => ?_⟩
 ·unfold WI
  rw [other i' hi' (by omega)]
  exact h.gk.gi.done i' hi' hlt k' hk'
 ·unfold WI
  rw [xO, V0 _ (by omega)]
  intro hne
  exact h.gk.part hi k' hk' (fun e => hne (by rw [e]; rfl))
 ·rw [xO, ← List.map_take, List.take_succ_eq_append_getElem hjl, List.map_append, before]
  have hs := h.sum hi
  unfold Nl at hs ⊢
  rw [List.map_append, List.sum_append, hs]
  simp only [List.map_cons, List.map_nil, List.sum_cons, List.sum_nil]
  rw [De hpp hcap]
  omega
 ·rw [xO, List.length_map, tB] at hjj
  rw [hlast hjj]
  omega
def gc (v_l : (List ByteArray)) (v_s : aa) (af : Int) (st : (List ByteArray)) (v_i : Int) (x_ : ByteArray) : Option (((List ByteArray)) ⊕ (((List ByteArray) × Int))) :=
let aj := st
let v_k : Int := 0
(ah (iY aj v_s v_i v_l af) ab v_k).bind fun r13 =>
let v_k := r13
(hiO aj v_k).bind fun b14 => (aU ([] : (List ByteArray)) b14).bind fun b15 => let v_x : (List ByteArray) := b15
(aU v_x [x_]).bind fun b16 => let v_x : (List ByteArray) := b16
(loO aj v_k).bind fun b17 => (aU v_x b17).bind fun b18 => let aj : (List ByteArray) := b18
some (.inl aj)
theorem yZ (v_l : (List ByteArray)) (v_s : aa) (af : Int) (a_ : (List ByteArray)) (hl : v_l.length ≤ 1000000) : ah (lB v_l v_s af) ab (a_, (0)) = nh (gc v_l v_s af) (fun a_ => (a_, ((v_l.length : Int)))) a_ 0 v_l :=
 eU v_l (S := (List ByteArray) × Int) (fun a_ k_ => (a_, (k_))) (gc v_l v_s af) (fun a_ => (a_, ((v_l.length : Int)))) (am hl) (fun k a x hx => by
  unfold lB gc; exact bG)
  (fun a => by unfold lB; exact cK) a_
def gg (v_s : aa) (n5 : ByteArray) (st : (List aB)) (x_ : aB) : Option (((List aB)) ⊕ (((List aB) × Int))) :=
let aj := st
let v_a : aB := x_
(dA v_a).bind fun c12 => (if (!c12) = true then some true else some (!(v_a.bW.toList == n5.toList))).bind fun q13 => if q13 = true then
some (.inl aj)
else
let v_k : Int := 0
(ah (iZ aj v_a) ab v_k).bind fun r14 =>
let v_k := r14
(hiO aj v_k).bind fun b15 => (aU ([] : (List aB)) b15).bind fun b16 => let v_x : (List aB) := b16
(aU v_x [v_a]).bind fun b17 => let v_x : (List aB) := b17
(loO aj v_k).bind fun b18 => (aU v_x b18).bind fun b19 => let aj : (List aB) := b19
some (.inl aj)
theorem y7 (v_s : aa) (n5 : ByteArray) (a_ : (List aB)) (hl : v_s.ao.length ≤ 1000000) : ah (lD v_s n5) ab (a_, (0)) = bk (gg v_s n5) (fun a_ => (a_, ((v_s.ao.length : Int)))) a_ v_s.ao :=
 ay v_s.ao (S := (List aB) × Int) (fun a_ k_ => (a_, (k_))) (gg v_s n5) (fun a_ => (a_, ((v_s.ao.length : Int)))) (am hl) (fun k a x hx => by
  unfold lD gg; exact bG)
  (fun a => by unfold lD; exact cK) a_
def gf (aj : (List aB)) (st : (List Int)) (x_ : aB) : Option (((List Int)) ⊕ (((List Int) × Int))) :=
let v_l := st
(aU v_l [x_.fId]).bind fun b15 => let v_l : (List Int) := b15
some (.inl v_l)
theorem y6 (aj : (List aB)) (a_ : (List Int)) (hl : aj.length ≤ 1000000) : ah (lC aj) ab (a_, (0)) = bk (gf aj) (fun a_ => (a_, ((aj.length : Int)))) a_ aj :=
 ay aj (S := (List Int) × Int) (fun a_ k_ => (a_, (k_))) (gf aj) (fun a_ => (a_, ((aj.length : Int)))) (am hl) (fun k a x hx => by
  unfold lC gf; exact bG)
  (fun a => by unfold lC; exact cK) a_
def iw (iB : (List ByteArray)) (av : ByteArray) (st : Unit) (x_ : ByteArray) : Option ((Unit) ⊕ ((Int) ⊕ (Bool))) :=
if (x_.toList == av.toList) = true then
some (.inr (.inr true))
else
some (.inl ())
theorem w7 (iB : (List ByteArray)) (av : ByteArray) (a_ : Unit) (hl : iB.length ≤ 1000000) : ah (jT iB av) ab (0) = bk (iw iB av) (fun a_ => (.inl ((iB.length : Int)))) a_ iB :=
 ay iB (S := Int) (fun a_ k_ => (k_)) (iw iB av) (fun a_ => (.inl ((iB.length : Int)))) (am hl) (fun k a x hx => by
  unfold jT iw; exact bG)
  (fun a => by unfold jT; exact cK) a_
def gh (v_s : aa) (af : Int) (av : ByteArray) (xq : Bool) (l7 : Int) (st : aw) (x_ : al) : Option ((aw) ⊕ ((aw × Int))) :=
let v_v := st
(eF v_s x_.bE).bind fun c11 => let v_a : aB := c11.1
let bS : Bool := c11.2
(if bS = true then some (x_.bc == af) else some false).bind fun q12 => (if q12 = true then (mH v_a.bW av).bind fun c13 => some c13 else some false).bind fun q14 => (if q14 = true then (if xq = true then some true else some (v_a.dw == l7)).bind fun q15 => some q15 else some false).bind fun q16 => if q16 = true then
(de v_v x_.cT).bind fun c17 => let v_v : aw := c17
some (.inl v_v)
else
some (.inl v_v)
theorem y9 (v_s : aa) (af : Int) (av : ByteArray) (xq : Bool) (l7 : Int) (a_ : aw) (hl : v_s.ac.length ≤ 1000000) : ah (lG v_s af av xq l7) ab (a_, (0)) = bk (gh v_s af av xq l7) (fun a_ => (a_, ((v_s.ac.length : Int)))) a_ v_s.ac :=
 ay v_s.ac (S := aw × Int) (fun a_ k_ => (a_, (k_))) (gh v_s af av xq l7) (fun a_ => (a_, ((v_s.ac.length : Int)))) (am hl) (fun k a x hx => by
  unfold lG gh; exact bG)
  (fun a => by unfold lG; exact cK) a_
def dS (v_s : aa) (af : Int) (av : ByteArray) (st : aw) (x_ : aB) : Option ((aw) ⊕ ((aw × Int))) :=
let v_v := st
(dA x_).bind fun c9 => (if c9 = true then (mH x_.bW av).bind fun c10 => some c10 else some false).bind fun q11 => if q11 = true then
(ka x_.cf af).bind fun c12 => (de v_v c12).bind fun c13 => let v_v : aw := c13
some (.inl v_v)
else
some (.inl v_v)
theorem uj (v_s : aa) (af : Int) (av : ByteArray) (a_ : aw) (hl : v_s.ao.length ≤ 1000000) : ah (iy v_s af av) ab (a_, (0)) = bk (dS v_s af av) (fun a_ => (a_, ((v_s.ao.length : Int)))) a_ v_s.ao :=
 ay v_s.ao (S := aw × Int) (fun a_ k_ => (a_, (k_))) (dS v_s af av) (fun a_ => (a_, ((v_s.ao.length : Int)))) (am hl) (fun k a x hx => by
  unfold iy dS; exact bG)
  (fun a => by unfold iy; exact cK) a_
def gj (iB : (List ByteArray)) (v_s : aa) (af : Int) (rB : aw) (st : Unit) (x_ : ByteArray) : Option ((Unit) ⊕ ((Int) ⊕ (Bool))) :=
(ez v_s x_ af).bind fun c14 => (de c14 rB).bind fun c15 => let v_v : aw := c15
(uT v_s x_ af).bind fun c16 => (fy v_v c16).bind fun c17 => if (!c17) = true then
some (.inr (.inr false))
else
(if (x_.toList == (⟨#[114, 111, 111, 116]⟩ : ByteArray).toList) = true then (iQ v_s af).bind fun c18 => (sg v_s af).bind fun c19 => (uX c18 c19).bind fun c20 => (fy v_v c20).bind fun c21 => some (!c21) else some false).bind fun q22 => if q22 = true then
some (.inr (.inr false))
else
some (.inl ())
theorem zc (iB : (List ByteArray)) (v_s : aa) (af : Int) (rB : aw) (a_ : Unit) (hl : iB.length ≤ 1000000) : ah (lH iB v_s af rB) ab (0) = bk (gj iB v_s af rB) (fun a_ => (.inl ((iB.length : Int)))) a_ iB :=
 ay iB (S := Int) (fun a_ k_ => (k_)) (gj iB v_s af rB) (fun a_ => (.inl ((iB.length : Int)))) (am hl) (fun k a x hx => by
  unfold lH gj; exact bG)
  (fun a => by unfold lH; exact cK) a_
def iP (v_l : (List aO)) (v_a : aO) (st : (List aO) × Bool) (x_ : aO) : Option (((List aO) × Bool) ⊕ (((List aO) × Bool × Int))) :=
let aj := st.1
let cy := st.2
(if (!cy) = true then some (decide (x_.bI > v_a.bI)) else some false).bind fun q8 => (if q8 = true then
(aU aj [v_a]).bind fun b10 => let aj : (List aO) := b10
let cy : Bool := true
some (aj, cy)
else
some (aj, cy)).bind fun j9 => let aj := j9.1
let cy := j9.2
if (x_.bI != v_a.bI) = true then
(aU aj [x_]).bind fun b11 => let aj : (List aO) := b11
some (.inl (aj, cy))
else
some (.inl (aj, cy))
theorem B5 (v_l : (List aO)) (v_a : aO) (a_ : (List aO) × Bool) (hl : v_l.length ≤ 1000000) : ah (om v_l v_a) ab (a_.1, a_.2, (0)) = bk (iP v_l v_a) (fun a_ => (a_.1, a_.2, ((v_l.length : Int)))) a_ v_l :=
 ay v_l (S := (List aO) × Bool × Int) (fun a_ k_ => (a_.1, a_.2, (k_))) (iP v_l v_a) (fun a_ => (a_.1, a_.2, ((v_l.length : Int)))) (am hl) (fun k a x hx => by
  unfold om iP; exact bG)
  (fun a => by unfold om; exact cK) a_
def kY (v_l : (List aO)) (cM : Int) (st : Unit) (x_ : aO) : Option ((Unit) ⊕ ((Int) ⊕ (aO × Bool))) :=
if (x_.bI == cM) = true then
some (.inr (.inr (x_, true)))
else
some (.inl ())
theorem B6 (v_l : (List aO)) (cM : Int) (a_ : Unit) (hl : v_l.length ≤ 1000000) : ah (oq v_l cM) ab (0) = bk (kY v_l cM) (fun a_ => (.inl ((v_l.length : Int)))) a_ v_l :=
 ay v_l (S := Int) (fun a_ k_ => (k_)) (kY v_l cM) (fun a_ => (.inl ((v_l.length : Int)))) (am hl) (fun k a x hx => by
  unfold oq kY; exact bG)
  (fun a => by unfold oq; exact cK) a_
def gV (v_l : (List aO)) (cM : Int) (st : Bool × (List aO)) (x_ : aO) : Option ((Bool × (List aO)) ⊕ ((Bool × (List aO) × Int))) :=
let bS := st.1
let aj := st.2
let v_a : aO := x_
if (v_a.bI == cM) = true then
let bS : Bool := true
let t6 : Int := (i64.wrap (v_a.iL - 1))
let t7 : Int := 0
let v_a : aO := { v_a with iL := t6 }
let v_a : aO := { v_a with jJ := t7 }
if (decide (v_a.iL ≤ 0)) = true then
some (.inl (bS, aj))
else
(aU aj [v_a]).bind fun b8 => let aj : (List aO) := b8
some (.inl (bS, aj))
else
(aU aj [v_a]).bind fun b9 => let aj : (List aO) := b9
some (.inl (bS, aj))
theorem Aw (v_l : (List aO)) (cM : Int) (a_ : Bool × (List aO)) (hl : v_l.length ≤ 1000000) : ah (mO v_l cM) ab (a_.1, a_.2, (0)) = bk (gV v_l cM) (fun a_ => (a_.1, a_.2, ((v_l.length : Int)))) a_ v_l :=
 ay v_l (S := Bool × (List aO) × Int) (fun a_ k_ => (a_.1, a_.2, (k_))) (gV v_l cM) (fun a_ => (a_.1, a_.2, ((v_l.length : Int)))) (am hl) (fun k a x hx => by
  unfold mO gV; exact bG)
  (fun a => by unfold mO; exact cK) a_
def ei (v_l : (List aO)) (af : Int) (st : aw) (x_ : aO) : Option ((aw) ⊕ ((aw × Int))) :=
let v_v := st
if (x_.bc == af) = true then
(de v_v (⟨(i64.wrap (x_.cT.bA * x_.iL)), (i64.wrap (x_.cT.aZ * x_.iL))⟩ : aw)).bind fun c7 => let v_v : aw := c7
some (.inl v_v)
else
some (.inl v_v)
theorem vn (v_l : (List aO)) (af : Int) (a_ : aw) (hl : v_l.length ≤ 1000000) : ah (je v_l af) ab (a_, (0)) = bk (ei v_l af) (fun a_ => (a_, ((v_l.length : Int)))) a_ v_l :=
 ay v_l (S := aw × Int) (fun a_ k_ => (a_, (k_))) (ei v_l af) (fun a_ => (a_, ((v_l.length : Int)))) (am hl) (fun k a x hx => by
  unfold je ei; exact bG)
  (fun a => by unfold je; exact cK) a_
def NR (a b : aw) : aw := ⟨i64.wrap (a.bA + b.bA), i64.wrap (a.aZ + b.aZ)⟩
def Wd (a b : aw) : Bool := decide (a.bA ≤ b.bA) && decide (a.aZ ≤ b.aZ)
def inV (n : Int) : Bool := decide (n ≥ 0) && decide (n ≤ 1125899906842624)
def FG (a : aw) : Bool := inV a.bA && inV a.aZ
theorem ej (a b : aw) : de a b = some (NR a b) := rfl
theorem kg (a b : aw) : fy a b = some (Wd a b) := by unfold fy Wd; simp only [d6, zb]
theorem Ot (n : Int) : yu n = some (inV n) := by unfold yu inV; simp only [d6, zb]
theorem HJ (a : aw) : sn a = some (FG a) := by unfold sn FG; simp only [Ot, d6, zb]
def T1 (a b : aw) : aw := (uX a b).getD aw.zero
theorem EU (a b : aw) : uX a b = some (T1 a b) := rfl
def wm (n bp : Int) : Int := (tU n bp).getD 0
theorem LZ (n bp : Int) : tU n bp = some (wm n bp) := rfl
def XU (a b : Int) : Int × Int := (yr a b).getD (0, 0)
theorem On (a b : Int) : yr a b = some (XU a b) := rfl
def NU (a : aw) (bp : Int) : aw × Int :=
 if (!FG a || decide (bp < 0) || decide (bp > 1000000)) = true then (aw.zero, 1)
 else if FG ⟨wm a.bA bp, wm a.aZ bp⟩ = true then (⟨wm a.bA bp, wm a.aZ bp⟩, 0) else (aw.zero, 11)
theorem BA (a : aw) (bp : Int) : tV a bp = some (NU a bp) := by
 unfold tV NU
 simp only [HJ, orB, zb, LZ]
 generalize (!FG a || decide (bp < 0) || decide (bp > 1000000)) = b1
 generalize FG ⟨wm a.bA bp, wm a.aZ bp⟩ = b2
 cases b1 <;> cases b2 <;> rfl
theorem rF {α : Type} (c : Bool) (a b : α) : (if c = true then some a else some b) = some (if c = true then a else b) := by cases c <;> rfl
def IA (x y : a7) : Int := (po x y).getD 0
theorem Bz (x y : a7) : po x y = some (IA x y) := by
 unfold IA
 have : ∃ r, po x y = some r := by
  unfold po
  simp only [orB, d6, zb, On, rF]
  exact ⟨_, rfl⟩
 obtain ⟨r, hr⟩ := this
 rw [hr]
 rfl
def P8 (a p : aw) : a7 := if decide (IA ⟨a.bA, p.bA⟩ ⟨a.aZ, p.aZ⟩ < 0) = true then ⟨a.aZ, p.aZ⟩ else ⟨a.bA, p.bA⟩
theorem Ov (a p : aw) : yw a p = some (P8 a p) := by
 unfold yw P8
 simp only [Bz, zb, rF]
def U8 (a p b q : aw) : Int := if (!FG a || !FG p || !FG b || !FG q) = true then 0 else IA (P8 a p) (P8 b q)
theorem L1 (a p b q : aw) : yx a p b q = some (U8 a p b q) := by
 unfold yx U8
 simp only [HJ, orB, zb, Ov, Bz]
 simp only [rF]
theorem NV (n : Int) : ye n = some (decide (n ≥ 1) && decide (n ≤ 1073741824)) := by
 unfold ye
 simp only [d6, zb]
def Yp (a : aO) (n : Int) : Int := (pb a n).getD 0
theorem LK (a : aO) (n : Int) : pb a n = some (Yp a n) := by
 have : ∃ r, pb a n = some r := by
  unfold pb
  simp only [NV, orB, d6, zb]
  simp only [rF]
  exact ⟨_, rfl⟩
 obtain ⟨r, hr⟩ := this
 unfold Yp
 rw [hr]; rfl
theorem R3 (l : List aO) (a : aO) (hl : l.length ≤ 100000) : ∃ r, EG l a = some r ∧ r.1.length ≤ 8 := by
 unfold EG
 dsimp only
 rw [B5 l { a with jJ := 0 } ([], a.iL == 0) (by omega)]
 obtain ⟨r, h1, h2⟩ := aR (g := iP l { a with jJ := 0 }) (fin := fun b => (b.1, b.2, (l.length : Int))) (fun k b => b.1.length ≤ 2 * k) (fun r => r.1.length ≤ 2 * l.length) l 0 ([], a.iL == 0) (fun j b x hx hb => by
  have hj := (zg.1 hx).1
  unfold iP
  simp only [d6, zb]
  cases (!b.2 && decide (x.bI > a.bI)) with
  | true =>
   simp only [if_true]
   rw [aD (by simp; omega)]
   simp only [zb]
   cases (x.bI != a.bI) with
   | true =>
    simp only [if_true]
    rw [aD (by simp; omega)]
    exact ⟨_, rfl, fun a' e => by injection e with e; subst e; simp; omega, fun r e => by cases e⟩
   | false =>
    exact ⟨_, rfl, fun a' e => by injection e with e; subst e; simp; omega, fun r e => by cases e⟩
  | false =>
   simp only [zf, if_false, zb]
   cases (x.bI != a.bI) with
   | true =>
    simp only [if_true]
    rw [aD (by simp; omega)]
    exact ⟨_, rfl, fun a' e => by injection e with e; subst e; simp; omega, fun r e => by cases e⟩
   | false =>
    exact ⟨_, rfl, fun a' e => by injection e with e; subst e; show b.1.length ≤ _; omega, fun r e => by cases e⟩) (fun b hb => by simpa using hb) (by simp)
 rw [h1]
 simp only [zb]
 have fin : ∀ o : List aO, ∃ r, (if decide ((o.length : Int) > 8) = true then some (([] : List aO), (4 : Int)) else some (o, 0)) = some r ∧ r.1.length ≤ 8 := by
  intro o
  by_cases h : (o.length : Int) > 8
  ·simp only [h, decide_true, if_true]; exact ⟨_, rfl, by simp⟩
  ·simp only [h, decide_false, zf, if_false]; exact ⟨_, rfl, by show o.length ≤ 8; omega⟩
 cases (!r.2.1) with
 | true =>
  simp only [if_true]
  rw [aD (by simp; omega)]
  exact fin _
 | false => exact fin _
def Ue (l : List aO) (p : Int) : aO := (l.find? fun x => x.bI == p).getD aO.zero
def isA (l : List aO) (p : Int) : Bool := l.any fun x => x.bI == p
theorem R6 (l : List aO) (p : Int) (hl : l.length ≤ 1000000) : Jq l p = some (Ue l p, isA l p) := by
 unfold Jq
 dsimp only
 rw [B6 l p () hl]
 have h2 := rI (fun x : aO => x.bI == p) (fun x => (Sum.inr (x, true) : Int ⊕ aO × Bool)) (.inl (l.length : Int)) l
 rw [show kY l p = fun (_ : Unit) x => if (x.bI == p) = true then some (.inr (.inr (x, true))) else some (.inl ()) from rfl, h2]
 unfold Ue isA
 cases hf : l.find? fun x => x.bI == p with
 | none =>
  have : (l.any fun x => x.bI == p) = false := by
   rw [List.any_eq_false]; intro x hx; have := List.find?_eq_none.1 hf x hx; simpa using this
  rw [this]; rfl
 | some q =>
  have : (l.any fun x => x.bI == p) = true := by
   rw [List.any_eq_true]; exact ⟨q, List.mem_of_find?_eq_some hf, by simpa using List.find?_some hf⟩
  rw [this]; rfl
theorem NW (l : List aO) (p : Int) (hl : l.length ≤ 1000000) : ∃ r, CI l p = some r ∧ r.1.length ≤ l.length := by
 unfold CI
 dsimp only
 rw [Aw l p (false, []) hl]
 obtain ⟨r, h1, h2⟩ := aR (g := gV l p) (fin := fun b => (b.1, b.2, (l.length : Int))) (fun k b => b.2.length ≤ k) (fun r => r.2.1.length ≤ l.length) l 0 (false, []) (fun j b x hx hb => by
  have hj := (zg.1 hx).1
  unfold gV
  dsimp only
  split
  ·split
   ·exact ⟨_, rfl, fun a' e => by injection e with e; subst e; show b.2.length ≤ _; omega, fun r e => by cases e⟩
   ·rw [aD (by simp; omega)]
    exact ⟨_, rfl, fun a' e => by injection e with e; subst e; simp; omega, fun r e => by cases e⟩
  ·rw [aD (by simp; omega)]
   exact ⟨_, rfl, fun a' e => by injection e with e; subst e; simp; omega, fun r e => by cases e⟩) (fun b hb => by simpa using hb) (by simp)
 rw [h1]
 exact ⟨_, rfl, h2⟩
theorem NX (l : List aO) (p : Int) (hl : l.length ≤ 1000000) : ∃ r, CJ l p = some r ∧ r.length = l.length := by
 unfold CJ
 rw [aD (by simpa using hl)]
 simp only [zb, List.nil_append]
 have h := aH (f := qn p) (fun st => st.1.length = l.length ∧ 0 ≤ st.2 ∧ st.2 ≤ (l.length : Int)) (fun st => ((l.length : Int) - st.2).toNat) (fun st => st.1.length = l.length) (fun st ⟨h1, h2, h3⟩ => by
  unfold qn
  dsimp only
  by_cases hi : st.2 < (st.1.length : Int)
  ·obtain ⟨x, hx, _⟩ := KV h2 hi
   have hw : i64.wrap (st.2 + 1) = st.2 + 1 := Gg (by omega) (by omega)
   simp only [hi, decide_true, if_true, hx, zb, hw]
   split
   ·exact .inl ⟨_, rfl, ⟨by simpa using h1, by show 0 ≤ st.2 + 1; omega, by show st.2 + 1 ≤ _; omega⟩, by show ((l.length : Int) - (st.2 + 1)).toNat < ((l.length : Int) - st.2).toNat; omega⟩
   ·exact .inl ⟨_, rfl, ⟨h1, by show 0 ≤ st.2 + 1; omega, by show st.2 + 1 ≤ _; omega⟩, by show ((l.length : Int) - (st.2 + 1)).toNat < ((l.length : Int) - st.2).toNat; omega⟩
  ·simp only [hi, decide_false, zf, if_false]
   exact .inr ⟨_, rfl, h1⟩) ab (l, 0) ⟨rfl, Int.le_refl _, Int.natCast_nonneg _⟩ (by show ((l.length : Int) - 0).toNat < ab; unfold ab; omega)
 obtain ⟨r, h1, h2⟩ := h
 rw [h1]
 exact ⟨_, rfl, h2⟩
def WP (l : List aO) (k : Int) : aw := (ka l k).getD aw.zero
theorem FR (l : List aO) (k : Int) (hl : l.length ≤ 1000000) : ka l k = some (WP l k) := by
 have : ∃ r, ka l k = some r := by
  unfold ka
  dsimp only
  rw [vn l k ⟨0, 0⟩ hl]
  obtain ⟨r, h1, _⟩ := aR (g := ei l k) (fin := fun a => (a, (l.length : Int))) (fun _ _ => True) (fun _ => True) l 0 ⟨0, 0⟩ (fun j a x hx _ => by
   unfold ei
   simp only [ej, zb, rF]
   exact ⟨_, rfl, fun _ _ => trivial, fun _ _ => trivial⟩) (fun _ _ => trivial) trivial
  rw [h1]
  exact ⟨_, rfl⟩
 obtain ⟨r, hr⟩ := this
 unfold WP
 rw [hr]; rfl
def jv (v_s : aa) (bD : Int) (st : Unit) (x_ : aB) : Option ((Unit) ⊕ ((Int) ⊕ (aB × Bool))) :=
if (x_.fId == bD) = true then
some (.inr (.inr (x_, true)))
else
some (.inl ())
theorem zk (v_s : aa) (bD : Int) (a_ : Unit) (hl : v_s.ao.length ≤ 1000000) : ah (lL v_s bD) ab (0) = bk (jv v_s bD) (fun a_ => (.inl ((v_s.ao.length : Int)))) a_ v_s.ao :=
 ay v_s.ao (S := Int) (fun a_ k_ => (k_)) (jv v_s bD) (fun a_ => (.inl ((v_s.ao.length : Int)))) (am hl) (fun k a x hx => by
  unfold lL jv; exact bG)
  (fun a => by unfold lL; exact cK) a_
def eB (v_s : aa) (st : Bool × (List aB)) (x_ : aB) : Option ((Bool × (List aB)) ⊕ ((Bool × (List aB) × Int))) :=
let cy := st.1
let v_l := st.2
(if (!cy) = true then (dA x_).bind fun c6 => some (!c6) else some false).bind fun q7 => if q7 = true then
let cy : Bool := true
some (.inl (cy, v_l))
else
(aU v_l [x_]).bind fun b8 => let v_l : (List aB) := b8
some (.inl (cy, v_l))
theorem vz (v_s : aa) (a_ : Bool × (List aB)) (hl : v_s.ao.length ≤ 1000000) : ah (jr v_s) ab (a_.1, a_.2, (0)) = bk (eB v_s) (fun a_ => (a_.1, a_.2, ((v_s.ao.length : Int)))) a_ v_s.ao :=
 ay v_s.ao (S := Bool × (List aB) × Int) (fun a_ k_ => (a_.1, a_.2, (k_))) (eB v_s) (fun a_ => (a_.1, a_.2, ((v_s.ao.length : Int)))) (am hl) (fun k a x hx => by
  unfold jr eB; exact bG)
  (fun a => by unfold jr; exact cK) a_
def eD (v_s : aa) (st : Int) (x_ : aB) : Option ((Int) ⊕ ((Int × Int))) :=
let kG := st
(dA x_).bind fun c13 => if c13 = true then
let kG : Int := (i64.wrap (kG + 1))
some (.inl kG)
else
some (.inl kG)
theorem vA (v_s : aa) (a_ : Int) (hl : v_s.ao.length ≤ 1000000) : ah (jt v_s) ab (a_, (0)) = bk (eD v_s) (fun a_ => (a_, ((v_s.ao.length : Int)))) a_ v_s.ao :=
 ay v_s.ao (S := Int × Int) (fun a_ k_ => (a_, (k_))) (eD v_s) (fun a_ => (a_, ((v_s.ao.length : Int)))) (am hl) (fun k a x hx => by
  unfold jt eD; exact bG)
  (fun a => by unfold jt; exact cK) a_
def gp (v_s : aa) (bD : Int) (st : (List Int) × (List al)) (x_ : al) : Option (((List Int) × (List al)) ⊕ (((List Int) × (List al) × Int))) :=
let jy := st.1
let v_l := st.2
if (x_.bE == bD) = true then
(aU jy [x_.fId]).bind fun b6 => let jy : (List Int) := b6
some (.inl (jy, v_l))
else
(aU v_l [x_]).bind fun b7 => let v_l : (List al) := b7
some (.inl (jy, v_l))
theorem zh (v_s : aa) (bD : Int) (a_ : (List Int) × (List al)) (hl : v_s.ac.length ≤ 1000000) : ah (lJ v_s bD) ab (a_.1, a_.2, (0)) = bk (gp v_s bD) (fun a_ => (a_.1, a_.2, ((v_s.ac.length : Int)))) a_ v_s.ac :=
 ay v_s.ac (S := (List Int) × (List al) × Int) (fun a_ k_ => (a_.1, a_.2, (k_))) (gp v_s bD) (fun a_ => (a_.1, a_.2, ((v_s.ac.length : Int)))) (am hl) (fun k a x hx => by
  unfold lJ gp; exact bG)
  (fun a => by unfold lJ; exact cK) a_
def gm (v_s : aa) (bD : Int) (st : (List bu)) (x_ : bu) : Option (((List bu)) ⊕ (((List bu) × Int))) :=
let iq := st
if (x_.bE != bD) = true then
(aU iq [x_]).bind fun b10 => let iq : (List bu) := b10
some (.inl iq)
else
some (.inl iq)
theorem ze (v_s : aa) (bD : Int) (a_ : (List bu)) (hl : v_s.aY.length ≤ 1000000) : ah (lI v_s bD) ab (a_, (0)) = bk (gm v_s bD) (fun a_ => (a_, ((v_s.aY.length : Int)))) a_ v_s.aY :=
 ay v_s.aY (S := (List bu) × Int) (fun a_ k_ => (a_, (k_))) (gm v_s bD) (fun a_ => (a_, ((v_s.aY.length : Int)))) (am hl) (fun k a x hx => by
  unfold lI gm; exact bG)
  (fun a => by unfold lI; exact cK) a_
def jw (v_s : aa) (bD : Int) (st : Unit) (x_ : al) : Option ((Unit) ⊕ ((Int) ⊕ (al × Bool))) :=
if (x_.fId == bD) = true then
some (.inr (.inr (x_, true)))
else
some (.inl ())
theorem zl (v_s : aa) (bD : Int) (a_ : Unit) (hl : v_s.ac.length ≤ 1000000) : ah (lM v_s bD) ab (0) = bk (jw v_s bD) (fun a_ => (.inl ((v_s.ac.length : Int)))) a_ v_s.ac :=
 ay v_s.ac (S := Int) (fun a_ k_ => (k_)) (jw v_s bD) (fun a_ => (.inl ((v_s.ac.length : Int)))) (am hl) (fun k a x hx => by
  unfold lM jw; exact bG)
  (fun a => by unfold lM; exact cK) a_
def gu (v_s : aa) (bD : Int) (st : (List al)) (x_ : al) : Option (((List al)) ⊕ (((List al) × Int))) :=
let v_l := st
if (x_.fId != bD) = true then
(aU v_l [x_]).bind fun b4 => let v_l : (List al) := b4
some (.inl v_l)
else
some (.inl v_l)
theorem zn (v_s : aa) (bD : Int) (a_ : (List al)) (hl : v_s.ac.length ≤ 1000000) : ah (lN v_s bD) ab (a_, (0)) = bk (gu v_s bD) (fun a_ => (a_, ((v_s.ac.length : Int)))) a_ v_s.ac :=
 ay v_s.ac (S := (List al) × Int) (fun a_ k_ => (a_, (k_))) (gu v_s bD) (fun a_ => (a_, ((v_s.ac.length : Int)))) (am hl) (fun k a x hx => by
  unfold lN gu; exact bG)
  (fun a => by unfold lN; exact cK) a_
def dU (v_l : (List Int)) (v_n : Int) (st : (List Int)) (x_ : Int) : Option (((List Int)) ⊕ (((List Int) × Int))) :=
let aj := st
if (x_ != v_n) = true then
(aU aj [x_]).bind fun b4 => let aj : (List Int) := b4
some (.inl aj)
else
some (.inl aj)
theorem um (v_l : (List Int)) (v_n : Int) (a_ : (List Int)) (hl : v_l.length ≤ 1000000) : ah (iz v_l v_n) ab (a_, (0)) = bk (dU v_l v_n) (fun a_ => (a_, ((v_l.length : Int)))) a_ v_l :=
 ay v_l (S := (List Int) × Int) (fun a_ k_ => (a_, (k_))) (dU v_l v_n) (fun a_ => (a_, ((v_l.length : Int)))) (am hl) (fun k a x hx => by
  unfold iz dU; exact bG)
  (fun a => by unfold iz; exact cK) a_
def gr (co : (List Int)) (st : aa) (x_ : Int) : Option ((aa) ⊕ ((aa × Int))) :=
let v_s := st
(eG v_s x_).bind fun c21 => let v_c : al := c21.1
let bS : Bool := c21.2
if (!bS) = true then
some (.inl v_s)
else
(eF v_s v_c.bE).bind fun c22 => let v_a : aB := c22.1
if v_c.bU = true then
(oL v_a).bind fun c23 => let t24 : Int := 1
let t25 : (List aO) := c23
let v_a : aB := { v_a with ed := t24 }
let v_a : aB := { v_a with cf := t25 }
let t26 : (List Int) := []
let t27 : (List Int) := []
let t28 : (List Int) := []
let t29 : (List Int) := []
let v_a : aB := { v_a with cA := t26 }
let v_a : aB := { v_a with iK := t27 }
let v_a : aB := { v_a with sI := t28 }
let v_a : aB := { v_a with tG := t29 }
let t30 : Int := 0
let t31 : Int := v_s.bR
let v_a : aB := { v_a with cJ := t30 }
let v_a : aB := { v_a with bO := t31 }
(eH v_s v_a).bind fun c32 => (ru c32 v_c.bE).bind fun c33 => let v_s : aa := c33.1
some (.inl v_s)
else
(pC v_s v_c.fId).bind fun c34 => let v_s : aa := c34
let s9 : Bool := false
(i6 v_a.cA v_c.fId).bind fun c35 => let v_a : aB := { v_a with cA := c35.1 }
let s9 : Bool := c35.2
(if (!s9) = true then
(aU ([] : (List Int)) v_a.iK).bind fun b37 => (aU b37 [v_c.fId]).bind fun b38 => let v_a : aB := { v_a with iK := b38 }
some v_a
else
some v_a).bind fun j36 => let v_a := j36
(eH v_s v_a).bind fun c39 => let v_s : aa := c39
some (.inl v_s)
theorem zj (co : (List Int)) (a_ : aa) (hl : co.length ≤ 1000000) : ah (lK co) ab (a_, (0)) = bk (gr co) (fun a_ => (a_, ((co.length : Int)))) a_ co :=
 ay co (S := aa × Int) (fun a_ k_ => (a_, (k_))) (gr co) (fun a_ => (a_, ((co.length : Int)))) (am hl) (fun k a x hx => by
  unfold lK gr; exact bG)
  (fun a => by unfold lK; exact cK) a_
def eE (v_s : aa) (st : (List Int)) (x_ : aB) : Option (((List Int)) ⊕ (((List Int) × Int))) :=
let v_l := st
(if (x_.ed == 2) = true then some (decide ((i64.wrap (v_s.bR - x_.bO)) ≥ 15)) else some false).bind fun q6 => if q6 = true then
(aU v_l [x_.fId]).bind fun b7 => let v_l : (List Int) := b7
some (.inl v_l)
else
some (.inl v_l)
theorem vB (v_s : aa) (a_ : (List Int)) (hl : v_s.ao.length ≤ 1000000) : ah (ju v_s) ab (a_, (0)) = bk (eE v_s) (fun a_ => (a_, ((v_s.ao.length : Int)))) a_ v_s.ao :=
 ay v_s.ao (S := (List Int) × Int) (fun a_ k_ => (a_, (k_))) (eE v_s) (fun a_ => (a_, ((v_s.ao.length : Int)))) (am hl) (fun k a x hx => by
  unfold ju eE; exact bG)
  (fun a => by unfold ju; exact cK) a_
def dJ (v_c : az) (av : ByteArray) (st : Unit) (x_ : aC) : Option ((Unit) ⊕ ((Int) ⊕ (aC × Bool))) :=
if (x_.aI.toList == av.toList) = true then
let v_q : aC := x_
(aU ([] : (List dV)) v_q.bz).bind fun b4 => let v_q : aC := { v_q with bz := b4 }
some (.inr (.inr (v_q, true)))
else
some (.inl ())
theorem rh (v_c : az) (av : ByteArray) (a_ : Unit) (hl : v_c.ae.length ≤ 1000000) : ah (mX v_c av) ab (0) = bk (dJ v_c av) (fun a_ => (.inl ((v_c.ae.length : Int)))) a_ v_c.ae :=
 ay v_c.ae (S := Int) (fun a_ k_ => (k_)) (dJ v_c av) (fun a_ => (.inl ((v_c.ae.length : Int)))) (am hl) (fun k a x hx => by
  unfold mX dJ; exact bG)
  (fun a => by unfold mX; exact cK) a_
def cF (v_c : az) (av : ByteArray) (st : (List ByteArray)) (x_ : aC) : Option (((List ByteArray)) ⊕ (((List ByteArray) × Int))) :=
let v_l := st
(if (!(av.toList == (⟨#[]⟩ : ByteArray).toList)) = true then (dQ x_.aI).bind fun c6 => some (c6.toList == av.toList) else some false).bind fun q7 => if q7 = true then
(aU v_l [x_.aI]).bind fun b8 => let v_l : (List ByteArray) := b8
some (.inl v_l)
else
some (.inl v_l)
theorem jf (v_c : az) (av : ByteArray) (a_ : (List ByteArray)) (hl : v_c.ae.length ≤ 1000000) : ah (mW v_c av) ab (a_, (0)) = bk (cF v_c av) (fun a_ => (a_, ((v_c.ae.length : Int)))) a_ v_c.ae :=
 ay v_c.ae (S := (List ByteArray) × Int) (fun a_ k_ => (a_, (k_))) (cF v_c av) (fun a_ => (a_, ((v_c.ae.length : Int)))) (am hl) (fun k a x hx => by
  unfold mW cF; exact bG)
  (fun a => by unfold mW; exact cK) a_
def gY (bC : (List ByteArray)) (v_c : az) (v_k : Int) (st : Int) (x_ : ByteArray) : Option ((Int) ⊕ ((Int × Int))) :=
let v_n := st
(jg v_c x_).bind fun c7 => let v_q : aC := c7.1
(ax v_q.bz v_k).bind fun b8 => let v_n : Int := (i64.wrap (v_n + b8.jz))
some (.inl v_n)
theorem AC (bC : (List ByteArray)) (v_c : az) (v_k : Int) (a_ : Int) (hl : bC.length ≤ 1000000) : ah (jF bC v_c v_k) ab (a_, (0)) = bk (gY bC v_c v_k) (fun a_ => (a_, ((bC.length : Int)))) a_ bC :=
 ay bC (S := Int × Int) (fun a_ k_ => (a_, (k_))) (gY bC v_c v_k) (fun a_ => (a_, ((bC.length : Int)))) (am hl) (fun k a x hx => by
  unfold jF gY; exact bG)
  (fun a => by unfold jF; exact cK) a_
def gZ (v_c : az) (st : Unit) (x_ : aC) : Option ((Unit) ⊕ ((Int) ⊕ (Bool))) :=
(eW v_c x_.aI).bind fun c10 => let bC : (List ByteArray) := c10
let v_k : Int := 0
(ah (mS v_c bC) ab v_k).bind fun r11 => match r11 with
| .inr m12 => some (.inr (.inr m12))
| .inl m12 =>
let v_k := m12
some (.inl ())
theorem AD (v_c : az) (a_ : Unit) (hl : v_c.ae.length ≤ 1000000) : ah (mU v_c) ab (0) = bk (gZ v_c) (fun a_ => (.inl ((v_c.ae.length : Int)))) a_ v_c.ae :=
 ay v_c.ae (S := Int) (fun a_ k_ => (k_)) (gZ v_c) (fun a_ => (.inl ((v_c.ae.length : Int)))) (am hl) (fun k a x hx => by
  unfold mU gZ; exact bG)
  (fun a => by unfold mU; exact cK) a_
theorem oS {s : ByteArray} {k : Int} (h0 : 0 ≤ k) (h1 : k.toNat < s.size) : ∃ b, kM s k = some b := by
 unfold kM
 rw [if_pos h0]
 have : k.toNat < s.data.toList.length := by simpa using h1
 rw [zq this]
 exact ⟨_, rfl⟩
theorem ny (p : ByteArray) (hp : p.size ≤ 1000000) : ∃ r, dQ p = some r ∧ (r.size < p.size ∨ r.size = 0) := by
 unfold dQ
 have hw : ∀ k : Int, -1 ≤ k → k ≤ 1000000000 → i64.wrap (k - 1) = k - 1 := fun k h1 h2 => Gg (by omega) (by omega)
 have h := aH (f := iR p) (fun k => -1 ≤ k ∧ k < (p.size : Int)) (fun k => (k + 1).toNat) (fun k => -1 ≤ k ∧ k < (p.size : Int)) (fun k ⟨h1, h2⟩ => by
  unfold iR
  by_cases hk : k ≥ 0
  ·obtain ⟨b, hb⟩ := oS (s := p) hk (by omega)
   simp only [hk, decide_true, if_true, hb, zb]
   cases (b != 46) with
   | true =>
    simp only [if_true, hw k h1 (by omega)]
    exact .inl ⟨_, rfl, by omega, by omega⟩
   | false => exact .inr ⟨_, rfl, h1, h2⟩
  ·simp only [hk, decide_false, zf, if_false, zb]
   exact .inr ⟨_, rfl, h1, h2⟩) ab (i64.wrap ((p.size : Int) - 1)) (by rw [hw _ (by omega) (by omega)]; omega) (by show (i64.wrap ((p.size : Int) - 1) + 1).toNat < ab; rw [hw _ (by omega) (by omega)]; unfold ab; omega)
 obtain ⟨k, h1, h2, h3⟩ := h
 dsimp only
 rw [h1]
 simp only [zb]
 by_cases hk : k < 0
 ·simp only [hk, decide_true, if_true]
  exact ⟨_, rfl, .inr rfl⟩
 ·simp only [hk, decide_false, zf, if_false]
  unfold M5
  rw [if_pos ⟨by omega, by omega⟩]
  refine ⟨_, rfl, .inl ?_⟩
  simp only [ByteArray.size_extract]
  omega
theorem pU {p : ByteArray} (h : (!(p.toList == (⟨#[]⟩ : ByteArray).toList)) = true) : 0 < p.size := by
 rcases Nat.eq_zero_or_pos p.size with h0 | h0
 ·exfalso
  have : p = ⟨#[]⟩ := by
   cases p with
   | mk d => have : d = #[] := by apply Array.eq_empty_of_size_eq_zero; exact h0
             rw [this]
  rw [this] at h
  simp at h
 ·exact h0
theorem EN (p : ByteArray) (hp : p.size ≤ 1000000) : ∃ r, yk p = some r ∧ r.length ≤ p.size ∧ ∀ q ∈ r, q.size ≤ p.size := by
 unfold yk
 have h := aH (f := nz) (fun st => st.1.length + st.2.size ≤ p.size ∧ ∀ q ∈ st.1, q.size ≤ p.size) (fun st => st.2.size) (fun st => st.1.length ≤ p.size ∧ ∀ q ∈ st.1, q.size ≤ p.size) (fun st ⟨h1, h2⟩ => by
  unfold nz
  dsimp only
  split
  ·rename_i hne
   have h0 := pU hne
   rw [aD (by simp; omega)]
   obtain ⟨r, hr, hs⟩ := ny st.2 (by omega)
   simp only [zb, hr]
   refine .inl ⟨_, rfl, ⟨by simp; omega, fun q hq => ?_⟩, by show r.size < st.2.size; omega⟩
   simp only [List.mem_append, List.mem_singleton] at hq
   rcases hq with hq | rfl
   ·exact h2 q hq
   ·omega
  ·exact .inr ⟨_, rfl, by show st.1.length ≤ p.size; omega, h2⟩) ab ([], p) ⟨by simp, by simp⟩ (by show p.size < ab; unfold ab; omega)
 obtain ⟨r, h1, h2, h3⟩ := h
 dsimp only
 rw [h1]
 exact ⟨_, rfl, h2, h3⟩
structure SzC (c : az) : Prop where
 labels : c.ak.length ≤ 1000
 queues : c.ae.length ≤ 1000
 caps : ∀ q ∈ c.ae, q.bz.length ≤ 1000
 paths : ∀ q ∈ c.ae, q.aI.size ≤ 1000000
def DU (c : az) (p : ByteArray) : aC := (c.ae.find? fun q => q.aI.toList == p.toList).getD aC.zero
def isQ (c : az) (p : ByteArray) : Bool := c.ae.any fun q => q.aI.toList == p.toList
theorem mC (c : az) (p : ByteArray) (h : SzC c) : jg c p = some (DU c p, isQ c p) := by
 unfold jg DU isQ
 have hs := rh c p () (by have := h.queues; omega)
 dsimp only
 rw [hs]
 have key : ∀ l : List aC, (∀ q ∈ l, q.bz.length ≤ 1000) → bk (dJ c p) (fun _ => (Sum.inl (c.ae.length : Int) : Int ⊕ (aC × Bool))) () l = some (match l.find? fun q => q.aI.toList == p.toList with | some q => .inr (q, true) | none => .inl (c.ae.length : Int)) := by
  intro l
  induction l with
  | nil => intro _; rfl
  | cons q l ih =>
   intro hc
   simp only [bk, List.find?_cons]
   unfold dJ
   cases hq : (q.aI.toList == p.toList) with
   | true =>
    have := hc q (by simp)
    simp only [if_true]
    rw [aD (by simp; omega)]
    rfl
   | false =>
    simp only [zf, if_false]
    exact ih fun q hq => hc q (by simp [hq])
 rw [key _ h.caps]
 cases hf : c.ae.find? fun q => q.aI.toList == p.toList with
 | none =>
  have : (c.ae.any fun q => q.aI.toList == p.toList) = false := by
   rw [List.any_eq_false]; intro x hx; have := List.find?_eq_none.1 hf x hx; simpa using this
  rw [this]; rfl
 | some q =>
  have : (c.ae.any fun q => q.aI.toList == p.toList) = true := by
   rw [List.any_eq_true]; exact ⟨q, List.mem_of_find?_eq_some hf, by simpa using List.find?_some hf⟩
  rw [this]; rfl
theorem si (c : az) (p : ByteArray) (h : SzC c) : ∃ r, eW c p = some r ∧ r.length ≤ c.ae.length ∧ ∀ x ∈ r, ∃ q ∈ c.ae, q.aI = x := by
 unfold eW
 have hs := jf c p [] (by have := h.queues; omega)
 dsimp only
 rw [hs]
 obtain ⟨r, h1, h2⟩ := aR (g := cF c p) (fin := fun a => (a, (c.ae.length : Int))) (fun k a => a.length ≤ k ∧ ∀ x ∈ a, ∃ q ∈ c.ae, q.aI = x) (fun r => r.1.length ≤ c.ae.length ∧ ∀ x ∈ r.1, ∃ q ∈ c.ae, q.aI = x) c.ae 0 [] (fun j a x hx ⟨h1, h2⟩ => by
  have hm := List.mem_of_getElem? hx
  have hj := (zg.1 hx).1
  obtain ⟨r, hr, _⟩ := ny x.aI (h.paths x hm)
  have hqs := h.queues
  unfold cF
  simp only [hr, zb, d6]
  split
  ·rw [aD (by simp; omega)]
   refine ⟨_, rfl, fun a' e => ?_, fun r e => by cases e⟩
   injection e with e
   subst e
   refine ⟨by simp; omega, fun y hy => ?_⟩
   simp only [List.mem_append, List.mem_singleton] at hy
   rcases hy with hy | rfl
   ·exact h2 y hy
   ·exact ⟨x, hm, rfl⟩
  ·refine ⟨_, rfl, fun a' e => ?_, fun r e => by cases e⟩
   injection e with e
   subst e
   exact ⟨by omega, h2⟩) (fun a ⟨h1, h2⟩ => ⟨by simpa using h1, h2⟩) ⟨by simp, by simp⟩
 rw [h1]
 exact ⟨_, rfl, h2⟩
def Bc (c : az) (p : ByteArray) : Bool := (jL c p).getD false
theorem wS (c : az) (p : ByteArray) (h : SzC c) : jL c p = some (Bc c p) := by
 have : ∃ r, jL c p = some r := by
  unfold jL
  obtain ⟨r, hr, _⟩ := si c p h
  simp only [mC c p h, zb, hr, d6]
  exact ⟨_, rfl⟩
 obtain ⟨r, hr⟩ := this
 unfold Bc
 rw [hr]
 rfl
def id' {α : Type} (x : α) : α := x
theorem xK {α : Type} (l : List α) : l.map id' = l := List.map_id l
def TY (a : aB) : Bool := a.ed == 1 || a.ed == 2
theorem fg (a : aB) : dA a = some (TY a) := by unfold dA TY; simp only [orB, zb]
theorem MC (n : Int) : ul n = some (decide (n ≥ 1) && decide (n ≤ 1073741824)) := by unfold ul; simp only [d6, zb]
theorem zi (a : aB) : oL a = some [⟨0, 0, a.bU, 1, -1, -1, 0⟩] := rfl
theorem GZ {α β : Type} (p : α → Bool) (l : List α) (z : α) (d : β) : (match (match l.find? p with | some q => (Sum.inr (q, true) : β ⊕ (α × Bool)) | none => .inl d) with | .inr m => some m | .inl _ => some (z, false)) = some ((l.find? p).getD z, l.any p) := by
 cases hf : l.find? p with
 | none =>
  have : l.any p = false := by
   rw [List.any_eq_false]; intro x hx; have := List.find?_eq_none.1 hf x hx; simpa using this
  rw [this]; rfl
 | some q =>
  have : l.any p = true := by rw [List.any_eq_true]; exact ⟨q, List.mem_of_find?_eq_some hf, List.find?_some hf⟩
  rw [this]; rfl
def cm (s : aa) (id : Int) : aB := (s.ao.find? fun c => c.fId == id).getD aB.zero
def T7 (s : aa) (id : Int) : Bool := s.ao.any fun c => c.fId == id
theorem kl {α τ : Type} (p : α → Bool) (q : α → τ) (d : τ) (l : List α) : bk (fun (_ : Unit) x => if p x = true then some (.inr (q x)) else some (.inl ())) (fun _ => d) () l = some (match l.find? p with | some x => q x | none => d) := by
 rw [rI]
 cases l.find? p <;> rfl
theorem d7 (s : aa) (id : Int) (hl : s.ao.length ≤ 1000000) : eF s id = some (cm s id, T7 s id) := by
 unfold eF cm T7
 dsimp only
 rw [zk s id () hl, show jv s id = fun (_ : Unit) x => if (x.fId == id) = true then some (.inr (.inr (x, true))) else some (.inl ()) from rfl,
  kl (fun x : aB => x.fId == id) (fun x => (Sum.inr (x, true) : Int ⊕ aB × Bool)) (.inl (s.ao.length : Int)) s.ao]
 simp only [zb]
 have h2 := GZ (fun x : aB => x.fId == id) s.ao aB.zero (s.ao.length : Int)
 revert h2
 cases s.ao.find? fun x => x.fId == id <;> exact fun h => h
def lZ (s : aa) (id : Int) : al := (s.ac.find? fun c => c.fId == id).getD al.zero
def KU (s : aa) (id : Int) : Bool := s.ac.any fun c => c.fId == id
theorem kw (s : aa) (id : Int) (hl : s.ac.length ≤ 1000000) : eG s id = some (lZ s id, KU s id) := by
 unfold eG lZ KU
 dsimp only
 rw [zl s id () hl, show jw s id = fun (_ : Unit) x => if (x.fId == id) = true then some (.inr (.inr (x, true))) else some (.inl ()) from rfl,
  kl (fun x : al => x.fId == id) (fun x => (Sum.inr (x, true) : Int ⊕ al × Bool)) (.inl (s.ac.length : Int)) s.ac]
 simp only [zb]
 have h2 := GZ (fun x : al => x.fId == id) s.ac al.zero (s.ac.length : Int)
 revert h2
 cases s.ac.find? fun x => x.fId == id <;> exact fun h => h
theorem kj (s : aa) (n : aB) (hl : s.ao.length + 1 ≤ 1000000) : eH s n = some { s with ao := dZ aB.fId s.ao n } := by
 unfold eH
 have hl' : s.ao.length ≤ 1000000 := by omega
 have h := DC s.ao (fun x => decide (x.fId < n.fId)) (f := na s n) (am hl')
  (fun k x hx => by
   have hk := (zg.1 hx).1
   unfold na
   simp only [ct hx, if_true, aK hx, zb, bj hk hl'])
  (by unfold na; simp only [ce]; rfl)
 unfold dZ
 have hK := rD (fun x : aB => decide (x.fId < n.fId)) s.ao
 generalize (s.ao.takeWhile fun x => decide (x.fId < n.fId)).length = K at h hK ⊢
 dsimp only
 rw [h]
 simp only [zb]
 rw [oX hK]
 simp only [zb]
 rw [aD (by simp; omega)]
 simp only [zb]
 rw [aD (by simp; omega)]
 simp only [zb]
 by_cases hlt : K < s.ao.length
 ·have hx : s.ao[K]? = some s.ao[K] := zq hlt
  simp only [ct hx, if_true, aK hx, zb, hx]
  cases he : (s.ao[K].fId == n.fId) with
  | true =>
   simp only [if_true, zb, bj hlt hl']
   rw [kQ hlt]
   simp only [zb]
   rw [aD (by simp; omega)]
   simp
  | false =>
   simp only [zf, if_false, zb]
   rw [kQ hK]
   simp only [zb]
   rw [aD (by simp; omega)]
   simp
 ·have : K = s.ao.length := by omega
  subst this
  simp only [ce, zf, if_false, zb]
  rw [kQ (Nat.le_refl _)]
  simp only [zb]
  rw [aD (by simp; omega)]
  simp
theorem BM (s : aa) (id : Int) (hl : s.ac.length ≤ 1000000) : pC s id = some { s with ac := s.ac.filter fun c => c.fId != id } := by
 unfold pC
 dsimp only
 have e : gu s id = fun acc x => if (x.fId != id) = true then (aU acc [id' x]).map (fun a => (.inl a : List al ⊕ (List al × Int))) else some (.inl acc) := by
  funext acc x
  unfold gu
  dsimp only [id']
  split
  ·cases aU acc [x] <;> rfl
  ·rfl
 rw [zn s id [] hl, e, cw (fun c : al => c.fId != id) id' _ s.ac [] (by simpa using hl)]
 simp only [zb, List.nil_append, xK]
theorem un (l : List Int) (n : Int) (hl : l.length ≤ 1000000) : i6 l n = some (l.filter (fun c => c != n), decide (((l.filter (fun c => c != n)).length : Int) < (l.length : Int))) := by
 unfold i6
 dsimp only
 have e : dU l n = fun acc x => if (x != n) = true then (aU acc [id' x]).map (fun a => (.inl a : List Int ⊕ (List Int × Int))) else some (.inl acc) := by
  funext acc x
  unfold dU
  dsimp only [id']
  split
  ·cases aU acc [x] <;> rfl
  ·rfl
 rw [um l n [] hl, e, cw (fun c : Int => c != n) id' _ l [] (by simpa using hl)]
 simp only [zb, List.nil_append, xK]
theorem F6 (s : aa) (hl : s.ao.length ≤ 1000000) : sw s = some ((s.ao.filter fun b => b.ed == 2 && decide (i64.wrap (s.bR - b.bO) ≥ 15)).map aB.fId) := by
 unfold sw
 dsimp only
 have e : eE s = fun acc x => if (x.ed == 2 && decide (i64.wrap (s.bR - x.bO) ≥ 15)) = true then (aU acc [x.fId]).map (fun a => (.inl a : List Int ⊕ (List Int × Int))) else some (.inl acc) := by
  funext acc x
  unfold eE
  simp only [d6, zb]
  split
  ·cases aU acc [x.fId] <;> rfl
  ·rfl
 rw [vB s [] hl, e, cw (fun x : aB => x.ed == 2 && decide (i64.wrap (s.bR - x.bO) ≥ 15)) aB.fId _ s.ao [] (by simpa using hl)]
 simp
theorem BK (s : aa) (id : Int) (hl : s.ac.length ≤ 1000000) (hs : s.aY.length ≤ 1000000) : ru s id = some ({ s with ac := s.ac.filter fun c => !(c.bE == id), aY := s.aY.filter fun c => c.bE != id }, (s.ac.filter fun c => c.bE == id).map al.fId) := by
 unfold ru
 dsimp only
 have e2 : gm s id = fun acc x => if (x.bE != id) = true then (aU acc [id' x]).map (fun a => (.inl a : List bu ⊕ (List bu × Int))) else some (.inl acc) := by
  funext acc x
  unfold gm
  dsimp only [id']
  split
  ·cases aU acc [x] <;> rfl
  ·rfl
 have k1 : ∀ (l : List al) (a : List Int × List al), a.1.length + a.2.length + l.length ≤ 1000000 → bk (gp s id) (fun b => (b.1, b.2, (s.ac.length : Int))) a l = some (a.1 ++ (l.filter fun c => c.bE == id).map al.fId, a.2 ++ (l.filter fun c => !(c.bE == id)), (s.ac.length : Int)) := by
  intro l
  induction l with
  | nil => intro a _; simp [bk]
  | cons x l ih =>
   intro a h
   simp only [List.length_cons] at h
   have step : gp s id a x = if (x.bE == id) = true then (aU a.1 [x.fId]).bind fun b => some (.inl (b, a.2)) else (aU a.2 [x]).bind fun b => some (.inl (a.1, b)) := rfl
   simp only [bk, List.filter_cons, step]
   cases (x.bE == id) with
   | true =>
    simp only [if_true]
    rw [aD (by simp; omega)]
    simp only [zb]
    rw [ih _ (by simp; omega)]
    simp
   | false =>
    simp only [zf, if_false]
    rw [aD (by simp; omega)]
    simp only [zb]
    rw [ih _ (by simp; omega)]
    simp
 rw [zh s id ([], []) hl, k1 _ _ (by simpa using hl)]
 simp only [zb]
 rw [ze s id [] hs, e2, cw (fun c : bu => c.bE != id) id' _ s.aY [] (by simpa using hs)]
 simp only [zb, List.nil_append, xK]
def fS (v_s : aa) (af : Int) (st : aw) (x_ : aM) : Option ((aw) ⊕ ((aw × Int))) :=
let v_v := st
(if x_.fUp = true then some (x_.bc == af) else some false).bind fun q6 => if q6 = true then
(de v_v x_.jc).bind fun c7 => let v_v : aw := c7
some (.inl v_v)
else
some (.inl v_v)
theorem yj (v_s : aa) (af : Int) (a_ : aw) (hl : v_s.aq.length ≤ 1000000) : ah (k8 v_s af) ab (a_, (0)) = bk (fS v_s af) (fun a_ => (a_, ((v_s.aq.length : Int)))) a_ v_s.aq :=
 ay v_s.aq (S := aw × Int) (fun a_ k_ => (a_, (k_))) (fS v_s af) (fun a_ => (a_, ((v_s.aq.length : Int)))) (am hl) (fun k a x hx => by
  unfold k8 fS; exact bG)
  (fun a => by unfold k8; exact cK) a_
def gX (v_s : aa) (af : Int) (st : aw) (x_ : a6) : Option ((aw) ⊕ ((aw × Int))) :=
let v_v := st
let v_p : a6 := x_
(if (v_p.bc == af) = true then some (decide (v_p.o6 ≤ v_s.bR)) else some false).bind fun q5 => (if q5 = true then some (decide (v_s.bR < v_p.kV)) else some false).bind fun q6 => if q6 = true then
(de v_v v_p.kt).bind fun c7 => let v_v : aw := c7
some (.inl v_v)
else
some (.inl v_v)
theorem AB (v_s : aa) (af : Int) (a_ : aw) (hl : v_s.bw.length ≤ 1000000) : ah (mR v_s af) ab (a_, (0)) = bk (gX v_s af) (fun a_ => (a_, ((v_s.bw.length : Int)))) a_ v_s.bw :=
 ay v_s.bw (S := aw × Int) (fun a_ k_ => (a_, (k_))) (gX v_s af) (fun a_ => (a_, ((v_s.bw.length : Int)))) (am hl) (fun k a x hx => by
  unfold mR gX; exact bG)
  (fun a => by unfold mR; exact cK) a_
def tQ (s : aa) (k : Int) : aw := (iQ s k).getD aw.zero
theorem nw (s : aa) (k : Int) (hl : s.aq.length ≤ 1000000) : iQ s k = some (tQ s k) := by
 have : ∃ r, iQ s k = some r := by
  unfold iQ
  dsimp only
  rw [yj s k ⟨0, 0⟩ hl]
  obtain ⟨r, h1, _⟩ := aR (g := fS s k) (fin := fun a => (a, (s.aq.length : Int))) (fun _ _ => True) (fun _ => True) s.aq 0 ⟨0, 0⟩ (fun j a x hx _ => by
   unfold fS
   simp only [ej, d6, zb, rF]
   exact ⟨_, rfl, fun _ _ => trivial, fun _ _ => trivial⟩) (fun _ _ => trivial) trivial
  rw [h1]
  exact ⟨_, rfl⟩
 obtain ⟨r, hr⟩ := this
 unfold tQ
 rw [hr]; rfl
def Vd (s : aa) (k : Int) : aw := (sg s k).getD aw.zero
theorem N6 (s : aa) (k : Int) (hl : s.bw.length ≤ 1000000) : sg s k = some (Vd s k) := by
 have : ∃ r, sg s k = some r := by
  unfold sg
  dsimp only
  rw [AB s k ⟨0, 0⟩ hl]
  obtain ⟨r, h1, _⟩ := aR (g := gX s k) (fin := fun a => (a, (s.bw.length : Int))) (fun _ _ => True) (fun _ => True) s.bw 0 ⟨0, 0⟩ (fun j a x hx _ => by
   unfold gX
   simp only [ej, d6, zb, rF]
   exact ⟨_, rfl, fun _ _ => trivial, fun _ _ => trivial⟩) (fun _ _ => trivial) trivial
  rw [h1]
  exact ⟨_, rfl⟩
 obtain ⟨r, hr⟩ := this
 unfold Vd
 rw [hr]; rfl
def eM (p : ByteArray) : ByteArray := (dQ p).getD ⟨#[]⟩
def dx : Nat → ByteArray → Nat
 | 0, _ => 0
 | n + 1, p => if p.size = 0 then 0 else dx n (eM p) + 1
structure Deep (c : az) : Prop where
 few : c.ae.length ≤ 16
 deep : ∀ q ∈ c.ae, dx 6 q.aI ≤ 4
structure zy (c : az) : Prop where
 sz : SzC c
 each : ∀ q ∈ c.ae, q.bz.length = c.ak.length
 up : ∀ q ∈ c.ae, ∀ r, yk q.aI = some r → ∀ x ∈ r, isQ c x = true
 deep : Deep c
 lab1 : 1 ≤ c.ak.length
 leaf : ∃ q ∈ c.ae, Bc c q.aI = true
 lsz : ∀ x ∈ c.ak, x.size ≤ 1000000
theorem xR {c : az} {p : ByteArray} (h : isQ c p = true) : DU c p ∈ c.ae ∧ ((DU c p).aI.toList == p.toList) = true := by
 unfold isQ at h
 unfold DU
 cases hf : c.ae.find? fun q => q.aI.toList == p.toList with
 | none =>
  rw [List.any_eq_true] at h
  obtain ⟨q, hq, h2⟩ := h
  have := List.find?_eq_none.1 hf q hq
  exact absurd h2 (by simpa using this)
 | some q => exact ⟨List.mem_of_find?_eq_some hf, by simpa using List.find?_some hf⟩
theorem qW {a b : ByteArray} (h : (a.toList == b.toList) = true) : a = b := by
 have h : a.toList = b.toList := by simpa using h
 rw [ByteArray.toList_eq, ByteArray.toList_eq] at h
 cases a; cases b
 simp only at h
 congr 1
 exact Array.ext' h
theorem IM {α : Type} {l : List α} {i : Int} (h0 : 0 ≤ i) (h1 : i < (l.length : Int)) : ∃ x, ax l i = some x ∧ x ∈ l := by
 unfold ax
 rw [if_pos h0]
 have : i.toNat < l.length := by omega
 exact ⟨l[i.toNat], zq this, List.getElem_mem this⟩
theorem EK (s : aa) (p : ByteArray) (k : Int) (b : Bool) (hf : zy s.bN) (hn : s.aq.length ≤ 1000000) : ∃ r, sf s p k b = some r := by
 unfold sf
 simp only [mC _ _ hf.sz, zb, orB, nw s k hn]
 cases hc : (!isQ s.bN p || decide (k < 0) || decide (k ≥ (s.bN.ak.length : Int))) with
 | true => exact ⟨_, rfl⟩
 | false =>
  simp only [Bool.or_eq_false_iff, Bool.not_eq_false', decide_eq_false_iff_not] at hc
  obtain ⟨⟨hq, hk0⟩, hk1⟩ := hc
  obtain ⟨hm, hp⟩ := xR hq
  have hpe := qW hp
  have hps : p.size ≤ 1000000 := by rw [← hpe]; exact hf.sz.paths _ hm
  obtain ⟨up, hup, hul, _⟩ := EN p hps
  have hall := hf.up _ hm up (by rw [hpe]; exact hup)
  simp only [zf, if_false, hup, zb]
  have hw : ∀ i : Int, -1 ≤ i → i ≤ 1000000 → i64.wrap (i - 1) = i - 1 := fun i h1 h2 => Gg (by omega) (by omega)
  have hw2 : i64.wrap ((up.length : Int) - 2) = (up.length : Int) - 2 := Gg (by omega) (by omega)
  have h := aH (f := qo s up k b) (fun st => -2 ≤ st.2 ∧ st.2 < (up.length : Int)) (fun st => (st.2 + 1).toNat) (fun _ => True) (fun st ⟨h1, h2⟩ => by
   unfold qo
   dsimp only
   by_cases hi : st.2 ≥ 0
   ·obtain ⟨x, hx, hxm⟩ := IM (l := up) hi h2
    have hxq := hall x hxm
    have hcap := hf.each _ (xR hxq).1
    obtain ⟨c, hc, _⟩ := IM (l := (DU s.bN x).bz) (i := k) (by omega) (by rw [hcap]; omega)
    simp only [hi, decide_true, if_true, hx, zb, mC _ _ hf.sz, hc, BA, rF, hw st.2 (by omega) (by omega)]
    exact .inl ⟨_, rfl, ⟨by show -2 ≤ st.2 - 1; omega, by show st.2 - 1 < _; omega⟩, by show (st.2 - 1 + 1).toNat < (st.2 + 1).toNat; omega⟩
   ·simp only [hi, decide_false, zf, if_false]
    exact .inr ⟨_, rfl, trivial⟩) ab (tQ s k, i64.wrap ((up.length : Int) - 2)) ⟨by show -2 ≤ i64.wrap ((up.length : Int) - 2); rw [hw2]; omega, by show i64.wrap ((up.length : Int) - 2) < _; rw [hw2]; omega⟩ (by show (i64.wrap ((up.length : Int) - 2) + 1).toNat < ab; rw [hw2]; unfold ab; omega)
  obtain ⟨r, h1, _⟩ := h
  rw [h1]
  exact ⟨_, rfl⟩
def AU (s : aa) (p : ByteArray) (k : Int) : aw := (sf s p k true).getD aw.zero
def U9 (s : aa) (p : ByteArray) (k : Int) : aw := (sf s p k false).getD aw.zero
theorem nx (s : aa) (p : ByteArray) (k : Int) (hf : zy s.bN) (hn : s.aq.length ≤ 1000000) : k9 s p k = some (AU s p k) := by
 obtain ⟨r, hr⟩ := EK s p k true hf hn
 unfold k9 AU
 rw [hr]; rfl
theorem EL (s : aa) (p : ByteArray) (k : Int) (hf : zy s.bN) (hn : s.aq.length ≤ 1000000) : uT s p k = some (U9 s p k) := by
 obtain ⟨r, hr⟩ := EK s p k false hf hn
 unfold uT U9
 rw [hr]; rfl
def W5 (s : aa) (p : ByteArray) (k : Int) : aw := if isQ s.bN p = true then (NU (AU s p k) (DU s.bN p).dw).1 else aw.zero
theorem N4 (s : aa) (p : ByteArray) (k : Int) (hf : zy s.bN) (hn : s.aq.length ≤ 1000000) : CL s p k = some (W5 s p k) := by
 unfold CL W5
 simp only [mC _ _ hf.sz, zb, nx s p k hf hn, BA]
 cases isQ s.bN p <;> rfl
def gW (v_s : aa) (bD : Int) (st : aw) (x_ : al) : Option ((aw) ⊕ ((aw × Int))) :=
let v_v := st
if (x_.bK == bD) = true then
(de v_v x_.cT).bind fun c4 => let v_v : aw := c4
some (.inl v_v)
else
some (.inl v_v)
theorem Az (v_s : aa) (bD : Int) (a_ : aw) (hl : v_s.ac.length ≤ 1000000) : ah (mP v_s bD) ab (a_, (0)) = bk (gW v_s bD) (fun a_ => (a_, ((v_s.ac.length : Int)))) a_ v_s.ac :=
 ay v_s.ac (S := aw × Int) (fun a_ k_ => (a_, (k_))) (gW v_s bD) (fun a_ => (a_, ((v_s.ac.length : Int)))) (am hl) (fun k a x hx => by
  unfold mP gW; exact bG)
  (fun a => by unfold mP; exact cK) a_
theorem N1 (s : aa) (id : Int) (hl : s.aq.length ≤ 1000000) : kZ s id = some (((s.aq.find? fun c => c.fId == id).map fun c => (c, true)).getD (aM.zero, false)) := by
 unfold kZ
 have h := ay (S := Int) s.aq (fun (_ : Unit) k => k) (f := mQ s id) (fun _ x => if (x.fId == id) = true then some (.inr (.inr (x, true))) else some (.inl ())) (fun _ => .inl (s.aq.length : Int)) (am hl)
  (fun k a x hx => by
   have hk := (zg.1 hx).1
   unfold mQ
   simp only [ct hx, if_true, aK hx, zb]
   split
   ·rfl
   ·simp only [bj hk hl, Option.map_some])
  (fun a => by unfold mQ; simp only [ce]; rfl) ()
 dsimp only
 have h2 := rI (fun x : aM => x.fId == id) (fun x => (Sum.inr (x, true) : Int ⊕ aM × Bool)) (.inl (s.aq.length : Int)) s.aq
 rw [h, h2]
 cases List.find? (fun c => c.fId == id) s.aq <;> rfl
theorem Ax (s : aa) (n : aM) (hl : s.aq.length + 1 ≤ 1000000) : Ay s n = some { s with aq := dZ aM.fId s.aq n } := by
 unfold Ay
 have hl' : s.aq.length ≤ 1000000 := by omega
 have h := DC s.aq (fun x => decide (x.fId < n.fId)) (f := ot s n) (am hl')
  (fun k x hx => by
   have hk := (zg.1 hx).1
   unfold ot
   simp only [ct hx, if_true, aK hx, zb, bj hk hl'])
  (by unfold ot; simp only [ce]; rfl)
 unfold dZ
 have hK := rD (fun x : aM => decide (x.fId < n.fId)) s.aq
 generalize (s.aq.takeWhile fun x => decide (x.fId < n.fId)).length = K at h hK ⊢
 dsimp only
 rw [h]
 simp only [zb]
 rw [oX hK]
 simp only [zb]
 rw [aD (by simp; omega)]
 simp only [zb]
 rw [aD (by simp; omega)]
 simp only [zb]
 by_cases hlt : K < s.aq.length
 ·have hx : s.aq[K]? = some s.aq[K] := zq hlt
  simp only [ct hx, if_true, aK hx, zb, hx]
  cases he : (s.aq[K].fId == n.fId) with
  | true =>
   simp only [if_true, zb, bj hlt hl']
   rw [kQ hlt]
   simp only [zb]
   rw [aD (by simp; omega)]
   simp
  | false =>
   simp only [zf, if_false, zb]
   rw [kQ hK]
   simp only [zb]
   rw [aD (by simp; omega)]
   simp
 ·have : K = s.aq.length := by omega
  subst this
  simp only [ce, zf, if_false, zb]
  rw [kQ (Nat.le_refl _)]
  simp only [zb]
  rw [aD (by simp; omega)]
  simp
theorem N0 (n : Int) : yf n = some (decide (n ≥ 0) && decide (n ≤ 1073741824)) := by
 unfold yf
 simp only [d6, zb]
def og (s : aa) (id : Int) : Bool := s.aq.any fun c => c.fId == id
def dv (s : aa) (id : Int) : aM := (s.aq.find? fun c => c.fId == id).getD aM.zero
theorem ke (s : aa) (id : Int) (hl : s.aq.length ≤ 1000000) : kZ s id = some (dv s id, og s id) := by
 rw [N1 s id hl]
 unfold dv og
 cases h : s.aq.find? fun c => c.fId == id with
 | none =>
  have : (s.aq.any fun c => c.fId == id) = false := by
   rw [List.any_eq_false]; intro x hx; have := List.find?_eq_none.1 h x hx; simpa using this
  rw [this]; rfl
 | some c =>
  have : (s.aq.any fun c => c.fId == id) = true := by
   rw [List.any_eq_true]; exact ⟨c, List.mem_of_find?_eq_some h, by simpa using List.find?_some h⟩
  rw [this]; rfl
def X4 (s : aa) (n : aM) : Bool := !(decide (n.fId < 0) || decide (n.fId > 999) || decide (n.bc < 0) || decide (n.bc ≥ (s.bN.ak.length : Int)) || decide (n.fM < 0) || decide (n.fM > 99) || !(decide (n.jc.bA ≥ 0) && decide (n.jc.bA ≤ 1073741824)) || !(decide (n.jc.aZ ≥ 0) && decide (n.jc.aZ ≤ 1073741824)))
def VH (s : aa) (n : aM) : aa × Int :=
 if X4 s n = false then (s, 1)
 else if (og s n.fId && (dv s n.fId).fUp) = true then (s, 7)
 else if (!og s n.fId && decide ((s.aq.length : Int) ≥ 12)) = true then (s, 4)
 else ({ s with aq := dZ aM.fId s.aq ⟨n.fId, n.bc, n.fM, n.jc, s.bR, 0, true⟩ }, 0)
theorem EJ (s : aa) (n : aM) (hl : s.aq.length + 1 ≤ 1000000) : p9 s n = some (VH s n) := by
 unfold p9 VH
 simp only [N0, orB, zb, ke s n.fId (by omega), Ax s _ hl, d6]
 unfold X4
 generalize (decide (n.fId < 0) || decide (n.fId > 999) || decide (n.bc < 0) || decide (n.bc ≥ (s.bN.ak.length : Int)) || decide (n.fM < 0) || decide (n.fM > 99) || !(decide (n.jc.bA ≥ 0) && decide (n.jc.bA ≤ 1073741824)) || !(decide (n.jc.aZ ≥ 0) && decide (n.jc.aZ ≤ 1073741824))) = b1
 generalize (og s n.fId && (dv s n.fId).fUp) = b2
 generalize (!og s n.fId && decide ((s.aq.length : Int) ≥ 12)) = b3
 cases b1 <;> cases b2 <;> cases b3 <;> rfl
theorem yh (s : aa) (hl : s.aq.length ≤ 1000000) : rf s = some ((s.aq.filter fun b => b.fUp && decide (i64.wrap (s.bR - b.bO) ≥ 10)).map aM.fId) := by
 unfold rf
 have h := ay (S := List Int × Int) s.aq (fun a k => (a, k)) (f := jK s) (fun acc x => if (x.fUp && decide (i64.wrap (s.bR - x.bO) ≥ 10)) = true then (aU acc [x.fId]).map (fun a => (.inl a : List Int ⊕ (List Int × Int))) else some (.inl acc)) (fun a => (a, (s.aq.length : Int))) (am hl)
  (fun k a x hx => by
   have hk := (zg.1 hx).1
   unfold jK
   simp only [ct hx, if_true, aK hx, zb, d6, bj hk hl]
   split
   ·cases aU a [x.fId] <;> rfl
   ·rfl)
  (fun a => by unfold jK; simp only [ce]; rfl) []
 rw [cw (fun b : aM => b.fUp && decide (i64.wrap (s.bR - b.bO) ≥ 10)) aM.fId (fun a => (a, (s.aq.length : Int))) s.aq [] (by simpa using hl)] at h
 dsimp only
 rw [h]
 rfl
def LD (s : aa) (id b : Int) : aa × Int :=
 if og s id = false then (s, 2)
 else if (dv s id).fUp = false then (s, 18)
 else if decide (b < 0) = true then (s, 15)
 else if decide (b < (dv s id).cJ) = true then (s, 15)
 else if decide (i64.wrap (b - (dv s id).cJ) > 1) = true then (s, 1)
 else ({ s with aq := dZ aM.fId s.aq { dv s id with bO := s.bR, cJ := b } }, 0)
theorem N3 (s : aa) (id b : Int) (hl : s.aq.length + 1 ≤ 1000000) : CK s id b = some (LD s id b) := by
 unfold CK LD
 simp only [ke s id (by omega), zb, Ax s _ hl]
 generalize og s id = b1
 generalize (dv s id).fUp = b2
 generalize decide (b < 0) = b3
 generalize decide (b < (dv s id).cJ) = b4
 generalize decide (i64.wrap (b - (dv s id).cJ) > 1) = b5
 cases b1 <;> cases b2 <;> cases b3 <;> cases b4 <;> cases b5 <;> rfl
def Qu (s : aa) (id : Int) : aa := if og s id = true then { s with aq := dZ aM.fId s.aq { dv s id with fUp := false } } else s
theorem N2 (s : aa) (id : Int) (hl : s.aq.length + 1 ≤ 1000000) : yi s id = some (Qu s id) := by
 unfold yi Qu
 simp only [ke s id (by omega), zb, Ax s _ hl]
 generalize og s id = b1
 cases b1 <;> rfl
def Te (s : aa) (id : Int) : aw := s.ac.foldl (fun v c => if (c.bK == id) = true then NR v c.cT else v) aw.zero
theorem EI (s : aa) (id : Int) (hl : s.ac.length ≤ 1000000) : yg s id = some (Te s id) := by
 unfold yg
 dsimp only
 rw [Az s id ⟨0, 0⟩ hl]
 have : gW s id = fun v c => some (.inl (if (c.bK == id) = true then NR v c.cT else v)) := by
  funext v c
  unfold gW
  simp only [ej, zb]
  cases (c.bK == id) <;> rfl
 rw [this, wl (fun (v : aw) (c : al) => if (c.bK == id) = true then NR v c.cT else v)]
 rfl
def Qh (s : aa) (id : Int) : aw := if (!og s id || !(dv s id).fUp) = true then aw.zero else T1 (dv s id).jc (Te s id)
theorem wQ (s : aa) (id : Int) (hl : s.aq.length ≤ 1000000) (hc : s.ac.length ≤ 1000000) : uS s id = some (Qh s id) := by
 unfold uS Qh
 simp only [ke s id hl, zb, orB, EI s id hc, EU]
 generalize (!og s id || !(dv s id).fUp) = b1
 cases b1 <;> rfl
theorem Dc {α : Type} (key : α → Int) (l : List α) (a : α) : (dZ key l a).length ≤ l.length + 1 := by
 unfold dZ
 have h := rD (fun x => decide (key x < key a)) l
 generalize (l.takeWhile fun x => decide (key x < key a)).length = K at h ⊢
 simp only [List.length_append, List.length_take, List.length_cons, List.length_drop]
 split
 ·split <;> omega
 ·omega
def kA {α : Type} (key : α → Int) (l : List α) : Prop := l.Pairwise fun x y => key x < key y
structure SzA (B : Nat) (a : aB) : Prop where
 queue : a.bW.size ≤ 1000000
 asks : a.cf.length ≤ B
 grants : a.cA.length ≤ B
 kills : a.iK.length ≤ B
 told : a.sI.length ≤ B
 lost : a.tG.length ≤ B
def YQ (s : aa) : Prop := (0 ≤ s.bR ∧ s.bR ≤ 1000000000) ∧ ∀ n ∈ s.aq, 0 ≤ n.bO ∧ n.bO ≤ 1000000000
structure SzS (B : Nat) (s : aa) : Prop where
 conf : zy s.bN
 nodes : s.aq.length ≤ B ∧ kA aM.fId s.aq ∧ YQ s
 apps : s.ao.length ≤ B
 conts : s.ac.length ≤ B
 slots : s.aY.length ≤ B
 plans : s.bw.length ≤ B
 app : ∀ a ∈ s.ao, SzA B a
theorem SzA.mono {B C : Nat} {a : aB} (h : SzA B a) (hc : B ≤ C) : SzA C a := ⟨h.queue, Nat.le_trans h.asks hc, Nat.le_trans h.grants hc, Nat.le_trans h.kills hc, Nat.le_trans h.told hc, Nat.le_trans h.lost hc⟩
theorem SzS.mono {B C : Nat} {s : aa} (h : SzS B s) (hc : B ≤ C) : SzS C s := ⟨h.conf, ⟨Nat.le_trans h.nodes.1 hc, h.nodes.2⟩, Nat.le_trans h.apps hc, Nat.le_trans h.conts hc, Nat.le_trans h.slots hc, Nat.le_trans h.plans hc, fun a ha => (h.app a ha).mono hc⟩
theorem SzA.zero (B : Nat) : SzA B aB.zero := ⟨Nat.zero_le _, Nat.zero_le _, Nat.zero_le _, Nat.zero_le _, Nat.zero_le _, Nat.zero_le _⟩
theorem SzS.get {B : Nat} {s : aa} (h : SzS B s) (id : Int) : SzA B (cm s id) := by
 unfold cm
 cases hf : s.ao.find? fun c => c.fId == id with
 | none => exact SzA.zero B
 | some a => exact h.app a (List.mem_of_find?_eq_some hf)
theorem oW {α : Type} {key : α → Int} {l : List α} {a x : α} (h : x ∈ dZ key l a) : x = a ∨ x ∈ l := by
 unfold dZ at h
 simp only [List.mem_append, List.mem_cons] at h
 rcases h with h | h | h
 ·exact .inr (List.mem_of_mem_take h)
 ·exact .inl h
 ·exact .inr (List.mem_of_mem_drop h)
theorem SzS.put {B : Nat} {s : aa} (h : SzS B s) {a : aB} (ha : SzA (B + 1) a) : SzS (B + 1) { s with ao := dZ aB.fId s.ao a } :=
 ⟨h.conf, ⟨Nat.le_trans h.nodes.1 (Nat.le_succ _), h.nodes.2⟩, Nat.le_trans (Dc _ _ _) (Nat.succ_le_succ h.apps), Nat.le_trans h.conts (Nat.le_succ _), Nat.le_trans h.slots (Nat.le_succ _), Nat.le_trans h.plans (Nat.le_succ _), fun x hx => by
  rcases oW hx with rfl | hx
  ·exact ha
  ·exact (h.app x hx).mono (Nat.le_succ _)⟩
theorem SzS.fewer {B : Nat} {s : aa} (h : SzS B s) {c : List al} {l : List bu} (hc : c.length ≤ s.ac.length) (hl : l.length ≤ s.aY.length) : SzS B { s with ac := c, aY := l } := ⟨h.conf, h.nodes, h.apps, Nat.le_trans hc h.conts, Nat.le_trans hl h.slots, h.plans, h.app⟩
theorem za (a p : ByteArray) (ha : a.size ≤ 1000000) : ∃ r, mH a p = some r := by
 obtain ⟨u, h1, h2, h3⟩ := EN a ha
 unfold mH
 rw [h1]
 dsimp only [zb]
 rw [w7 u p () (by omega), show iw u p = fun (_ : Unit) x => if (x.toList == p.toList) = true then some (.inr (.inr true)) else some (.inl ()) from rfl,
  kl (fun x : ByteArray => x.toList == p.toList) (fun _ => (Sum.inr true : Int ⊕ Bool)) (.inl (u.length : Int)) u]
 simp only [zb]
 cases u.find? fun x => x.toList == p.toList <;> exact ⟨_, rfl⟩
theorem BH {B : Nat} {s : aa} (h : SzS B s) (hB : B ≤ 1000000) (p : ByteArray) (k : Int) (all : Bool) (u : Int) : ∃ r, uf s p k all u = some r := by
 have h1 := h.apps; have h2 := h.conts
 unfold uf
 dsimp only
 rw [y9 s k p all u _ (by omega)]
 obtain ⟨r, e1, _⟩ := aR (g := gh s k p all u) (fin := fun b => (b, (s.ac.length : Int))) (fun _ _ => True) (fun _ => True) s.ac 0 (⟨0, 0⟩ : aw) (fun j t x hx _ => by
  obtain ⟨b, hb⟩ := za (cm s x.bE).bW p (h.get x.bE).queue
  unfold gh
  simp only [d7 s x.bE (by omega), zb, d6, hb, ej]
  cases T7 s x.bE <;> cases (x.bc == k) <;> cases b <;> cases all <;> cases ((cm s x.bE).dw == u) <;> exact ⟨_, rfl, fun _ _ => trivial, fun _ _ => trivial⟩) (fun _ _ => trivial) trivial
 rw [e1]
 exact ⟨_, rfl⟩
theorem ff {B : Nat} {s : aa} (h : SzS B s) (hB : B ≤ 1000000) (p : ByteArray) (k : Int) : ∃ r, ez s p k = some r := by
 obtain ⟨r, e⟩ := BH h hB p k true 0
 exact ⟨r, by unfold ez; rw [e]; rfl⟩
theorem Ca {B : Nat} {s : aa} (h : SzS B s) (hB : B ≤ 1000000) (p : ByteArray) (k u : Int) : ∃ r, oz s p k u = some r := by
 obtain ⟨r, e⟩ := BH h hB p k false u
 exact ⟨r, by unfold oz; rw [e]; rfl⟩
theorem uh {B : Nat} {s : aa} (h : SzS B s) (hB : B ≤ 1000000) (p : ByteArray) (k : Int) : ∃ r, nC s p k = some r := by
 have h1 := h.apps
 unfold nC
 dsimp only
 rw [uj s k p _ (by omega)]
 obtain ⟨r, e1, _⟩ := aR (g := dS s k p) (fin := fun b => (b, (s.ao.length : Int))) (fun _ _ => True) (fun _ => True) s.ao 0 (⟨0, 0⟩ : aw) (fun j t x hx _ => by
  have hm := h.app x (List.mem_of_getElem? hx)
  have ha := hm.asks
  obtain ⟨b, hb⟩ := za x.bW p hm.queue
  unfold dS
  simp only [fg, zb, hb, FR x.cf k (by omega), ej]
  cases TY x <;> cases b <;> exact ⟨_, rfl, fun _ _ => trivial, fun _ _ => trivial⟩) (fun _ _ => trivial) trivial
 rw [e1]
 exact ⟨_, rfl⟩
theorem BJ {B : Nat} {s : aa} (h : SzS B s) (hB : B ≤ 1000000) (p : ByteArray) (hp : p.size ≤ 1000000) (k : Int) (v : aw) : ∃ r, ug s p k v = some r := by
 obtain ⟨u, h1, h2, h3⟩ := EN p hp
 have k1 := h.nodes.1; have k2 := h.plans
 unfold ug
 rw [h1]
 dsimp only [zb]
 rw [zc u s k v () (by omega)]
 obtain ⟨r, e1, _⟩ := aR (g := gj u s k v) (fin := fun _ => (.inl (u.length : Int))) (fun _ _ => True) (fun _ => True) u 0 () (fun j t x hx _ => by
  obtain ⟨w, hw⟩ := ff h hB x k
  unfold gj
  simp only [hw, zb, ej, EL s x k h.conf (by omega), kg, nw s k (by omega), N6 s k (by omega), EU]
  generalize Wd (NR w v) (U9 s x k) = b1
  generalize Wd (NR w v) (T1 (tQ s k) (Vd s k)) = b2
  generalize (x.toList == (⟨#[114, 111, 111, 116]⟩ : ByteArray).toList) = b3
  cases b1 <;> cases b2 <;> cases b3 <;> exact ⟨_, rfl, fun _ _ => trivial, fun _ _ => trivial⟩) (fun _ _ => trivial) trivial
 rw [e1]
 simp only [zb]
 cases r <;> exact ⟨_, rfl⟩
theorem JO {B : Nat} {s : aa} (h : SzS B s) (hB : B ≤ 1000000) (a b : ByteArray) (k : Int) : ∃ r, va s a b k = some r := by
 obtain ⟨u, hu⟩ := ff h hB a k
 obtain ⟨w, hw⟩ := ff h hB b k
 have k1 := h.nodes.1
 unfold va
 simp only [hu, hw, nx s _ k h.conf (Nat.le_trans k1 hB), L1, zb, d6, orB]
 exact ⟨_, rfl⟩
theorem np {α : Type} (out : List α) (hl : out.length ≤ 1000000) {f : Int → Option (Int ⊕ Int)} (h : ∀ (k : Nat) (x : α), out[k]? = some x → ∃ b, f (k : Int) = if b = true then some (.inl ((k + 1 : Nat) : Int)) else some (.inr (k : Int)))
  (hend : f (out.length : Int) = some (.inr (out.length : Int))) : ∃ K : Nat, ah f ab 0 = some (K : Int) ∧ K ≤ out.length := by
 obtain ⟨r, h1, K, h2, h3⟩ := aH (f := f) (fun st => ∃ k : Nat, st = (k : Int) ∧ k ≤ out.length) (fun st => out.length - st.toNat) (fun r => ∃ k : Nat, r = (k : Int) ∧ k ≤ out.length) (fun st ⟨k, e, hk⟩ => by
  subst e
  by_cases hlt : k < out.length
  ·obtain ⟨b, hb⟩ := h k _ (zq hlt)
   rw [hb]
   cases b with
   | true => exact .inl ⟨_, rfl, ⟨k + 1, rfl, hlt⟩, by simp only [zt]; omega⟩
   | false => exact .inr ⟨_, rfl, k, rfl, hk⟩
  ·have : k = out.length := by omega
   subst this
   exact .inr ⟨_, hend, _, rfl, Nat.le_refl _⟩) ab 0 ⟨0, rfl, Nat.zero_le _⟩ (by have := am hl; omega)
 subst h2
 exact ⟨K, h1, h3⟩
theorem mh {σ α τ : Type} {g : σ → Int → α → Option (σ ⊕ τ)} {fin : σ → τ} (I : Nat → σ → Prop) (Q : τ → Prop) : ∀ (l : List α) (k : Nat) (a : σ), (∀ (j : Nat) (a : σ) (x : α), l[j]? = some x → I (k + j) a → ∃ o, g a ((k + j : Nat) : Int) x = some o ∧ (∀ a', o = .inl a' → I (k + j + 1) a') ∧ ∀ r, o = .inr r → Q r) → (∀ a, I (k + l.length) a → Q (fin a)) → I k a → ∃ r, nh g fin a k l = some r ∧ Q r
 | [], k, a, _, hf, hI => ⟨fin a, rfl, hf a hI⟩
 | x :: l, k, a, h, hf, hI => by
  obtain ⟨o, h1, h2, h3⟩ := h 0 a x rfl hI
  simp only [Nat.add_zero] at h1
  simp only [nh, h1]
  cases o with
  | inr r => exact ⟨r, rfl, h3 r rfl⟩
  | inl a' =>
   refine mh I Q l (k + 1) a' (fun j b y hy hb => ?_) (fun b hb => hf b (by simpa [Nat.add_assoc, Nat.add_comm 1] using hb)) (h2 a' rfl)
   have := h (j + 1) b y hy (by rwa [Nat.add_right_comm] at hb)
   rwa [Nat.add_right_comm k 1 j, Nat.add_assoc k j 1]
theorem Mz {B : Nat} {s : aa} (h : SzS B s) (hB : B ≤ 1000000) (p : ByteArray) (k : Int) : ∃ l r, eW s.bN p = some l ∧ y5 s p k = some r ∧ r.length ≤ l.length ∧ ∀ x ∈ r, x ∈ l := by
 obtain ⟨l, h1, h2, h3⟩ := si s.bN p h.conf.sz
 have k2 := h.conf.sz.queues
 have hl : l.length ≤ 1000 := by omega
 unfold y5
 simp only [h1]
 dsimp only [zb]
 rw [yZ l s k [] (by omega)]
 obtain ⟨r, e1, e2⟩ := mh (g := gc l s k) (fin := fun b => (b, (l.length : Int))) (fun j b => b.length ≤ j ∧ ∀ x ∈ b, x ∈ l) (fun r => r.1.length ≤ l.length ∧ ∀ x ∈ r.1, x ∈ l) l 0 [] (fun j out x hx ⟨ho, hm⟩ => by
  have hj := (zg.1 hx).1
  obtain ⟨K, hK1, hK2⟩ := np out (by omega) (f := iY out s ((0 + j : Nat) : Int) l k) (fun i y hy => by
   have hi := (zg.1 hy).1
   obtain ⟨b, hb⟩ := JO h hB x y k
   refine ⟨!b, ?_⟩
   unfold iY
   simp only [ct hy, if_true, aK hy, aK (show l[0 + j]? = some x by rwa [Nat.zero_add]), hb, zb, bj hi (show out.length ≤ 1000000 by omega)]) (by unfold iY; simp only [ce, zf, if_false, zb])
  unfold gc
  dsimp only
  rw [hK1]
  simp only [zb]
  rw [oX hK2]
  simp only [zb]
  rw [aD (by simp; omega)]
  simp only [zb]
  rw [aD (by simp; omega)]
  simp only [zb]
  rw [kQ hK2]
  simp only [zb]
  rw [aD (by simp; omega)]
  refine ⟨_, rfl, fun a' e => ?_, fun r e => by cases e⟩
  injection e with e
  subst e
  refine ⟨by simp; omega, fun y hy => ?_⟩
  simp only [List.nil_append, List.mem_append, List.mem_singleton] at hy
  rcases hy with (hy | rfl) | hy
  ·exact hm y (List.mem_of_mem_take hy)
  ·exact List.mem_of_getElem? hx
  ·exact hm y (List.mem_of_mem_drop hy)) (fun b ⟨hb, hm⟩ => ⟨by simpa using hb, hm⟩) ⟨by simp, by simp⟩
 rw [e1]
 exact ⟨l, _, rfl, rfl, e2.1, e2.2⟩
theorem MA {B : Nat} {s : aa} (h : SzS B s) (hB : B ≤ 1000000) (q : ByteArray) : ∃ r, y8 s q = some r ∧ r.length ≤ B ∧ ∀ i ∈ r, ∃ x ∈ s.ao, x.fId = i := by
 have k1 := h.apps
 unfold y8
 dsimp only
 rw [y7 s q [] (by omega)]
 obtain ⟨r, e1, e2⟩ := aR (g := gg s q) (fin := fun b => (b, (s.ao.length : Int))) (fun j b => b.length ≤ j ∧ ∀ y ∈ b, y ∈ s.ao) (fun r => r.1.length ≤ s.ao.length ∧ ∀ y ∈ r.1, y ∈ s.ao) s.ao 0 [] (fun j out x hx ⟨ho, hm⟩ => by
  have hj := (zg.1 hx).1
  unfold gg
  simp only [fg, zb, orB]
  split
  ·exact ⟨_, rfl, fun a' e => by injection e with e; subst e; exact ⟨Nat.le_succ_of_le ho, hm⟩, fun r e => by cases e⟩
  obtain ⟨K, hK1, hK2⟩ := np out (by omega) (f := iZ out x) (fun i y hy => by
   have hi := (zg.1 hy).1
   refine ⟨decide (y.bI ≥ x.bI), ?_⟩
   unfold iZ
   simp only [ct hy, if_true, aK hy, zb, bj hi (show out.length ≤ 1000000 by omega)]) (by unfold iZ; simp only [ce, zf, if_false, zb])
  rw [hK1]
  simp only [zb]
  rw [oX hK2]
  simp only [zb]
  rw [aD (by simp; omega)]
  simp only [zb]
  rw [aD (by simp; omega)]
  simp only [zb]
  rw [kQ hK2]
  simp only [zb]
  rw [aD (by simp; omega)]
  refine ⟨_, rfl, fun a' e => ?_, fun r e => by cases e⟩
  injection e with e
  subst e
  refine ⟨by show (([] ++ out.take K ++ [x]) ++ out.drop K).length ≤ 0 + j + 1; simp; omega, fun y hy => ?_⟩
  simp only [List.nil_append, List.mem_append, List.mem_singleton] at hy
  rcases hy with (hy | rfl) | hy
  ·exact hm y (List.mem_of_mem_take hy)
  ·exact List.mem_of_getElem? hx
  ·exact hm y (List.mem_of_mem_drop hy)) (fun b ⟨hb, hm⟩ => ⟨by simpa using hb, hm⟩) ⟨by simp, by simp⟩
 rw [e1]
 simp only [zb]
 have e : gf r.1 = fun acc (x : aB) => if true = true then (aU acc [x.fId]).map (fun a => (.inl a : List Int ⊕ (List Int × Int))) else some (.inl acc) := by
  funext acc x
  unfold gf
  simp only [if_true]
  cases aU acc [x.fId] <;> rfl
 have e3 := e2.1
 rw [y6 r.1 [] (by omega), e, cw (fun _ => true) aB.fId _ r.1 [] (by simp; omega)]
 refine ⟨_, rfl, ?_, fun i hi => ?_⟩
 ·have hf := List.length_filter_le (fun _ : aB => true) r.1
  rw [List.nil_append, List.length_map]
  omega
 ·rw [List.nil_append, List.mem_map] at hi
  obtain ⟨y, hy, e4⟩ := hi
  exact ⟨y, e2.2 y (List.mem_filter.1 hy).1, e4⟩
theorem Bp : ∀ (n : Nat) (p : ByteArray), dx n p < n → dx (n + 1) p = dx n p
 | 0, _, h => absurd h (Nat.not_lt_zero _)
 | n + 1, p, h => by
  unfold dx at h ⊢
  split
  ·rfl
  ·rename_i h0
   rw [if_neg h0] at h
   rw [Bp n _ (by omega)]
theorem He {x p : ByteArray} (hx : dQ x = some p) (hp : 0 < p.size) (xs : x.size ≤ 1000000) (hd : dx 6 x ≤ 4) : dx 6 p + 1 = dx 6 x := by
 obtain ⟨r, h1, h2⟩ := ny x xs
 rw [hx] at h1
 injection h1 with h1
 subst h1
 have e : dx 6 x = dx 5 p + 1 := by
  show (if x.size = 0 then 0 else dx 5 (eM x) + 1) = _
  rw [if_neg (by omega)]
  unfold eM
  rw [hx]
  rfl
 rw [e] at hd ⊢
 rw [Bp 5 p (by omega)]
theorem Bv (c : az) (p : ByteArray) (h : SzC c) {l : List ByteArray} (hl : eW c p = some l) : ∀ x ∈ l, (∃ q ∈ c.ae, q.aI = x) ∧ dQ x = some p ∧ 0 < p.size := by
 unfold eW at hl
 have hs := jf c p [] (by have := h.queues; omega)
 dsimp only at hl
 rw [hs] at hl
 obtain ⟨r, h1, h2⟩ := aR (g := cF c p) (fin := fun a => (a, (c.ae.length : Int))) (fun k a => a.length ≤ k ∧ ∀ x ∈ a, (∃ q ∈ c.ae, q.aI = x) ∧ dQ x = some p ∧ 0 < p.size) (fun r => ∀ x ∈ r.1, (∃ q ∈ c.ae, q.aI = x) ∧ dQ x = some p ∧ 0 < p.size) c.ae 0 [] (fun j a x hx ⟨h1, h2⟩ => by
  have hm := List.mem_of_getElem? hx
  have hj := (zg.1 hx).1
  obtain ⟨r, hr, _⟩ := ny x.aI (h.paths x hm)
  have hqs := h.queues
  unfold cF
  simp only [hr, zb, d6]
  split
  ·rename_i hc
   rw [Bool.and_eq_true] at hc
   rw [aD (by simp; omega)]
   refine ⟨_, rfl, fun a' e => ?_, fun r e => by cases e⟩
   injection e with e
   subst e
   refine ⟨by simp; omega, fun y hy => ?_⟩
   simp only [List.mem_append, List.mem_singleton] at hy
   rcases hy with hy | rfl
   ·exact h2 y hy
   ·exact ⟨⟨x, hm, rfl⟩, by rw [hr, qW hc.2], pU hc.1⟩
  ·refine ⟨_, rfl, fun a' e => ?_, fun r e => by cases e⟩
   injection e with e
   subst e
   exact ⟨by omega, h2⟩) (fun a ⟨h1, h2⟩ => h2) ⟨by simp, by simp⟩
 rw [h1] at hl
 injection hl with hl
 subst hl
 exact h2
def xN (self : aa → ByteArray → Int → Option (List ByteArray)) (s : aa) (k : Int) (out : List ByteArray) (x : ByteArray) : Option (List ByteArray ⊕ (List ByteArray × Int)) :=
 (self s x k).bind fun c => (aU out c).bind fun b => some (.inl b)
theorem KO (self : aa → ByteArray → Int → Option (List ByteArray)) (l : List ByteArray) (s : aa) (k : Int) (hl : l.length ≤ 1000000) : ah (jq self l s k) ab ([], 0) = bk (xN self s k) (fun a => (a, (l.length : Int))) [] l :=
 ay l (S := List ByteArray × Int) (fun a k => (a, k)) (xN self s k) (fun a => (a, (l.length : Int))) (am hl) (fun i a x hx => by
  have hk := (zg.1 hx).1
  unfold jq xN
  simp only [ct hx, if_true, aK hx, zb, bj hk hl, GD, Option.map_some])
  (fun a => by unfold jq; exact cK) []
theorem vO {B : Nat} {s : aa} (h : SzS B s) (hD : Deep s.bN) (hB : B ≤ 1000000) (k : Int) : ∀ (d n : Nat) (p : ByteArray), 4 - dx 6 p ≤ d → d < n → d ≤ 4 → ∃ r, iX n s p k = some r ∧ r.length ≤ 16 ^ d
 | d, 0, p, _, hn, _ => absurd hn (Nat.not_lt_zero _)
 | d, n + 1, p, hp, hn, hd => by
  obtain ⟨l, m, h1, h2, h3, h4⟩ := Mz h hB p k
  obtain ⟨l', e1, e2, _⟩ := si s.bN p h.conf.sz
  rw [h1] at e1
  injection e1 with e1
  subst e1
  have hq := hD.few
  unfold iX
  simp only [h2, zb]
  split
  ·exact ⟨_, rfl, by show 1 ≤ 16 ^ d; exact Nat.one_le_pow _ _ (by omega)⟩
  ·rename_i hne
   have hm : 0 < m.length := by
    rcases Nat.eq_zero_or_pos m.length with h0 | h0
    ·rw [h0] at hne; exact absurd rfl hne
    ·exact h0
   have kid := Bv s.bN p h.conf.sz h1
   have kd : ∀ x ∈ m, dx 6 p + 1 = dx 6 x ∧ dx 6 x ≤ 4 := fun x hx => by
    obtain ⟨⟨q, hq1, hq2⟩, a1, a2⟩ := kid x (h4 x hx)
    subst hq2
    exact ⟨He a1 a2 (h.conf.sz.paths q hq1) (hD.deep q hq1), hD.deep q hq1⟩
   have hd0 : 0 < d := by
    obtain ⟨a1, a2⟩ := kd m[0] (List.getElem_mem hm)
    omega
   obtain ⟨d', rfl⟩ : ∃ d', d = d' + 1 := ⟨d - 1, by omega⟩
   have hpow : 16 ^ d' ≤ 16 ^ 3 := Nat.pow_le_pow_right (by omega) (by omega)
   rw [KO _ m s k (by omega)]
   obtain ⟨r, r1, r2⟩ := aR (g := xN (iX n) s k) (fin := fun a => (a, (m.length : Int))) (fun j a => a.length ≤ j * 16 ^ d') (fun r => r.1.length ≤ m.length * 16 ^ d') m 0 [] (fun j a x hx ha => by
    have hj := (zg.1 hx).1
    obtain ⟨a1, a2⟩ := kd x (List.mem_of_getElem? hx)
    obtain ⟨c, c1, c2⟩ := vO h hD hB k d' n x (by omega) (by omega) (by omega)
    have hj2 : (0 + j) * 16 ^ d' ≤ 16 * 16 ^ 3 := Nat.mul_le_mul (by omega) hpow
    unfold xN
    rw [c1]
    simp only [zb]
    rw [aD (by omega)]
    refine ⟨_, rfl, fun a' e => ?_, fun r e => by cases e⟩
    injection e with e
    subst e
    rw [List.length_append, Nat.succ_mul]
    omega) (fun a ha => by simpa using ha) (by simp)
   rw [r1]
   refine ⟨_, rfl, Nat.le_trans r2 ?_⟩
   rw [Nat.pow_succ, Nat.mul_comm]
   exact Nat.mul_le_mul_left _ (by omega)
theorem F4 {B : Nat} {s : aa} (h : SzS B s) (hD : Deep s.bN) (hB : B ≤ 1000000) (k : Int) : ∃ r, sr s k = some r ∧ r.length ≤ 65536 := by
 obtain ⟨r, h1, h2⟩ := vO h hD hB k 4 ab ⟨#[114, 111, 111, 116]⟩ (by omega) (by unfold ab; omega) (by omega)
 unfold sr
 rw [h1]
 exact ⟨_, rfl, h2⟩
def Ok {α : Type} (o : Option α) (P : α → Prop) : Prop := ∃ r, o = some r ∧ P r
theorem Ok.bind {α β : Type} {o : Option α} {f : α → Option β} {P : α → Prop} {Q : β → Prop} (h1 : Ok o P) (h2 : ∀ r, P r → Ok (f r) Q) : Ok (Option.bind o f) Q := by
 obtain ⟨r, e, hr⟩ := h1
 rw [e]
 exact h2 r hr
theorem Ok.ite {α : Type} {c : Prop} [Decidable c] {a b : Option α} {Q : α → Prop} (h1 : c → Ok a Q) (h2 : ¬c → Ok b Q) : Ok (if c then a else b) Q := by
 by_cases h : c
 ·rw [if_pos h]; exact h1 h
 ·rw [if_neg h]; exact h2 h
theorem Ok.pure {α : Type} {a : α} {Q : α → Prop} (h : Q a) : Ok (some a) Q := ⟨a, rfl, h⟩
theorem Ok.weak {α : Type} {o : Option α} {P Q : α → Prop} (h : Ok o P) (hq : ∀ r, P r → Q r) : Ok o Q := by
 obtain ⟨r, e, hr⟩ := h
 exact ⟨r, e, hq r hr⟩
theorem C6 {σ α τ : Type} {g : σ → α → Option (σ ⊕ τ)} {fin : σ → τ} (I : Nat → σ → Prop) (l : List α) (a : σ) (h : ∀ (j : Nat) (a : σ) (x : α), l[j]? = some x → I j a → Ok (g a x) (fun o => ∃ a', o = .inl a' ∧ I (j + 1) a')) (hI : I 0 a) : Ok (bk g fin a l) (fun r => ∃ a', r = fin a' ∧ I l.length a') := by
 refine aR I _ l 0 a (fun j a x hx ha => ?_) (fun a ha => ⟨a, rfl, by simpa using ha⟩) hI
 obtain ⟨o, e, a', h1, h2⟩ := h j a x hx (by simpa using ha)
 subst h1
 exact ⟨_, e, fun a'' e => (by injection e with e; subst e; simpa using h2), fun r e => (by cases e)⟩
theorem tc {σ α τ : Type} {g : σ → Int → α → Option (σ ⊕ τ)} {fin : σ → τ} (I : Nat → σ → Prop) (l : List α) (a : σ) (h : ∀ (j : Nat) (a : σ) (x : α), l[j]? = some x → I j a → Ok (g a (j : Int) x) (fun o => ∃ a', o = .inl a' ∧ I (j + 1) a')) (hI : I 0 a) : Ok (nh g fin a 0 l) (fun r => ∃ a', r = fin a' ∧ I l.length a') := by
 refine mh I _ l 0 a (fun j a x hx ha => ?_) (fun a ha => ⟨a, rfl, by simpa using ha⟩) hI
 obtain ⟨o, e, a', h1, h2⟩ := h j a x hx (by simpa using ha)
 subst h1
 exact ⟨_, by simpa using e, fun a'' e => (by injection e with e; subst e; simpa using h2), fun r e => (by cases e)⟩
theorem jI {α : Type} {l : List α} {i : Int} (h0 : 0 ≤ i) (h1 : i < (l.length : Int)) : Ok (ax l i) (fun x => x ∈ l) := by
 obtain ⟨x, h⟩ := IM h0 h1
 exact ⟨x, h.1, h.2⟩
theorem Cs {a n : Int} (hn : 0 < n) : -n < a.tmod n ∧ a.tmod n < n := by
 constructor
 ·have := Int.lt_tmod_of_pos a hn; omega
 ·exact Int.tmod_lt_of_pos a hn
def ey (v_s : aa) (cx : Int) (st : (List bu)) (x_ : bu) : Option (((List bu)) ⊕ (((List bu) × Int))) :=
let v_l := st
if (x_.bK != cx) = true then
(aU v_l [x_]).bind fun b4 => let v_l : (List bu) := b4
some (.inl v_l)
else
some (.inl v_l)
theorem vy (v_s : aa) (cx : Int) (a_ : (List bu)) (hl : v_s.aY.length ≤ 1000000) : ah (jp v_s cx) ab (a_, (0)) = bk (ey v_s cx) (fun a_ => (a_, ((v_s.aY.length : Int)))) a_ v_s.aY :=
 ay v_s.aY (S := (List bu) × Int) (fun a_ k_ => (a_, (k_))) (ey v_s cx) (fun a_ => (a_, ((v_s.aY.length : Int)))) (am hl) (fun k a x hx => by
  unfold jp ey; exact bG)
  (fun a => by unfold jp; exact cK) a_
def jo (v_s : aa) (cx : Int) (st : Unit) (x_ : bu) : Option ((Unit) ⊕ ((Int) ⊕ (bu × Bool))) :=
if (x_.bK == cx) = true then
some (.inr (.inr (x_, true)))
else
some (.inl ())
theorem yR (v_s : aa) (cx : Int) (a_ : Unit) (hl : v_s.aY.length ≤ 1000000) : ah (lz v_s cx) ab (0) = bk (jo v_s cx) (fun a_ => (.inl ((v_s.aY.length : Int)))) a_ v_s.aY :=
 ay v_s.aY (S := Int) (fun a_ k_ => (k_)) (jo v_s cx) (fun a_ => (.inl ((v_s.aY.length : Int)))) (am hl) (fun k a x hx => by
  unfold lz jo; exact bG)
  (fun a => by unfold lz; exact cK) a_
def fc (v_s : aa) (eP : Int) (cM : Int) (st : Unit) (x_ : bu) : Option ((Unit) ⊕ ((Int) ⊕ (Bool))) :=
(if (x_.bE == eP) = true then some (x_.bI == cM) else some false).bind fun q4 => if q4 = true then
some (.inr (.inr true))
else
some (.inl ())
theorem w6 (v_s : aa) (eP : Int) (cM : Int) (a_ : Unit) (hl : v_s.aY.length ≤ 1000000) : ah (jS v_s eP cM) ab (0) = bk (fc v_s eP cM) (fun a_ => (.inl ((v_s.aY.length : Int)))) a_ v_s.aY :=
 ay v_s.aY (S := Int) (fun a_ k_ => (k_)) (fc v_s eP cM) (fun a_ => (.inl ((v_s.aY.length : Int)))) (am hl) (fun k a x hx => by
  unfold jS fc; exact bG)
  (fun a => by unfold jS; exact cK) a_
theorem tj {α : Type} (key : α → Int) (x : α) (l : List α) (a : α) : dZ key (x :: l) a = if key x < key a then x :: dZ key l a else if key x = key a then a :: l else a :: x :: l := by
 unfold dZ
 by_cases h : key x < key a
 ·rw [if_pos h]
  have hd : decide (key x < key a) = true := by simpa using h
  simp only [List.takeWhile_cons, hd, if_true, List.length_cons, List.take_succ_cons, List.getElem?_cons_succ, List.cons_append]
  generalize (l.takeWhile fun x => decide (key x < key a)).length = K
  cases l[K]? with
  | none => rfl
  | some y =>
   dsimp only
   split <;> rfl
 ·rw [if_neg h]
  have hd : decide (key x < key a) = false := by simpa using h
  simp only [List.takeWhile_cons, hd, zf, if_false, List.length_nil, List.take_zero, List.nil_append, List.getElem?_cons_zero, Nat.zero_add]
  by_cases he : key x = key a
  ·rw [if_pos he]
   have hb : (key x == key a) = true := by simpa using he
   simp [hb]
  ·rw [if_neg he]
   have hb : (key x == key a) = false := by simpa using he
   simp [hb]
theorem qh {α : Type} (key : α → Int) (a : α) : ∀ l : List α, kA key l → (∃ x ∈ l, key x = key a) → (dZ key l a).length = l.length
 | [], _, ⟨x, hx, _⟩ => by cases hx
 | y :: l, hs, ⟨x, hx, he⟩ => by
  have hs' := List.pairwise_cons.1 hs
  rw [tj]
  split
  ·rename_i h
   rcases List.mem_cons.1 hx with rfl | hx
   ·omega
   ·rw [List.length_cons, List.length_cons, qh key a l hs'.2 ⟨x, hx, he⟩]
  ·split
   ·rfl
   ·rename_i h1 h2
    rcases List.mem_cons.1 hx with rfl | hx
    ·exact absurd he h2
    ·have := hs'.1 x hx
     omega
theorem iG {α : Type} (key : α → Int) (a : α) : ∀ l : List α, kA key l → kA key (dZ key l a)
 | [], _ => List.pairwise_singleton _ _
 | y :: l, hs => by
  have hs' := List.pairwise_cons.1 hs
  rw [tj]
  split
  ·rename_i h
   refine List.pairwise_cons.2 ⟨fun x hx => ?_, iG key a l hs'.2⟩
   rcases oW hx with rfl | hx
   ·exact h
   ·exact hs'.1 x hx
  ·split
   ·rename_i h1 h2
    exact List.pairwise_cons.2 ⟨fun x hx => by have := hs'.1 x hx; omega, hs'.2⟩
   ·rename_i h1 h2
    refine List.pairwise_cons.2 ⟨fun x hx => ?_, hs⟩
    rcases List.mem_cons.1 hx with rfl | hx
    ·omega
    ·have := hs'.1 x hx; omega
theorem Dd {α : Type} (key : α → Int) (a : α) (i : Int) : ∀ l : List α, (∃ x ∈ l, key x = i) → ∃ x ∈ dZ key l a, key x = i
 | [], ⟨x, hx, _⟩ => by cases hx
 | y :: l, ⟨x, hx, he⟩ => by
  rw [tj]
  split
  ·rcases List.mem_cons.1 hx with rfl | hx
   ·exact ⟨x, List.mem_cons_self, he⟩
   ·obtain ⟨z, hz, hz2⟩ := Dd key a i l ⟨x, hx, he⟩
    exact ⟨z, List.mem_cons_of_mem _ hz, hz2⟩
  ·split
   ·rename_i h1 h2
    rcases List.mem_cons.1 hx with rfl | hx
    ·exact ⟨a, List.mem_cons_self, by omega⟩
    ·exact ⟨x, List.mem_cons_of_mem _ hx, he⟩
   ·exact ⟨x, List.mem_cons_of_mem _ hx, he⟩
theorem SzS.putIn {B : Nat} {s : aa} (h : SzS B s) (hs : kA aB.fId s.ao) {a : aB} (hi : ∃ x ∈ s.ao, x.fId = a.fId) (ha : SzA B a) : SzS B { s with ao := dZ aB.fId s.ao a } :=
 ⟨h.conf, h.nodes, by show (dZ _ _ _).length ≤ B; rw [qh _ _ _ hs hi]; exact h.apps, h.conts, h.slots, h.plans, fun x hx => by
  rcases oW hx with rfl | hx
  ·exact ha
  ·exact h.app x hx⟩
def T0 (a : aO) (n : aM) : Int := (mG a n).getD 0
theorem yX (a : aO) (n : aM) : mG a n = some (T0 a n) := by
 have : ∃ r, mG a n = some r := by
  unfold mG
  simp only [d6, orB, zb]
  repeat' split
  all_goals exact ⟨_, rfl⟩
 obtain ⟨r, e⟩ := this
 unfold T0
 rw [e]
 rfl
def X7 (a : aO) (n : aM) : Bool := (sq a n).getD false
theorem E8 (a : aO) (n : aM) : sq a n = some (X7 a n) := by
 have : ∃ r, sq a n = some r := by
  unfold sq
  simp only [yX, zb]
  repeat' split
  all_goals exact ⟨_, rfl⟩
 obtain ⟨r, e⟩ := this
 unfold X7
 rw [e]
 rfl
theorem E6 {B : Nat} {s : aa} (h : SzS B s) (hB : B ≤ 1000000) (q : ByteArray) (a : aO) : ∃ r, yV s q a = some r := by
 obtain ⟨u, hu⟩ := ff h hB q a.bc
 have k2 := h.nodes.1
 unfold yV
 simp only [hu, ej, nx s _ _ h.conf (Nat.le_trans k2 hB), kg, zb]
 exact ⟨_, rfl⟩
theorem BE {B : Nat} {s : aa} (h : SzS B s) (hB : B ≤ 1000000) (q : ByteArray) (k u : Int) : ∃ r, ue s q k u = some r := by
 obtain ⟨v, hv⟩ := Ca h hB q k u
 have k2 := h.nodes.1
 unfold ue
 simp only [hv, N4 s _ _ h.conf (Nat.le_trans k2 hB), kg, zb]
 exact ⟨_, rfl⟩
theorem SzS.slot {B : Nat} {s : aa} (h : SzS B s) {l : List bu} (hl : l.length ≤ B) : SzS B { s with aY := l } := ⟨h.conf, h.nodes, h.apps, h.conts, hl, h.plans, h.app⟩
theorem SzS.cont {B : Nat} {s : aa} (h : SzS B s) {l : List al} (hl : l.length ≤ B) : SzS B { s with ac := l } := ⟨h.conf, h.nodes, h.apps, hl, h.slots, h.plans, h.app⟩
theorem SzS.seq {B : Nat} {s : aa} (h : SzS B s) (n : Int) : SzS B { s with rQ := n } := ⟨h.conf, h.nodes, h.apps, h.conts, h.slots, h.plans, h.app⟩
theorem vN (s : aa) (n : Int) (hl : s.aY.length ≤ 1000000) : fu s n = some { s with aY := s.aY.filter fun c => c.bK != n } := by
 unfold fu
 dsimp only
 have e : ey s n = fun acc x => if (x.bK != n) = true then (aU acc [id' x]).map (fun a => (.inl a : List bu ⊕ (List bu × Int))) else some (.inl acc) := by
  funext acc x
  unfold ey
  dsimp only [id']
  split
  ·cases aU acc [x] <;> rfl
  ·rfl
 rw [vy s n [] hl, e, cw (fun c : bu => c.bK != n) id' _ s.aY [] (by simpa using hl)]
 simp only [zb, List.nil_append, xK]
theorem Mm (s : aa) (n : Int) (hl : s.aY.length ≤ 1000000) : ∃ r, yS s n = some r := by
 unfold yS
 dsimp only
 rw [yR s n () hl, show jo s n = fun (_ : Unit) x => if (x.bK == n) = true then some (.inr (.inr (x, true))) else some (.inl ()) from rfl,
  kl (fun x : bu => x.bK == n) (fun x => (Sum.inr (x, true) : Int ⊕ bu × Bool)) (.inl (s.aY.length : Int)) s.aY]
 simp only [zb]
 cases s.aY.find? fun x => x.bK == n <;> exact ⟨_, rfl⟩
theorem JL (s : aa) (a p : Int) (hl : s.aY.length ≤ 1000000) : ∃ r, u6 s a p = some r := by
 unfold u6
 dsimp only
 rw [w6 s a p () hl]
 obtain ⟨r, e1, _⟩ := aR (g := fc s a p) (fin := fun _ => (.inl (s.aY.length : Int))) (fun _ _ => True) (fun _ => True) s.aY 0 () (fun j b x hx _ => by
  unfold fc
  simp only [d6, zb]
  split <;> exact ⟨_, rfl, fun _ _ => trivial, fun _ _ => trivial⟩) (fun _ _ => trivial) trivial
 rw [e1]
 simp only [zb]
 cases r <;> exact ⟨_, rfl⟩
theorem Ms {B : Nat} {s : aa} (h : SzS B s) (hB : B + 1 ≤ 1000000) (x : bu) : ∃ r, rr s x = some r ∧ SzS (B + 1) r ∧ r.ao = s.ao := by
 have k1 := h.slots
 obtain ⟨K, hK1, hK2⟩ := np s.aY (by omega) (f := lA s x) (fun i y hy => by
  have hi := (zg.1 hy).1
  refine ⟨decide (y.bK < x.bK), ?_⟩
  unfold lA
  simp only [ct hy, if_true, aK hy, zb, bj hi (show s.aY.length ≤ 1000000 by omega)]) (by unfold lA; simp only [ce, zf, if_false, zb])
 unfold rr
 dsimp only
 rw [hK1]
 simp only [zb]
 rw [oX hK2]
 simp only [zb]
 rw [aD (by simp; omega)]
 simp only [zb]
 rw [aD (by simp; omega)]
 simp only [zb]
 rw [kQ hK2]
 simp only [zb]
 rw [aD (by simp; omega)]
 exact ⟨_, rfl, (h.mono (Nat.le_succ _)).slot (by simp; omega), rfl⟩
theorem yU {B : Nat} {s : aa} (h : SzS B s) (hB : B + 2 ≤ 1000000) (n : aM) {a : aB} (ha : SzA B a) (x : aO) : ∃ r, mF s n a x = some r ∧ SzS (B + 2) r.1 ∧ (kA aB.fId s.ao → kA aB.fId r.1.ao) := by
 have k1 := h.conts; have k2 := h.apps; have k3 := ha.asks; have k4 := ha.grants
 obtain ⟨t, t1, t2⟩ := NW a.cf x.bI (by omega)
 unfold mF
 simp only [t1, zb]
 generalize hc : (⟨_, a.fId, n.fId, x.cT, x.bI, n.bc, (a.ed == 1), 0⟩ : al) = c
 have hs : SzS B { s with rQ := i64.wrap (s.rQ + 1) } := h.seq _
 generalize hS : ({ s with rQ := i64.wrap (s.rQ + 1) } : aa) = S at hs ⊢
 have hcl : S.ac = s.ac := by rw [← hS]
 have hal : S.ao = s.ao := by rw [← hS]
 have fin : ∀ b : aB, SzA (B + 1) b → ∃ r, (Option.bind (ah (g9 S c) ab 0) fun r11 => Option.bind (hiO s.ac r11) fun b12 => Option.bind (aU ([] : List al) b12) fun b13 => Option.bind (aU b13 [c]) fun b14 => Option.bind (loO s.ac r11) fun b15 => Option.bind (aU b14 b15) fun b16 => Option.bind (eH { s with ac := b16, rQ := i64.wrap (s.rQ + 1) } b) fun c17 => some (c17, c)) = some r ∧ SzS (B + 2) r.1 ∧ (kA aB.fId s.ao → kA aB.fId r.1.ao) := by
  intro b hb
  obtain ⟨K, hK1, hK2⟩ := np s.ac (by omega) (f := g9 S c) (fun i y hy => by
   have hi := (zg.1 hy).1
   refine ⟨decide (y.fId < c.fId), ?_⟩
   unfold g9
   simp only [hcl, ct hy, if_true, aK hy, zb, bj hi (show s.ac.length ≤ 1000000 by omega)]) (by unfold g9; simp only [hcl, ce, zf, if_false, zb])
  rw [hK1]
  simp only [zb]
  rw [oX hK2]
  simp only [zb]
  rw [aD (by simp; omega)]
  simp only [zb]
  rw [aD (by simp; omega)]
  simp only [zb]
  rw [kQ hK2]
  simp only [zb]
  rw [aD (by simp; omega)]
  simp only [zb]
  rw [kj _ _ (by show s.ao.length + 1 ≤ _; omega)]
  refine ⟨_, rfl, ?_⟩
  have hlen : (([] ++ s.ac.take K ++ [c]) ++ s.ac.drop K).length ≤ B + 1 := by simp; omega
  have h2 : SzS (B + 1) { s with ac := ([] ++ s.ac.take K ++ [c]) ++ s.ac.drop K, rQ := i64.wrap (s.rQ + 1) } := by
   have hm := h.mono (Nat.le_succ B)
   exact ⟨hm.conf, hm.nodes, hm.apps, hlen, hm.slots, hm.plans, hm.app⟩
  exact ⟨h2.put (hb.mono (Nat.le_succ _)), fun hs => iG _ _ _ hs⟩
 have ha1 := ha.mono (Nat.le_succ B)
 split
 ·simp only [zb]
  refine fin _ ?_
  exact ⟨ha1.queue, Nat.zero_le _, ha1.grants, ha1.kills, ha1.told, ha1.lost⟩
 ·rw [aD (by simp; omega)]
  simp only [zb]
  rw [aD (by simp; omega)]
  simp only [zb]
  refine fin _ ?_
  exact ⟨ha1.queue, by show t.1.length ≤ _; omega, by simp; omega, ha1.kills, ha1.told, ha1.lost⟩
def zx (B : Nat) (s t : aa) : Prop := SzS B t ∧ kA aB.fId t.ao ∧ ∀ i, (∃ x ∈ s.ao, x.fId = i) → ∃ x ∈ t.ao, x.fId = i
theorem O8 {B : Nat} {s : aa} (h : SzS B s) (hs : kA aB.fId s.ao) (hB : B + 2 ≤ 1000000) (n : aM) {a : aB} (hi : ∃ x ∈ s.ao, x.fId = a.fId) (ha : SzA B a) (x : aO) (first : Bool) : ∃ r, u7 s n a x first = some r ∧ SzS (B + 2) r.1 ∧ kA aB.fId r.1.ao ∧ (r.2.1 = 0 → zx B s r.1) := by
 have k1 := h.apps; have k2 := h.slots; have k3 := ha.asks; have k4 := h.conts; have k5 := h.nodes.1
 have stay : zx B s s := ⟨h, hs, fun _ e => e⟩
 have h2 := h.mono (show B ≤ B + 2 by omega)
 obtain ⟨d, hd⟩ := E6 h (by omega) a.bW x
 obtain ⟨m, hm, hm2⟩ := NX a.cf x.bI (by omega)
 obtain ⟨o, ho⟩ := BJ h (by omega) a.bW ha.queue n.bc x.cT
 obtain ⟨g, hg, hg2, hg3⟩ := yU h hB n ha x
 obtain ⟨p, hp⟩ := JL s a.fId x.bI (by omega)
 obtain ⟨q, hq, hq2, hq3⟩ := Ms h (by omega) (⟨n.fId, a.fId, x.bI⟩ : bu)
 have hput : ∃ t, eH s { a with cf := m } = some t ∧ zx B s t := by
  refine ⟨_, kj s _ (by omega), h.putIn hs hi ⟨ha.queue, by show m.length ≤ B; omega, ha.grants, ha.kills, ha.told, ha.lost⟩, iG _ _ _ hs, fun i e => Dd _ _ i _ e⟩
 obtain ⟨t, ht, ht2⟩ := hput
 unfold u7
 simp only [hd, yX, E8, kg, orB, d6, zb, hm, ht, ho, hg, hp, hq, wQ s n.fId (show s.aq.length ≤ 1000000 by omega) (show s.ac.length ≤ 1000000 by omega)]
 split
 ·exact ⟨_, rfl, h2, hs, fun _ => stay⟩
 split
 ·split
  ·exact ⟨_, rfl, ht2.1.mono (by omega), ht2.2.1, fun _ => ht2⟩
  ·exact ⟨_, rfl, h2, hs, fun _ => stay⟩
 split
 ·exact ⟨_, rfl, h2, hs, fun _ => stay⟩
 split
 ·exact ⟨_, rfl, hg2, hg3 hs, fun e => absurd (show (1 : Int) = 0 from e) (by decide)⟩
 split
 ·exact ⟨_, rfl, hq2.mono (by omega), by show kA _ q.ao; rw [hq3]; exact hs, fun e => absurd (show (2 : Int) = 0 from e) (by decide)⟩
 ·exact ⟨_, rfl, h2, hs, fun _ => stay⟩
theorem Ud {s : aa} {id : Int} (h : ∃ x ∈ s.ao, x.fId = id) : cm s id ∈ s.ao ∧ (cm s id).fId = id := by
 obtain ⟨x, hx, e⟩ := h
 unfold cm
 cases hf : s.ao.find? fun c => c.fId == id with
 | none =>
  have := List.find?_eq_none.1 hf x hx
  simp [e] at this
 | some a =>
  have h2 := List.find?_some hf
  exact ⟨List.mem_of_find?_eq_some hf, by simpa using h2⟩
def zA (B : Nat) (t : aa) : Prop := SzS (B + 2) t ∧ kA aB.fId t.ao
theorem Q7 {B : Nat} {s : aa} (h : SzS B s) (hs : kA aB.fId s.ao) (hB : B + 2 ≤ 1000000) (n : aM) (l : List aO) (a : aB) (hl : a.cf = l) (hl2 : l.length ≤ B) (ids : List Int) (hI : ∀ i ∈ ids, ∃ x ∈ s.ao, x.fId = i) (j : Nat) (id : Int) (hj : ids[j]? = some id) (first : Bool) : ∃ r, ah (g6 a (j : Int) ids n first) ab (s, 0) = some r ∧ (match r with | .inl m => zx B s m.1 | .inr m => zA B m.1) := by
 refine aH (fun st => zx B s st.1 ∧ ∃ k : Nat, st.2 = (k : Int) ∧ k ≤ l.length) (fun st => l.length - st.2.toNat) _ (fun st ⟨⟨q1, q2, q3⟩, k, h1, h2⟩ => ?_) ab (s, 0) ⟨⟨h, hs, fun _ e => e⟩, 0, rfl, Nat.zero_le _⟩ (by have := am (show l.length ≤ 1000000 by omega); omega)
 have k1 := q1.apps
 unfold g6
 simp only [h1, hl]
 by_cases hlt : k < l.length
 ·have g1 : l[k]? = some l[k] := zq hlt
  have g2 := Ud (q3 id (hI id (List.mem_of_getElem? hj)))
  obtain ⟨r, r1, r2, r3, r4⟩ := O8 q1 q2 hB n (a := cm st.1 id) ⟨_, g2.1, rfl⟩ (q1.get id) l[k] first
  simp only [ct g1, if_true, aK g1, aK hj, d7 st.1 id (by omega), r1, zb, bj hlt (show l.length ≤ 1000000 by omega)]
  split
  ·exact .inr ⟨_, rfl, r2, r3⟩
  ·rename_i hne
   have h0 : r.2.1 = 0 := by simpa using hne
   obtain ⟨t1, t2, t3⟩ := r4 h0
   exact .inl ⟨_, rfl, ⟨⟨t1, t2, fun i e => t3 i (q3 i e)⟩, k + 1, rfl, hlt⟩, by simp only [zt]; omega⟩
 ·have : k = l.length := by omega
  subst this
  simp only [ce, zf, if_false]
  exact .inr ⟨_, rfl, q1, q2, q3⟩
theorem Q8 {B : Nat} {s : aa} (h : SzS B s) (hs : kA aB.fId s.ao) (hB : B + 2 ≤ 1000000) (n : aM) (ids : List Int) (hI : ∀ i ∈ ids, ∃ x ∈ s.ao, x.fId = i) (hI2 : ids.length ≤ 1000000) (lv : List ByteArray) (i : Nat) (q : ByteArray) (hi : lv[i]? = some q) (first : Bool) : ∃ r, ah (g7 ids (i : Int) lv n first) ab (s, 0) = some r ∧ (match r with | .inl m => zx B s m.1 | .inr m => zA B m.1) := by
 refine aH (fun st => zx B s st.1 ∧ ∃ k : Nat, st.2 = (k : Int) ∧ k ≤ ids.length) (fun st => ids.length - st.2.toNat) _ (fun st ⟨⟨q1, q2, q3⟩, k, h1, h2⟩ => ?_) ab (s, 0) ⟨⟨h, hs, fun _ e => e⟩, 0, rfl, Nat.zero_le _⟩ (by have := am hI2; omega)
 have k1 := q1.apps
 unfold g7
 simp only [h1]
 by_cases hlt : k < ids.length
 ·have g1 : ids[k]? = some ids[k] := zq hlt
  obtain ⟨m, hm⟩ := BE q1 (by omega) q n.bc (cm st.1 ids[k]).dw
  simp only [ct g1, if_true, aK g1, aK hi, d7 st.1 _ (show st.1.ao.length ≤ 1000000 by omega), hm, zb, bj hlt hI2]
  split
  ·exact .inl ⟨_, rfl, ⟨⟨q1, q2, q3⟩, k + 1, rfl, hlt⟩, by simp only [zt]; omega⟩
  ·have ha := (q1.get ids[k]).asks
   obtain ⟨r, r1, r2⟩ := Q7 q1 q2 hB n _ (cm st.1 ids[k]) rfl ha ids (fun i hi => q3 i (hI i hi)) k _ g1 first
   rw [r1]
   simp only [zb]
   cases r with
   | inr m => exact .inr ⟨_, rfl, r2⟩
   | inl m =>
    obtain ⟨t1, t2, t3⟩ := r2
    exact .inl ⟨_, rfl, ⟨⟨t1, t2, fun i e => t3 i (q3 i e)⟩, k + 1, rfl, hlt⟩, by simp only [zt]; omega⟩
 ·have : k = ids.length := by omega
  subst this
  simp only [ce, zf, if_false]
  exact .inr ⟨_, rfl, q1, q2, q3⟩
theorem yT {B : Nat} {s : aa} (h : SzS B s) (hs : kA aB.fId s.ao) (hB : B + 2 ≤ 1000000) (n : aM) (first : Bool) : ∃ r, eb s n first = some r ∧ zA B r.1 ∧ (r.2.1 = 0 → SzS B r.1 ∨ zA B r.1) := by
 obtain ⟨lv, h1, h2⟩ := F4 h h.conf.deep (by omega) n.bc
 have hl : lv.length ≤ 1000000 := by omega
 unfold eb
 simp only [h1, zb]
 obtain ⟨r, r1, r2⟩ := aH (f := g8 lv n first) (fun st => zx B s st.1 ∧ ∃ k : Nat, st.2 = (k : Int) ∧ k ≤ lv.length) (fun st => lv.length - st.2.toNat) (fun r => match r with | .inl m => zx B s m.1 | .inr m => zA B m.1) (fun st ⟨⟨q1, q2, q3⟩, k, h1, h2⟩ => by
  have k1 := q1.apps
  unfold g8
  simp only [h1]
  by_cases hlt : k < lv.length
  ·have g1 : lv[k]? = some lv[k] := zq hlt
   obtain ⟨ids, a1, a2, a3⟩ := MA q1 (by omega) lv[k]
   obtain ⟨r, r1, r2⟩ := Q8 q1 q2 hB n ids a3 (by omega) lv k _ g1 first
   simp only [ct g1, if_true, aK g1, a1, r1, zb, bj hlt hl]
   cases r with
   | inr m => exact .inr ⟨_, rfl, r2⟩
   | inl m =>
    obtain ⟨t1, t2, t3⟩ := r2
    exact .inl ⟨_, rfl, ⟨⟨t1, t2, fun i e => t3 i (q3 i e)⟩, k + 1, rfl, hlt⟩, by simp only [zt]; omega⟩
  ·have : k = lv.length := by omega
   subst this
   simp only [ce, zf, if_false]
   exact .inr ⟨_, rfl, q1, q2, q3⟩) ab (s, 0) ⟨⟨h, hs, fun _ e => e⟩, 0, rfl, Nat.zero_le _⟩ (by have := am hl; omega)
 rw [r1]
 simp only [zb]
 cases r with
 | inr m => exact ⟨_, rfl, r2, fun _ => .inr r2⟩
 | inl m => exact ⟨_, rfl, ⟨r2.1.mono (by omega), r2.2.1⟩, fun _ => .inl r2.1⟩
theorem zA.mono {B C : Nat} {t : aa} (h : zA B t) (hc : B ≤ C) : zA C t := ⟨h.1.mono (by omega), h.2⟩
theorem Mp {B : Nat} {s : aa} (h : SzS B s) (hs : kA aB.fId s.ao) (hB : B + 2 ≤ 1000000) (n : aM) (x : bu) : ∃ r, rq s n x = some r ∧ zA B r.1 ∧ (r.2.2.2 = false → SzS B r.1) := by
 have k1 := h.apps; have k2 := h.slots; have k4 := h.conts; have k5 := h.nodes.1
 have ha := h.get x.bE
 have k3 := ha.asks
 have h2 := h.mono (show B ≤ B + 2 by omega)
 have hn : SzS B { s with aY := s.aY.filter fun c => c.bK != n.fId } := h.slot (Nat.le_trans (List.length_filter_le _ _) k2)
 obtain ⟨d, hd⟩ := E6 h (by omega) (cm s x.bE).bW (Ue (cm s x.bE).cf x.bI)
 obtain ⟨m, hm⟩ := BE h (by omega) (cm s x.bE).bW n.bc (cm s x.bE).dw
 obtain ⟨o, ho⟩ := BJ h (by omega) (cm s x.bE).bW ha.queue n.bc (Ue (cm s x.bE).cf x.bI).cT
 obtain ⟨g, hg, hg2, hg3⟩ := yU hn hB n ha (Ue (cm s x.bE).cf x.bI)
 unfold rq
 simp only [d7 s x.bE (show s.ao.length ≤ 1000000 by omega), R6 (cm s x.bE).cf x.bI (show (cm s x.bE).cf.length ≤ 1000000 by omega), fg, hd, hm, ho, E8, kg, vN s n.fId (show s.aY.length ≤ 1000000 by omega), wQ s n.fId (show s.aq.length ≤ 1000000 by omega) (show s.ac.length ≤ 1000000 by omega), orB, d6, zb]
 split
 ·exact ⟨_, rfl, ⟨hn.mono (by omega), hs⟩, fun _ => hn⟩
 split
 ·exact ⟨_, rfl, ⟨h2, hs⟩, fun _ => h⟩
 ·rw [hg]
  exact ⟨_, rfl, ⟨hg2, hg3 hs⟩, fun e => by cases e⟩
theorem O9 {B : Nat} {s : aa} (h : SzS B s) (hs : kA aB.fId s.ao) (hB : B + 6 ≤ 1000000) (id : Int) : ∃ r, u9 s id = some r ∧ zA (B + 4) r.1 := by
 have k1 := h.nodes.1; have k2 := h.slots
 have two : ∀ (t : aa), zA B t → ∃ r, (Option.bind (eb t (dv s id) true) fun c7 => if (c7.2.1 != 0) = true then some (c7.1, c7.2.1, c7.2.2) else Option.bind (eb c7.1 (dv s id) false) fun c8 => some c8) = some r ∧ zA (B + 4) r.1 := fun t ⟨t1, t2⟩ => by
  obtain ⟨u, u1, ⟨u2, u3⟩, _⟩ := yT t1 t2 (by omega) (dv s id) true
  rw [u1]
  simp only [zb]
  split
  ·exact ⟨_, rfl, u2.mono (by omega), u3⟩
  ·obtain ⟨v, v1, ⟨v2, v3⟩, _⟩ := yT u2 u3 (by omega) (dv s id) false
   rw [v1]
   exact ⟨_, rfl, v2.mono (by omega), v3⟩
 obtain ⟨c, hc⟩ := Mm s id (by omega)
 unfold u9
 simp only [ke s id (show s.aq.length ≤ 1000000 by omega), orB, hc, zb]
 split
 ·exact ⟨_, rfl, h.mono (by omega), hs⟩
 split
 ·obtain ⟨k, k1, k2, _⟩ := Mp h hs (by omega) (dv s id) c.1
  rw [k1]
  simp only [zb]
  split
  ·exact ⟨_, rfl, k2.mono (by omega)⟩
  ·exact two _ k2
 ·exact two _ ⟨h.mono (by omega), hs⟩
theorem Mu {B : Nat} {s : aa} (h : SzS B s) (hs : kA aB.fId s.ao) (hB : B + 100 ≤ 1000000) (id : Int) : ∃ r, pB s id = some r ∧ zA (B + 24) r.1 ∧ r.2.length ≤ 3 := by
 unfold pB
 dsimp only
 obtain ⟨r, r1, r2⟩ := aH (f := iW id) (fun st => ∃ k : Nat, st.2.2 = (k : Int) ∧ k ≤ 3 ∧ st.2.1.length = k ∧ SzS (B + 6 * k) st.1 ∧ kA aB.fId st.1.ao) (fun st => 3 - st.2.2.toNat) (fun r => zA (B + 24) r.1 ∧ r.2.1.length ≤ 3) (fun st ⟨k, h1, h2, h3, h4, h5⟩ => by
  unfold iW
  simp only [h1]
  by_cases hlt : k < 3
  ·have hd : decide ((k : Int) < 3) = true := by simp; omega
   obtain ⟨c, c1, c2, c3⟩ := O9 h4 h5 (by omega) id
   simp only [hd, if_true, c1, zb]
   split
   ·exact .inr ⟨_, rfl, ⟨c2.mono (by omega), c3⟩, by show st.2.1.length ≤ 3; omega⟩
   ·rw [aD (by simp; omega)]
    simp only [zb, bj hlt (show 3 ≤ 1000000 by omega)]
    exact .inl ⟨_, rfl, ⟨k + 1, rfl, hlt, by simp; omega, c2.mono (by omega), c3⟩, by simp only [zt]; omega⟩
  ·have hd : decide ((k : Int) < 3) = false := by simp; omega
   simp only [hd, zf, if_false]
   exact .inr ⟨_, rfl, ⟨h4.mono (by omega), h5⟩, by show st.2.1.length ≤ 3; omega⟩) ab (s, [], 0) ⟨0, rfl, by omega, rfl, h.mono (by omega), hs⟩ (by show 3 - (0 : Int).toNat < ab; unfold ab; omega)
 rw [r1]
 exact ⟨_, rfl, r2⟩
theorem mr {σ τ : Type} {f : σ → Option (σ ⊕ τ)} (I : σ → Prop) (Q : τ → Prop) (step : ∀ s r, I s → f s = some r → match r with | .inl s' => I s' | .inr t => Q t) : ∀ (n : Nat) (s : σ) (t : τ), I s → ah f n s = some t → Q t
 | 0, s, t, _, h => by cases h
 | n + 1, s, t, hi, h => by
  simp only [ah] at h
  cases hf : f s with
  | none => rw [hf] at h; cases h
  | some r =>
   have := step s r hi hf
   rw [hf] at h
   cases r with
   | inl s' => exact mr I Q step n s' t this h
   | inr t' => injection h with h; subst h; exact this
theorem yd {α : Type} {l m z : List α} (h : aU l m = some z) : z.length = l.length + m.length ∧ z = l ++ m := by
 unfold aU at h
 split at h
 ·injection h with h; subst h; simp
 ·cases h
theorem vS {s t : aa} {a : aB} (h : eH s a = some t) : t.ac = s.ac := by
 unfold eH at h
 dsimp only at h
 obtain ⟨_, _, h⟩ := bm h
 obtain ⟨_, _, h⟩ := bm h
 obtain ⟨_, _, h⟩ := bm h
 obtain ⟨_, _, h⟩ := bm h
 obtain ⟨_, _, h⟩ := bm h
 obtain ⟨_, _, h⟩ := bm h
 obtain ⟨_, _, h⟩ := bm h
 obtain ⟨_, _, h⟩ := bm h
 injection h with h
 subst h
 rfl
theorem rt {s t : aa} {n : Int} (h : fu s n = some t) : t.ac = s.ac := by
 unfold fu at h
 dsimp only at h
 obtain ⟨_, _, h⟩ := bm h
 injection h with h
 subst h
 rfl
theorem E2 {s t : aa} {x : bu} (h : rr s x = some t) : t.ac = s.ac := by
 unfold rr at h
 dsimp only at h
 obtain ⟨_, _, h⟩ := bm h
 obtain ⟨_, _, h⟩ := bm h
 obtain ⟨_, _, h⟩ := bm h
 obtain ⟨_, _, h⟩ := bm h
 obtain ⟨_, _, h⟩ := bm h
 obtain ⟨_, _, h⟩ := bm h
 injection h with h
 subst h
 rfl
theorem KW {α : Type} {l a b : List α} {k : Int} (h1 : hiO l k = some a) (h2 : loO l k = some b) : a.length + b.length = l.length := by
 unfold hiO at h1
 unfold loO at h2
 by_cases hc : 0 ≤ k ∧ k.toNat ≤ l.length
 ·rw [if_pos hc] at h1 h2
  injection h1 with h1
  injection h2 with h2
  subst h1 h2
  rw [List.length_take, List.length_drop]
  omega
 ·rw [if_neg hc] at h1
  cases h1
theorem sK {s : aa} {n : aM} {a : aB} {x : aO} {r : aa × al} (h : mF s n a x = some r) : r.1.ac.length ≤ s.ac.length + 1 := by
 unfold mF at h
 dsimp only at h
 obtain ⟨_, _, h⟩ := bm h
 obtain ⟨_, _, h⟩ := bm h
 obtain ⟨_, _, h⟩ := bm h
 obtain ⟨b12, h12, h⟩ := bm h
 obtain ⟨b13, h13, h⟩ := bm h
 obtain ⟨b14, h14, h⟩ := bm h
 obtain ⟨b15, h15, h⟩ := bm h
 obtain ⟨b16, h16, h⟩ := bm h
 obtain ⟨c17, h17, h⟩ := bm h
 injection h with h
 subst h
 have e := vS h17
 have k1 := KW h12 h15
 have k2 := (yd h13).1
 have k3 := (yd h14).1
 have k4 := (yd h16).1
 show c17.ac.length ≤ _
 rw [e]
 show b16.length ≤ _
 simp only [List.length_nil, List.length_singleton] at k2 k3
 omega
theorem FY {s : aa} {n : aM} {a : aB} {x : aO} {f : Bool} {r : aa × Int × al} (h : u7 s n a x f = some r) : r.1.ac.length ≤ s.ac.length + 1 ∧ (r.2.1 = 0 → r.1.ac.length ≤ s.ac.length) := by
 unfold u7 at h
 dsimp only at h
 obtain ⟨_, _, h⟩ := bm h
 obtain ⟨_, _, h⟩ := bm h
 obtain ⟨_, _, h⟩ := bm h
 obtain ⟨_, _, h⟩ := bm h
 split at h
 ·injection h with h; subst h; exact ⟨Nat.le_succ _, fun _ => Nat.le_refl _⟩
 obtain ⟨_, _, h⟩ := bm h
 split at h
 ·obtain ⟨⟨a2, s2⟩, h1, h⟩ := bm h
  injection h with h
  subst h
  have : s2.ac = s.ac := by
   split at h1
   ·obtain ⟨_, _, h1⟩ := bm h1
    obtain ⟨c, h2, h1⟩ := bm h1
    injection h1 with h1
    injection h1 with _ h1
    subst h1
    exact vS h2
   ·injection h1 with h1
    injection h1 with _ h1
    subst h1
    rfl
  show s2.ac.length ≤ _ ∧ (_ → s2.ac.length ≤ _)
  rw [this]
  exact ⟨Nat.le_succ _, fun _ => Nat.le_refl _⟩
 obtain ⟨_, _, h⟩ := bm h
 split at h
 ·injection h with h; subst h; exact ⟨Nat.le_succ _, fun _ => Nat.le_refl _⟩
 obtain ⟨_, _, h⟩ := bm h
 obtain ⟨_, _, h⟩ := bm h
 split at h
 ·obtain ⟨g, h1, h⟩ := bm h
  injection h with h
  subst h
  exact ⟨sK h1, fun e => absurd (show (1 : Int) = 0 from e) (by decide)⟩
 obtain ⟨_, _, h⟩ := bm h
 split at h
 ·obtain ⟨g, h1, h⟩ := bm h
  injection h with h
  subst h
  show g.ac.length ≤ _ ∧ (_ → g.ac.length ≤ _)
  rw [E2 h1]
  exact ⟨Nat.le_succ _, fun _ => Nat.le_refl _⟩
 ·injection h with h; subst h; exact ⟨Nat.le_succ _, fun _ => Nat.le_refl _⟩
def Gr (s : aa) (r : (aa × Int) ⊕ (aa × Int × al)) : Prop := match r with | .inl m => m.1.ac.length ≤ s.ac.length | .inr m => m.1.ac.length ≤ s.ac.length + 1
theorem Iq {s0 : aa} {a : aB} {j : Int} {ids : List Int} {n : aM} {f : Bool} {k : Nat} {st : aa × Int} {r : (aa × Int) ⊕ (aa × Int × al)} (hst : st.1.ac.length ≤ s0.ac.length) (h : ah (g6 a j ids n f) k st = some r) : Gr s0 r := by
 refine mr (fun st => st.1.ac.length ≤ s0.ac.length) (Gr s0) (fun st r hi h => ?_) k st r hst h
 unfold g6 at h
 dsimp only at h
 split at h
 ·obtain ⟨_, _, h⟩ := bm h
  obtain ⟨_, _, h⟩ := bm h
  obtain ⟨_, _, h⟩ := bm h
  obtain ⟨c, hc, h⟩ := bm h
  have hk := FY hc
  split at h
  ·injection h with h
   subst h
   exact Nat.le_trans hk.1 (Nat.succ_le_succ hi)
  ·rename_i hz
   injection h with h
   subst h
   exact Nat.le_trans (hk.2 (by simpa using hz)) hi
 ·injection h with h
  subst h
  exact hi
theorem Ir {s0 : aa} {ids : List Int} {i : Int} {lv : List ByteArray} {n : aM} {f : Bool} {k : Nat} {st : aa × Int} {r : (aa × Int) ⊕ (aa × Int × al)} (hst : st.1.ac.length ≤ s0.ac.length) (h : ah (g7 ids i lv n f) k st = some r) : Gr s0 r := by
 refine mr (fun st => st.1.ac.length ≤ s0.ac.length) (Gr s0) (fun st r hi h => ?_) k st r hst h
 unfold g7 at h
 dsimp only at h
 split at h
 ·obtain ⟨_, _, h⟩ := bm h
  obtain ⟨_, _, h⟩ := bm h
  obtain ⟨_, _, h⟩ := bm h
  obtain ⟨_, _, h⟩ := bm h
  split at h
  ·injection h with h
   subst h
   exact hi
  ·obtain ⟨m, hm, h⟩ := bm h
   have hg := Iq (s0 := s0) (st := (st.1, 0)) hi hm
   cases m with
   | inr m => injection h with h; subst h; exact hg
   | inl m => injection h with h; subst h; exact hg
 ·injection h with h
  subst h
  exact hi
theorem sJ {s : aa} {n : aM} {f : Bool} {r : aa × Int × al} (h : eb s n f = some r) : r.1.ac.length ≤ s.ac.length + 1 := by
 unfold eb at h
 dsimp only at h
 obtain ⟨lv, _, h⟩ := bm h
 obtain ⟨m, hm, h⟩ := bm h
 have hg : Gr s m := by
  refine mr (f := g8 lv n f) (fun st => st.1.ac.length ≤ s.ac.length) (Gr s) (fun st r hi h => ?_) _ (s, 0) m (Nat.le_refl _) hm
  unfold g8 at h
  dsimp only at h
  split at h
  ·obtain ⟨_, _, h⟩ := bm h
   obtain ⟨_, _, h⟩ := bm h
   obtain ⟨m, hm, h⟩ := bm h
   have hg := Ir (s0 := s) (st := (st.1, 0)) hi hm
   cases m with
   | inr m => injection h with h; subst h; exact hg
   | inl m => injection h with h; subst h; exact hg
  ·injection h with h
   subst h
   exact hi
 cases m with
 | inr m => injection h with h; subst h; exact hg
 | inl m => injection h with h; subst h; exact Nat.le_succ_of_le hg
theorem E0 {s : aa} {n : aM} {x : bu} {r : aa × Int × al × Bool} (h : rq s n x = some r) : r.1.ac.length ≤ s.ac.length + 1 := by
 unfold rq at h
 dsimp only at h
 obtain ⟨_, _, h⟩ := bm h
 obtain ⟨_, _, h⟩ := bm h
 obtain ⟨_, _, h⟩ := bm h
 obtain ⟨_, _, h⟩ := bm h
 obtain ⟨_, _, h⟩ := bm h
 obtain ⟨_, _, h⟩ := bm h
 obtain ⟨_, _, h⟩ := bm h
 obtain ⟨_, _, h⟩ := bm h
 split at h
 ·obtain ⟨c, hc, h⟩ := bm h
  injection h with h
  subst h
  show c.ac.length ≤ _
  rw [rt hc]
  exact Nat.le_succ _
 ·obtain ⟨_, _, h⟩ := bm h
  obtain ⟨_, _, h⟩ := bm h
  obtain ⟨_, _, h⟩ := bm h
  split at h
  ·injection h with h
   subst h
   exact Nat.le_succ _
  ·obtain ⟨c, hc, h⟩ := bm h
   obtain ⟨g, hg, h⟩ := bm h
   injection h with h
   subst h
   have := sK hg
   rw [rt hc] at this
   exact this
theorem F3 {s : aa} {id : Int} {r : aa × Int × al} (h : u9 s id = some r) : r.1.ac.length ≤ s.ac.length + 3 := by
 unfold u9 at h
 dsimp only at h
 obtain ⟨nd, _, h⟩ := bm h
 obtain ⟨_, _, h⟩ := bm h
 obtain ⟨_, _, h⟩ := bm h
 obtain ⟨_, _, h⟩ := bm h
 have two : ∀ {t : aa} {n : aM}, (Option.bind (eb t n true) fun c7 => if (c7.2.1 != 0) = true then some (c7.1, c7.2.1, c7.2.2) else Option.bind (eb c7.1 n false) fun c8 => some c8) = some r → r.1.ac.length ≤ t.ac.length + 2 := by
  intro t n h
  obtain ⟨c, hc, h⟩ := bm h
  have k1 := sJ hc
  split at h
  ·injection h with h
   subst h
   exact Nat.le_succ_of_le k1
  ·obtain ⟨d, hd, h⟩ := bm h
   injection h with h
   subst h
   have k2 := sJ hd
   omega
 split at h
 ·injection h with h
  subst h
  exact Nat.le_add_right _ _
 obtain ⟨c, hc, h⟩ := bm h
 split at h
 ·obtain ⟨k, hk, h⟩ := bm h
  have k1 := E0 hk
  split at h
  ·injection h with h
   subst h
   exact Nat.le_trans k1 (by omega)
  ·have := two h
   omega
 ·have := two h
  omega
theorem E7 {s : aa} {id : Int} {r : aa × List al} (h : pB s id = some r) : r.1.ac.length ≤ s.ac.length + 9 := by
 unfold pB at h
 dsimp only at h
 obtain ⟨m, hm, h⟩ := bm h
 injection h with h
 subst h
 refine mr (f := iW id) (fun st => ∃ k : Nat, st.2.2 = (k : Int) ∧ k ≤ 3 ∧ st.1.ac.length ≤ s.ac.length + 3 * k) (fun q => q.1.ac.length ≤ s.ac.length + 9) (fun st r ⟨k, h1, h2, h3⟩ h => ?_) _ (s, [], 0) m ⟨0, rfl, by omega, by simp⟩ hm
 unfold iW at h
 dsimp only at h
 split at h
 ·rename_i hlt
  rw [h1] at hlt
  have hlt : k < 3 := by have := zd hlt; omega
  obtain ⟨c, hc, h⟩ := bm h
  have k1 := F3 hc
  split at h
  ·injection h with h
   subst h
   show c.1.ac.length ≤ _
   omega
  ·obtain ⟨l, hl, h⟩ := bm h
   injection h with h
   subst h
   refine ⟨k + 1, ?_, hlt, ?_⟩
   ·show i64.wrap (st.2.2 + 1) = _
    rw [h1, bj hlt (show 3 ≤ 1000000 by omega)]
   ·show c.1.ac.length ≤ _
    omega
 ·injection h with h
  subst h
  show st.1.ac.length ≤ _
  omega
def SzM (M : Nat) (s : aa) : Prop := ∃ B, SzS B s ∧ B + s.ac.length ≤ M
theorem SzM.mono {M N : Nat} {s : aa} (h : SzM M s) (hn : M ≤ N) : SzM N s := by
 obtain ⟨B, h1, h2⟩ := h
 exact ⟨B, h1, by omega⟩
theorem SzM.sz {M : Nat} {s : aa} (h : SzM M s) : SzS M s := by
 obtain ⟨B, h1, h2⟩ := h
 exact h1.mono (by omega)
theorem XL {s : aa} {id : Int} (h : KU s id = true) : lZ s id ∈ s.ac ∧ (lZ s id).fId = id := by
 unfold KU at h
 rw [List.any_eq_true] at h
 obtain ⟨x, hx, e⟩ := h
 unfold lZ
 cases hf : s.ac.find? fun c => c.fId == id with
 | none => have := List.find?_eq_none.1 hf x hx; exact absurd e (by simpa using this)
 | some a => exact ⟨List.mem_of_find?_eq_some hf, by simpa using List.find?_some hf⟩
theorem Bl {α : Type} {p : α → Bool} {l : List α} {x : α} (hx : x ∈ l) (hp : p x = false) : (l.filter p).length < l.length :=
 List.length_filter_lt_length_iff_exists.2 ⟨x, hx, by rw [hp]; simp⟩
theorem SzS.putE {B : Nat} {s : aa} (h : SzS B s) {a : aB} (ha : SzA (B + 1) a) {c : List al} {l : List bu} (hc : c.length ≤ B + 1) (hl : l.length ≤ B + 1) : SzS (B + 1) { s with ao := dZ aB.fId s.ao a, ac := c, aY := l } := by
 have k := h.put ha
 exact ⟨k.conf, k.nodes, k.apps, hc, hl, k.plans, k.app⟩
theorem Fh {M : Nat} {s : aa} (h : SzM M s) (hs : kA aB.fId s.ao) (ids : List Int) (hI : ids.length ≤ 1000000) (hM : M + 1 ≤ 1000000) : ∃ r, i7 s ids = some r ∧ SzM M r ∧ kA aB.fId r.ao ∧ r.ac.length ≤ s.ac.length := by
 unfold i7
 dsimp only
 rw [zj ids s hI]
 obtain ⟨r, h1, h2⟩ := aR (g := gr ids) (fin := fun b => (b, (ids.length : Int))) (fun _ b => SzM M b ∧ kA aB.fId b.ao ∧ b.ac.length ≤ s.ac.length) (fun r => SzM M r.1 ∧ kA aB.fId r.1.ao ∧ r.1.ac.length ≤ s.ac.length) ids 0 s (fun j t x hx ⟨ht, hsr, hle⟩ => by
  obtain ⟨B, ht0, hB⟩ := ht
  have k1 := ht0.apps; have k2 := ht0.conts; have k3 := ht0.slots
  have stay : SzM M t ∧ kA aB.fId t.ao ∧ t.ac.length ≤ s.ac.length := ⟨⟨B, ht0, hB⟩, hsr, hle⟩
  unfold gr
  dsimp only
  rw [kw t x (by omega)]
  simp only [zb]
  split
  ·exact ⟨_, rfl, fun a' e => by injection e with e; subst e; exact stay, fun r e => by cases e⟩
  rename_i hnot
  have hct : KU t x = true := by simpa using hnot
  obtain ⟨hm, hid⟩ := XL hct
  rw [d7 t _ (by omega)]
  simp only [zb]
  have hB1 : B + 1 ≤ 1000000 := by omega
  have ha := (ht0.get (lZ t x).bE).mono (Nat.le_succ _)
  split
  ·rw [zi]
   simp only [zb]
   rw [kj t _ (by omega)]
   simp only [zb]
   rw [BK _ _ (by show t.ac.length ≤ _; omega) (by show t.aY.length ≤ _; omega)]
   simp only [zb]
   refine ⟨_, rfl, fun a' e => ?_, fun r e => by cases e⟩
   injection e with e
   subst e
   have hlt := Bl (p := fun c : al => !(c.bE == (lZ t x).bE)) hm (by simp)
   refine ⟨⟨B + 1, ht0.putE ?_ (Nat.le_trans (List.length_filter_le _ _) (by show t.ac.length ≤ _; omega)) (Nat.le_trans (List.length_filter_le _ _) (by show t.aY.length ≤ _; omega)), ?_⟩, iG _ _ _ hsr, ?_⟩
   ·exact ⟨ha.queue, by simp, Nat.zero_le _, Nat.zero_le _, Nat.zero_le _, Nat.zero_le _⟩
   ·show B + 1 + (List.filter _ t.ac).length ≤ M
    omega
   ·show (List.filter _ t.ac).length ≤ _
    omega
  ·rw [BM t _ (by omega)]
   have hg := ht0.get (lZ t x).bE
   have h5 := hg.grants; have h6 := hg.kills
   simp only [zb]
   rw [un _ _ (by omega)]
   simp only [zb]
   have hlt := Bl (p := fun c : al => c.fId != (lZ t x).fId) hm (by simp)
   have hf := List.length_filter_le (fun c => c != (lZ t x).fId) (cm t (lZ t x).bE).cA
   have fin : ∀ a : aB, SzA (B + 1) a → ∃ r, Option.bind (eH { t with ac := t.ac.filter fun c => c.fId != (lZ t x).fId } a) (fun c => some (Sum.inl c : aa ⊕ (aa × Int))) = some r ∧ (∀ a', r = .inl a' → SzM M a' ∧ kA aB.fId a'.ao ∧ a'.ac.length ≤ s.ac.length) ∧ ∀ q, r = .inr q → SzM M q.1 ∧ kA aB.fId q.1.ao ∧ q.1.ac.length ≤ s.ac.length := by
    intro a hsa
    rw [kj _ _ (by show t.ao.length + 1 ≤ _; omega)]
    refine ⟨_, rfl, fun a' e => ?_, fun r e => by cases e⟩
    injection e with e
    subst e
    refine ⟨⟨B + 1, ht0.putE (c := t.ac.filter fun c => c.fId != (lZ t x).fId) (l := t.aY) hsa (Nat.le_trans (List.length_filter_le _ _) (by omega)) (by omega), ?_⟩, iG _ _ _ hsr, ?_⟩
    ·show B + 1 + (List.filter _ t.ac).length ≤ M
     omega
    ·show (List.filter _ t.ac).length ≤ _
     omega
   split
   ·rw [aD (by simp; omega)]
    simp only [zb, List.nil_append]
    rw [aD (by simp; omega)]
    simp only [zb]
    refine fin _ ?_
    exact ⟨ha.queue, ha.asks, by show (List.filter _ _).length ≤ _; omega, by show (_ ++ [_]).length ≤ _; simp; omega, ha.told, ha.lost⟩
   ·simp only [zb]
    refine fin _ ?_
    exact ⟨ha.queue, ha.asks, by show (List.filter _ _).length ≤ _; omega, ha.kills, ha.told, ha.lost⟩) (fun b hb => hb) ⟨h, hs, Nat.le_refl _⟩
 rw [h1]
 exact ⟨_, rfl, h2⟩
def eZ (v_s : aa) (av : ByteArray) (af : Int) (bZ : Int) (l8 : Int) (st : Unit) (x_ : aB) : Option ((Unit) ⊕ ((Int) ⊕ (Int))) :=
let v_a : aB := x_
let v_k : Int := 0
(ah (jO v_a av v_s af bZ l8) ab v_k).bind fun r15 => match r15 with
| .inr m16 => some (.inr (.inr m16))
| .inl m16 =>
let v_k := m16
some (.inl ())
theorem wW (v_s : aa) (av : ByteArray) (af : Int) (bZ : Int) (l8 : Int) (a_ : Unit) (hl : v_s.ao.length ≤ 1000000) : ah (jP v_s av af bZ l8) ab (0) = bk (eZ v_s av af bZ l8) (fun a_ => (.inl ((v_s.ao.length : Int)))) a_ v_s.ao :=
 ay v_s.ao (S := Int) (fun a_ k_ => (k_)) (eZ v_s av af bZ l8) (fun a_ => (.inl ((v_s.ao.length : Int)))) (am hl) (fun k a x hx => by
  unfold jP eZ; exact bG)
  (fun a => by unfold jP; exact cK) a_
def lm (v_l : (List Int)) (v_n : Int) (st : Unit) (x_ : Int) : Option ((Unit) ⊕ ((Int) ⊕ (Bool))) :=
if (x_ == v_n) = true then
some (.inr (.inr true))
else
some (.inl ())
theorem B8 (v_l : (List Int)) (v_n : Int) (a_ : Unit) (hl : v_l.length ≤ 1000000) : ah (ow v_l v_n) ab (0) = bk (lm v_l v_n) (fun a_ => (.inl ((v_l.length : Int)))) a_ v_l :=
 ay v_l (S := Int) (fun a_ k_ => (k_)) (lm v_l v_n) (fun a_ => (.inl ((v_l.length : Int)))) (am hl) (fun k a x hx => by
  unfold ow lm; exact bG)
  (fun a => by unfold ow; exact cK) a_
def eu (v_s : aa) (af : Int) (av : ByteArray) (v_l : (List Int)) (st : Int) (x_ : al) : Option ((Int) ⊕ ((Int × Int))) :=
let v_n := st
let v_c : al := x_
(if (v_c.bc == af) = true then (if (av.toList == (⟨#[]⟩ : ByteArray).toList) = true then some true else (iU v_s v_c).bind fun c8 => some (c8.toList == av.toList)).bind fun q9 => some q9 else some false).bind fun q10 => (if q10 = true then (if (v_c.kW != 0) = true then some true else (wY v_l v_c.fId).bind fun c11 => some c11).bind fun q12 => some q12 else some false).bind fun q13 => if q13 = true then
let v_n : Int := (i64.wrap (v_n + v_c.cT.bA))
some (.inl v_n)
else
some (.inl v_n)
theorem vu (v_s : aa) (af : Int) (av : ByteArray) (v_l : (List Int)) (a_ : Int) (hl : v_s.ac.length ≤ 1000000) : ah (jm v_s af av v_l) ab (a_, (0)) = bk (eu v_s af av v_l) (fun a_ => (a_, ((v_s.ac.length : Int)))) a_ v_s.ac :=
 ay v_s.ac (S := Int × Int) (fun a_ k_ => (a_, (k_))) (eu v_s af av v_l) (fun a_ => (a_, ((v_s.ac.length : Int)))) (am hl) (fun k a x hx => by
  unfold jm eu; exact bG)
  (fun a => by unfold jm; exact cK) a_
def er (v_s : aa) (af : Int) (av : ByteArray) (v_l : (List Int)) (st : al × Bool) (x_ : al) : Option ((al × Bool) ⊕ ((al × Bool × Int))) :=
let cQ := st.1
let bS := st.2
let v_c : al := x_
(if (v_c.bc != af) = true then some true else (iU v_s v_c).bind fun c15 => some (!(c15.toList == av.toList))).bind fun q16 => (if q16 = true then some true else some (v_c.kW != 0)).bind fun q17 => (if q17 = true then some true else (wY v_l v_c.fId).bind fun c18 => some c18).bind fun q19 => if q19 = true then
some (.inl (cQ, bS))
else
(if (!bS) = true then some true else (if cQ.bU = true then some (!v_c.bU) else some false).bind fun q20 => some q20).bind fun q21 => (if q21 = true then some true else (if (cQ.bU == v_c.bU) = true then some (decide (v_c.fId > cQ.fId)) else some false).bind fun q22 => some q22).bind fun q23 => if q23 = true then
let t24 : al := v_c
let t25 : Bool := true
let cQ : al := t24
let bS : Bool := t25
some (.inl (cQ, bS))
else
some (.inl (cQ, bS))
theorem vt (v_s : aa) (af : Int) (av : ByteArray) (v_l : (List Int)) (a_ : al × Bool) (hl : v_s.ac.length ≤ 1000000) : ah (jl v_s af av v_l) ab (a_.1, a_.2, (0)) = bk (er v_s af av v_l) (fun a_ => (a_.1, a_.2, ((v_s.ac.length : Int)))) a_ v_s.ac :=
 ay v_s.ac (S := al × Bool × Int) (fun a_ k_ => (a_.1, a_.2, (k_))) (er v_s af av v_l) (fun a_ => (a_.1, a_.2, ((v_s.ac.length : Int)))) (am hl) (fun k a x hx => by
  unfold jl er; exact bG)
  (fun a => by unfold jl; exact cK) a_
def f4 (bM : (List ai)) (v_s : aa) (af : Int) (st : Int) (x_ : ai) : Option ((Int) ⊕ ((Int × Int))) :=
let kF := st
(rn v_s x_.aI af).bind fun c6 => let kF : Int := (i64.wrap (kF + c6))
some (.inl kF)
theorem yJ (bM : (List ai)) (v_s : aa) (af : Int) (a_ : Int) (hl : bM.length ≤ 1000000) : ah (lq bM v_s af) ab (a_, (0)) = bk (f4 bM v_s af) (fun a_ => (a_, ((bM.length : Int)))) a_ bM :=
 ay bM (S := Int × Int) (fun a_ k_ => (a_, (k_))) (f4 bM v_s af) (fun a_ => (a_, ((bM.length : Int)))) (am hl) (fun k a x hx => by
  unfold lq f4; exact bG)
  (fun a => by unfold lq; exact cK) a_
def fZ (bM : (List ai)) (v_s : aa) (af : Int) (v_l : (List Int)) (st : Int × al) (x_ : ai) : Option ((Int × al) ⊕ ((Int × al × Int))) :=
let cp := st.1
let v_x := st.2
let v_p : ByteArray := x_.aI
(ez v_s v_p af).bind fun c18 => (mE v_s v_p af v_l).bind fun c19 => let CR : Int := (i64.wrap ((i64.wrap (c18.bA - x_.bA)) - c19))
(pv v_s v_p af v_l).bind fun c20 => let v_c : al := c20.1
let bS : Bool := c20.2
(if bS = true then some (decide (CR > cp)) else some false).bind fun q21 => if q21 = true then
let t22 : Int := CR
let t23 : al := v_c
let cp : Int := t22
let v_x : al := t23
some (.inl (cp, v_x))
else
some (.inl (cp, v_x))
theorem yI (bM : (List ai)) (v_s : aa) (af : Int) (v_l : (List Int)) (a_ : Int × al) (hl : bM.length ≤ 1000000) : ah (ln bM v_s af v_l) ab (a_.1, a_.2, (0)) = bk (fZ bM v_s af v_l) (fun a_ => (a_.1, a_.2, ((bM.length : Int)))) a_ bM :=
 ay bM (S := Int × al × Int) (fun a_ k_ => (a_.1, a_.2, (k_))) (fZ bM v_s af v_l) (fun a_ => (a_.1, a_.2, ((bM.length : Int)))) (am hl) (fun k a x hx => by
  unfold ln fZ; exact bG)
  (fun a => by unfold ln; exact cK) a_
def f6 (kE : aa) (xn : aa) (st : (List Int)) (x_ : al) : Option (((List Int)) ⊕ (((List Int) × Int))) :=
let v_l := st
(eG xn x_.fId).bind fun c5 => let bS : Bool := c5.2
if (!bS) = true then
(aU v_l [x_.fId]).bind fun b6 => let v_l : (List Int) := b6
some (.inl v_l)
else
some (.inl v_l)
theorem yL (kE : aa) (xn : aa) (a_ : (List Int)) (hl : kE.ac.length ≤ 1000000) : ah (lr kE xn) ab (a_, (0)) = bk (f6 kE xn) (fun a_ => (a_, ((kE.ac.length : Int)))) a_ kE.ac :=
 ay kE.ac (S := (List Int) × Int) (fun a_ k_ => (a_, (k_))) (f6 kE xn) (fun a_ => (a_, ((kE.ac.length : Int)))) (am hl) (fun k a x hx => by
  unfold lr f6; exact bG)
  (fun a => by unfold lr; exact cK) a_
def fY (v_l : (List al)) (af : Int) (st : aa) (x_ : al) : Option ((aa) ⊕ ((aa × Int))) :=
let v_s := st
(eG v_s x_.fId).bind fun c15 => let wa : al := c15.1
let bS : Bool := c15.2
if (!bS) = true then
some (.inl v_s)
else
(iU v_s wa).bind fun c16 => (ez v_s c16 af).bind fun c17 => (pq v_s wa).bind fun c18 => (iU v_s wa).bind fun c19 => (yM v_s af c19).bind fun c20 => if (decide ((i64.wrap (c17.bA - c18)) > c20)) = true then
(i7 v_s ([wa.fId] : (List Int))).bind fun c21 => let v_s : aa := c21
some (.inl v_s)
else
(nB v_s wa.fId 0).bind fun c22 => let v_s : aa := c22
some (.inl v_s)
theorem yG (v_l : (List al)) (af : Int) (a_ : aa) (hl : v_l.length ≤ 1000000) : ah (lj v_l af) ab (a_, (0)) = bk (fY v_l af) (fun a_ => (a_, ((v_l.length : Int)))) a_ v_l :=
 ay v_l (S := aa × Int) (fun a_ k_ => (a_, (k_))) (fY v_l af) (fun a_ => (a_, ((v_l.length : Int)))) (am hl) (fun k a x hx => by
  unfold lj fY; exact bG)
  (fun a => by unfold lj; exact cK) a_
def fa (v_l : (List Int)) (st : aa) (x_ : Int) : Option ((aa) ⊕ ((aa × Int))) :=
let v_s := st
(nB v_s x_ (if 1 > v_s.bR then 1 else v_s.bR)).bind fun c5 => let v_s : aa := c5
some (.inl v_s)
theorem wZ (v_l : (List Int)) (a_ : aa) (hl : v_l.length ≤ 1000000) : ah (jQ v_l) ab (a_, (0)) = bk (fa v_l) (fun a_ => (a_, ((v_l.length : Int)))) a_ v_l :=
 ay v_l (S := aa × Int) (fun a_ k_ => (a_, (k_))) (fa v_l) (fun a_ => (a_, ((v_l.length : Int)))) (am hl) (fun k a x hx => by
  unfold jQ fa; exact bG)
  (fun a => by unfold jQ; exact cK) a_
def ew (v_l : (List ai)) (st : (List ai)) (v_i : Int) (x_ : ai) : Option (((List ai)) ⊕ (((List ai) × Int))) :=
let aj := st
let v_k : Int := 0
(ah (f8 aj v_i v_l) ab v_k).bind fun r13 =>
let v_k := r13
(hiO aj v_k).bind fun b14 => (aU ([] : (List ai)) b14).bind fun b15 => let v_x : (List ai) := b15
(aU v_x [x_]).bind fun b16 => let v_x : (List ai) := b16
(loO aj v_k).bind fun b17 => (aU v_x b17).bind fun b18 => let aj : (List ai) := b18
some (.inl aj)
theorem vx (v_l : (List ai)) (a_ : (List ai)) (hl : v_l.length ≤ 1000000) : ah (jn v_l) ab (a_, (0)) = nh (ew v_l) (fun a_ => (a_, ((v_l.length : Int)))) a_ 0 v_l :=
 eU v_l (S := (List ai) × Int) (fun a_ k_ => (a_, (k_))) (ew v_l) (fun a_ => (a_, ((v_l.length : Int)))) (am hl) (fun k a x hx => by
  unfold jn ew; exact bG)
  (fun a => by unfold jn; exact cK) a_
def jR (v_l : (List ai)) (av : ByteArray) (st : Unit) (x_ : ai) : Option ((Unit) ⊕ ((Int) ⊕ (Int))) :=
if (x_.aI.toList == av.toList) = true then
some (.inr (.inr x_.bA))
else
some (.inl ())
theorem AI (v_l : (List ai)) (av : ByteArray) (a_ : Unit) (hl : v_l.length ≤ 1000000) : ah (mY v_l av) ab (0) = bk (jR v_l av) (fun a_ => (.inl ((v_l.length : Int)))) a_ v_l :=
 ay v_l (S := Int) (fun a_ k_ => (k_)) (jR v_l av) (fun a_ => (.inl ((v_l.length : Int)))) (am hl) (fun k a x hx => by
  unfold mY jR; exact bG)
  (fun a => by unfold mY; exact cK) a_
def Uc (n : Int) : Int := if (decide (n < 0) || decide (n > 1125899906842624)) = true then 0 else n
theorem ua (n : Int) : lu n = some (Uc n) := by
 unfold lu Uc
 simp only [orB, zb]
 split <;> rfl
theorem JI (t : Int) (a b c : List Int) (hN : a.length ≤ 1000) (hb : b.length = a.length) (hc : c.length = a.length) : ∃ r, u4 t a b c = some r ∧ r.length = a.length := by
 have hn : (if (c.length : Int) < (if (b.length : Int) < (a.length : Int) then (b.length : Int) else (a.length : Int)) then (c.length : Int) else (if (b.length : Int) < (a.length : Int) then (b.length : Int) else (a.length : Int))) = (a.length : Int) := by
  rw [hb, hc]
  simp
 unfold u4
 simp only [hn, ua, zb]
 obtain ⟨r, e1, e2⟩ := aH (f := nW (a.length : Int) a b c) (fun st => ∃ k : Nat, st.2.2 = (k : Int) ∧ k ≤ a.length ∧ st.1.length = k) (fun st => a.length - st.2.2.toNat) (fun r => r.1.length = a.length) (fun st ⟨k, h1, h2, h3⟩ => by
  unfold nW
  simp only [h1]
  by_cases hlt : k < a.length
  ·have g1 : a[k]? = some a[k] := zq hlt
   have g2 : b[k]? = some (b[k]'(by omega)) := zq (by omega)
   have g3 : c[k]? = some (c[k]'(by omega)) := zq (by omega)
   simp only [ct g1, if_true, aK g1, aK g2, aK g3, ua, zb, bj hlt (show a.length ≤ 1000000 by omega)]
   rw [aD (by simp; omega)]
   exact .inl ⟨_, rfl, ⟨k + 1, rfl, hlt, by simp; omega⟩, by simp only [zt]; omega⟩
  ·have : k = a.length := by omega
   subst this
   simp only [ce, zf, if_false]
   exact .inr ⟨_, rfl, h3⟩) ab ([], Uc t, 0) ⟨0, rfl, Nat.zero_le _, rfl⟩ (by have := am (show a.length ≤ 1000000 by omega); omega)
 rw [e1]
 simp only [zb]
 obtain ⟨q, f1, f2⟩ := aH (f := nU (a.length : Int) b c) (fun st => ∃ k : Nat, st.2.2 = (k : Int) ∧ k ≤ a.length ∧ st.1.length = a.length) (fun st => a.length - st.2.2.toNat) (fun r => r.1.length = a.length) (fun st ⟨k, h1, h2, h3⟩ => by
  unfold nU
  simp only [h1]
  by_cases hlt : k < a.length
  ·have g1 : a[k]? = some a[k] := zq hlt
   have g2 : b[k]? = some (b[k]'(by omega)) := zq (by omega)
   have g3 : c[k]? = some (c[k]'(by omega)) := zq (by omega)
   have g4 : st.1[k]? = some (st.1[k]'(by omega)) := zq (by omega)
   simp only [ct g1, if_true, aK g2, aK g3, aK g4, ua, zb, bj hlt (show a.length ≤ 1000000 by omega), zt]
   exact .inl ⟨_, rfl, ⟨k + 1, rfl, hlt, by simp; omega⟩, by simp only [zt]; omega⟩
  ·have : k = a.length := by omega
   subst this
   simp only [ce, zf, if_false]
   exact .inr ⟨_, rfl, h3⟩) ab (r.1, r.2.1, 0) ⟨0, rfl, Nat.zero_le _, e2⟩ (by have := am (show a.length ≤ 1000000 by omega); omega)
 rw [f1]
 exact ⟨_, rfl, f2⟩
theorem BC {B : Nat} {s : aa} (h : SzS B s) (hD : Deep s.bN) (hB : B ≤ 1000000) (k : Int) : ∀ (d n : Nat) (p : ByteArray) (v : Int), 4 - dx 6 p ≤ d → d < n → d ≤ 4 → ∃ r, lw n s p k v = some r ∧ r.length ≤ 16 ^ d
 | d, 0, p, _, _, hn, _ => absurd hn (Nat.not_lt_zero _)
 | d, n + 1, p, v, hp, hn, hd => by
  obtain ⟨m, h2, h3, h4⟩ := si s.bN p h.conf.sz
  have hq := hD.few
  have k2 := h.nodes.1
  unfold lw
  simp only [h2, zb]
  split
  ·exact ⟨_, rfl, by show 1 ≤ 16 ^ d; exact Nat.one_le_pow _ _ (by omega)⟩
  ·rename_i hne
   have hm : 0 < m.length := by
    rcases Nat.eq_zero_or_pos m.length with h0 | h0
    ·rw [h0] at hne; exact absurd rfl hne
    ·exact h0
   have kid := Bv s.bN p h.conf.sz h2
   have kd : ∀ x ∈ m, dx 6 p + 1 = dx 6 x ∧ dx 6 x ≤ 4 := fun x hx => by
    obtain ⟨⟨q, hq1, hq2⟩, a1, a2⟩ := kid x hx
    subst hq2
    exact ⟨He a1 a2 (h.conf.sz.paths q hq1) (hD.deep q hq1), hD.deep q hq1⟩
   have hd0 : 0 < d := by
    obtain ⟨a1, a2⟩ := kd m[0] (List.getElem_mem hm)
    omega
   obtain ⟨d', rfl⟩ : ∃ d', d = d' + 1 := ⟨d - 1, by omega⟩
   have hpow : 16 ^ d' ≤ 16 ^ 3 := Nat.pow_le_pow_right (by omega) (by omega)
   have hm1 : m.length ≤ 1000000 := by omega
   obtain ⟨r, e1, e2⟩ := aH (f := pz (lw n) m s k) (fun st => ∃ i : Nat, st.2.2.2 = (i : Int) ∧ i ≤ m.length ∧ st.1.length = i ∧ st.2.1.length = i ∧ st.2.2.1.length = i) (fun st => m.length - st.2.2.2.toNat) (fun r => r.1.length = m.length ∧ r.2.1.length = m.length ∧ r.2.2.1.length = m.length) (fun st ⟨i, i1, i2, i3, i4, i5⟩ => by
    unfold pz
    simp only [i1]
    by_cases hlt : i < m.length
    ·have g1 : m[i]? = some m[i] := zq hlt
     obtain ⟨u, hu⟩ := ff h hB m[i] k
     obtain ⟨w, hw⟩ := uh h hB m[i] k
     simp only [ct g1, if_true, aK g1, nx s _ k h.conf (Nat.le_trans k2 hB), EL s _ k h.conf (Nat.le_trans k2 hB), hu, hw, zb, bj hlt hm1]
     rw [aD (by simp; omega)]
     simp only [zb]
     rw [aD (by simp; omega)]
     simp only [zb]
     rw [aD (by simp; omega)]
     exact .inl ⟨_, rfl, ⟨i + 1, rfl, hlt, by simp; omega, by simp; omega, by simp; omega⟩, by simp only [zt]; omega⟩
    ·have : i = m.length := by omega
     subst this
     simp only [ce, zf, if_false]
     exact .inr ⟨_, rfl, i3, i4, i5⟩) ab ([], [], [], 0) ⟨0, rfl, Nat.zero_le _, rfl, rfl, rfl⟩ (by have := am hm1; omega)
   rw [e1]
   simp only [zb]
   obtain ⟨x, x1, x2⟩ := JI v r.1 r.2.2.1 r.2.1 (by omega) (by omega) (by omega)
   rw [x1]
   simp only [zb]
   obtain ⟨q, f1, f2⟩ := aH (f := py (lw n) m s k x) (fun st => ∃ i : Nat, st.2 = (i : Int) ∧ i ≤ m.length ∧ st.1.length ≤ i * 16 ^ d') (fun st => m.length - st.2.toNat) (fun r => r.1.length ≤ m.length * 16 ^ d') (fun st ⟨i, i1, i2, i3⟩ => by
    unfold py
    simp only [i1]
    by_cases hlt : i < m.length
    ·have g1 : m[i]? = some m[i] := zq hlt
     have g2 : x[i]? = some (x[i]'(by omega)) := zq (by omega)
     obtain ⟨a1, a2⟩ := kd m[i] (List.getElem_mem hlt)
     obtain ⟨c, c1, c2⟩ := BC h hD hB k d' n m[i] (x[i]'(by omega)) (by omega) (by omega) (by omega)
     have hj2 : i * 16 ^ d' ≤ 16 * 16 ^ 3 := Nat.mul_le_mul (by omega) hpow
     simp only [ct g1, if_true, aK g1, aK g2, c1, zb, bj hlt hm1]
     rw [aD (by omega)]
     refine .inl ⟨_, rfl, ⟨i + 1, rfl, hlt, ?_⟩, by simp only [zt]; omega⟩
     show (st.1 ++ c).length ≤ _
     rw [List.length_append, Nat.succ_mul]
     omega
    ·have : i = m.length := by omega
     subst this
     simp only [ce, zf, if_false]
     exact .inr ⟨_, rfl, i3⟩) ab ([], 0) ⟨0, rfl, Nat.zero_le _, by simp⟩ (by have := am hm1; omega)
   rw [f1]
   refine ⟨_, rfl, Nat.le_trans f2 ?_⟩
   rw [Nat.pow_succ, Nat.mul_comm]
   exact Nat.mul_le_mul_left _ (by omega)
theorem vM {B : Nat} {s : aa} (h : SzS B s) (hD : Deep s.bN) (hB : B ≤ 1000000) (k : Int) : ∃ r, pA s k = some r ∧ r.length ≤ 65536 := by
 obtain ⟨l, h1, h2⟩ := BC h hD hB k 4 ab ⟨#[114, 111, 111, 116]⟩ (tQ s k).bA (by omega) (by unfold ab; omega) (by omega)
 have h2 : l.length ≤ 65536 := h2
 have k2 := h.nodes.1
 unfold pA
 simp only [nw s k (Nat.le_trans k2 hB), h1, zb]
 rw [vx l [] (by omega)]
 obtain ⟨r, e1, e2⟩ := mh (g := ew l) (fin := fun b => (b, (l.length : Int))) (fun j b => b.length ≤ j) (fun r => r.1.length ≤ l.length) l 0 [] (fun j out x hx ho => by
  have hj := (zg.1 hx).1
  obtain ⟨K, hK1, hK2⟩ := np out (by omega) (f := f8 out ((0 + j : Nat) : Int) l) (fun i y hy => by
   have hi := (zg.1 hy).1
   refine ⟨Op.bytesLess y.aI.toList x.aI.toList, ?_⟩
   unfold f8
   simp only [ct hy, if_true, aK hy, aK (show l[0 + j]? = some x by rwa [Nat.zero_add]), zb, bj hi (show out.length ≤ 1000000 by omega)]) (by unfold f8; simp only [ce, zf, if_false, zb])
  unfold ew
  dsimp only
  rw [hK1]
  simp only [zb]
  rw [oX hK2]
  simp only [zb]
  rw [aD (by simp; omega)]
  simp only [zb]
  rw [aD (by simp; omega)]
  simp only [zb]
  rw [kQ hK2]
  simp only [zb]
  rw [aD (by simp; omega)]
  refine ⟨_, rfl, fun a' e => ?_, fun r e => by cases e⟩
  injection e with e
  subst e
  simp; omega) (fun b hb => by simpa using hb) (by simp)
 rw [e1]
 exact ⟨_, rfl, by show r.1.length ≤ _; omega⟩
theorem OT {B : Nat} {s : aa} (h : SzS B s) (hD : Deep s.bN) (hB : B ≤ 1000000) (k : Int) (p : ByteArray) : ∃ r, yM s k p = some r := by
 obtain ⟨l, h1, h2⟩ := vM h hD hB k
 unfold yM
 rw [h1]
 dsimp only [zb]
 rw [AI l p () (by omega), show jR l p = fun (_ : Unit) x => if (x.aI.toList == p.toList) = true then some (.inr (.inr x.bA)) else some (.inl ()) from rfl,
  kl (fun x : ai => x.aI.toList == p.toList) (fun x => (Sum.inr x.bA : Int ⊕ Int)) (.inl (l.length : Int)) l]
 simp only [zb]
 cases l.find? fun x => x.aI.toList == p.toList <;> exact ⟨_, rfl⟩
end Go.Proofs.YtchddofjajgopaaGreat
