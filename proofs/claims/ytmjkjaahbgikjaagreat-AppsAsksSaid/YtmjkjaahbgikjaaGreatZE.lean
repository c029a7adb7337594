/- My texts, in one. -/
import Derived.Test.YtmjkjaahbgikjaaGreatZD
set_option linter.all false
set_option maxRecDepth 100000
set_option maxHeartbeats 4000000
namespace Go.Proofs.YtmjkjaahbgikjaaGreat
open Go.RowKit
open IntKind (i64)
open Go.Proofs.Tryz (prog)
def gw (v_l:(List ByteArray)) (v_s:aa) (af:Int) (st:(List ByteArray)) (v_i:Int) (x_:ByteArray) : Option (((List ByteArray))⊕(((List ByteArray)×Int))) :=
 let al:=st
 let v_k:Int:=0
 (ah (jc al v_s v_i v_l af) ab v_k).bind fun r13 =>
 let v_k:=r13
 (hiO al v_k).bind fun b14=>(aU ([] : (List ByteArray)) b14).bind fun b15=>let v_x:(List ByteArray):=b15
 (aU v_x [x_]).bind fun b16=>let v_x:(List ByteArray):=b16
 (loO al v_k).bind fun b17=>(aU v_x b17).bind fun b18=>let al:(List ByteArray):=b18
 some (.inl al)
theorem zR (v_l:(List ByteArray)) (v_s:aa) (af:Int) (a_:(List ByteArray)) (hl:v_l.length≤1000000) : ah (lN v_l v_s af) ab (a_,(0))=ny (gw v_l v_s af) (fun a_=>(a_,((v_l.length:Int)))) a_ 0 v_l :=
 fa v_l (S:=(List ByteArray)×Int) (fun a_ k_=>(a_,(k_))) (gw v_l v_s af) (fun a_=>(a_,((v_l.length:Int)))) (an hl) (fun k a x hx=>by
  unfold lN gw; exact bH)
  (fun a=>by unfold lN; exact cF) a_
def gy (v_s:aa) (oA:ByteArray) (st:(List aq)) (x_:aq) : Option (((List aq))⊕(((List aq)×Int))) :=
 let al:=st
 let v_a:aq:=x_
 (cX v_a).bind fun c12=>(if (!c12)=true then some true else some (!(v_a.bF.toList==oA.toList))).bind fun q13=>if q13=true then
 some (.inl al)
 else
 let v_k:Int:=0
 (ah (jd al v_a) ab v_k).bind fun r14 =>
 let v_k:=r14
 (hiO al v_k).bind fun b15=>(aU ([] : (List aq)) b15).bind fun b16=>let v_x:(List aq):=b16
 (aU v_x [v_a]).bind fun b17=>let v_x:(List aq):=b17
 (loO al v_k).bind fun b18=>(aU v_x b18).bind fun b19=>let al:(List aq):=b19
 some (.inl al)
theorem zU (v_s:aa) (oA:ByteArray) (a_:(List aq)) (hl:v_s.ai.length≤1000000) : ah (lQ v_s oA) ab (a_,(0))=bk (gy v_s oA) (fun a_=>(a_,((v_s.ai.length:Int)))) a_ v_s.ai :=
 ay v_s.ai (S:=(List aq)×Int) (fun a_ k_=>(a_,(k_))) (gy v_s oA) (fun a_=>(a_,((v_s.ai.length:Int)))) (an hl) (fun k a x hx=>by
  unfold lQ gy; exact bH)
  (fun a=>by unfold lQ; exact cF) a_
def gx (al:(List aq)) (st:(List Int)) (x_:aq) : Option (((List Int))⊕(((List Int)×Int))) :=
 let v_l:=st
 (aU v_l [x_.fId]).bind fun b15=>let v_l:(List Int):=b15
 some (.inl v_l)
theorem zT (al:(List aq)) (a_:(List Int)) (hl:al.length≤1000000) : ah (lO al) ab (a_,(0))=bk (gx al) (fun a_=>(a_,((al.length:Int)))) a_ al :=
 ay al (S:=(List Int)×Int) (fun a_ k_=>(a_,(k_))) (gx al) (fun a_=>(a_,((al.length:Int)))) (an hl) (fun k a x hx=>by
  unfold lO gx; exact bH)
  (fun a=>by unfold lO; exact cF) a_
def iJ (iP:(List ByteArray)) (au:ByteArray) (st:Unit) (x_:ByteArray) : Option ((Unit)⊕((Int)⊕(Bool))) :=
 if (x_.toList==au.toList)=true then
 some (.inr (.inr true))
 else
 some (.inl ())
theorem xQ (iP:(List ByteArray)) (au:ByteArray) (a_:Unit) (hl:iP.length≤1000000) : ah (kg iP au) ab (0)=bk (iJ iP au) (fun a_=>(.inl ((iP.length:Int)))) a_ iP :=
 ay iP (S:=Int) (fun a_ k_=>(k_)) (iJ iP au) (fun a_=>(.inl ((iP.length:Int)))) (an hl) (fun k a x hx=>by
  unfold kg iJ; exact bH)
  (fun a=>by unfold kg; exact cF) a_
def gz (v_s:aa) (af:Int) (au:ByteArray) (yh:Bool) (mj:Int) (st:ax) (x_:am) : Option ((ax)⊕((ax×Int))) :=
 let v_v:=st
 (dV v_s x_.bC).bind fun c11=>let v_a:aq:=c11.1
 let bS:Bool:=c11.2
 (if bS=true then some (x_.aY==af) else some false).bind fun q12=>(if q12=true then (mQ v_a.bF au).bind fun c13=>some c13 else some false).bind fun q14=>(if q14=true then (if yh=true then some true else some (v_a.cW==mj)).bind fun q15=>some q15 else some false).bind fun q16=>if q16=true then
 (dc v_v x_.cC).bind fun c17=>let v_v:ax:=c17
 some (.inl v_v)
 else
 some (.inl v_v)
theorem zW (v_s:aa) (af:Int) (au:ByteArray) (yh:Bool) (mj:Int) (a_:ax) (hl:v_s.ac.length≤1000000) : ah (lR v_s af au yh mj) ab (a_,(0))=bk (gz v_s af au yh mj) (fun a_=>(a_,((v_s.ac.length:Int)))) a_ v_s.ac :=
 ay v_s.ac (S:=ax×Int) (fun a_ k_=>(a_,(k_))) (gz v_s af au yh mj) (fun a_=>(a_,((v_s.ac.length:Int)))) (an hl) (fun k a x hx=>by
  unfold lR gz; exact bH)
  (fun a=>by unfold lR; exact cF) a_
def dS (v_s:aa) (af:Int) (au:ByteArray) (st:ax) (x_:aq) : Option ((ax)⊕((ax×Int))) :=
 let v_v:=st
 (cX x_).bind fun c9=>(if c9=true then (mQ x_.bF au).bind fun c10=>some c10 else some false).bind fun q11=>if q11=true then
 (kw x_.bE af).bind fun c12=>(dc v_v c12).bind fun c13=>let v_v:ax:=c13
 some (.inl v_v)
 else
 some (.inl v_v)
theorem va (v_s:aa) (af:Int) (au:ByteArray) (a_:ax) (hl:v_s.ai.length≤1000000) : ah (iK v_s af au) ab (a_,(0))=bk (dS v_s af au) (fun a_=>(a_,((v_s.ai.length:Int)))) a_ v_s.ai :=
 ay v_s.ai (S:=ax×Int) (fun a_ k_=>(a_,(k_))) (dS v_s af au) (fun a_=>(a_,((v_s.ai.length:Int)))) (an hl) (fun k a x hx=>by
  unfold iK dS; exact bH)
  (fun a=>by unfold iK; exact cF) a_
def gA (iP:(List ByteArray)) (v_s:aa) (af:Int) (su:ax) (st:Unit) (x_:ByteArray) : Option ((Unit)⊕((Int)⊕(Bool))) :=
 (eG v_s x_ af).bind fun c14=>(dc c14 su).bind fun c15=>let v_v:ax:=c15
 (vG v_s x_ af).bind fun c16=>(fL v_v c16).bind fun c17=>if (!c17)=true then
 some (.inr (.inr false))
 else
 (if (x_.toList==(⟨#[114,111,111,116]⟩ : ByteArray).toList)=true then (iY v_s af).bind fun c18=>(tb v_s af).bind fun c19=>(vK c18 c19).bind fun c20=>(fL v_v c20).bind fun c21=>some (!c21) else some false).bind fun q22=>if q22=true then
 some (.inr (.inr false))
 else
 some (.inl ())
theorem zY (iP:(List ByteArray)) (v_s:aa) (af:Int) (su:ax) (a_:Unit) (hl:iP.length≤1000000) : ah (lS iP v_s af su) ab (0)=bk (gA iP v_s af su) (fun a_=>(.inl ((iP.length:Int)))) a_ iP :=
 ay iP (S:=Int) (fun a_ k_=>(k_)) (gA iP v_s af su) (fun a_=>(.inl ((iP.length:Int)))) (an hl) (fun k a x hx=>by
  unfold lS gA; exact bH)
  (fun a=>by unfold lS; exact cF) a_
def iX (v_l:(List aL)) (v_a:aL) (st:(List aL)×Bool) (x_:aL) : Option (((List aL)×Bool)⊕(((List aL)×Bool×Int))) :=
 let al:=st.1
 let cu:=st.2
 (if (!cu)=true then some (decide (x_.bu > v_a.bu)) else some false).bind fun q8=>(if q8=true then
 (aU al [v_a]).bind fun b10=>let al:(List aL):=b10
 let cu:Bool:=true
 some (al,cu)
 else
 some (al,cu)).bind fun j9=>let al:=j9.1
 let cu:=j9.2
 if (x_.bu != v_a.bu)=true then
 (aU al [x_]).bind fun b11=>let al:(List aL):=b11
 some (.inl (al,cu))
 else
 some (.inl (al,cu))
theorem CK (v_l:(List aL)) (v_a:aL) (a_:(List aL)×Bool) (hl:v_l.length≤1000000) : ah (oO v_l v_a) ab (a_.1,a_.2,(0))=bk (iX v_l v_a) (fun a_=>(a_.1,a_.2,((v_l.length:Int)))) a_ v_l :=
 ay v_l (S:=(List aL)×Bool×Int) (fun a_ k_=>(a_.1,a_.2,(k_))) (iX v_l v_a) (fun a_=>(a_.1,a_.2,((v_l.length:Int)))) (an hl) (fun k a x hx=>by
  unfold oO iX; exact bH)
  (fun a=>by unfold oO; exact cF) a_
def lm (v_l:(List aL)) (cH:Int) (st:Unit) (x_:aL) : Option ((Unit)⊕((Int)⊕(aL×Bool))) :=
 if (x_.bu==cH)=true then
 some (.inr (.inr (x_,true)))
 else
 some (.inl ())
theorem CL (v_l:(List aL)) (cH:Int) (a_:Unit) (hl:v_l.length≤1000000) : ah (oP v_l cH) ab (0)=bk (lm v_l cH) (fun a_=>(.inl ((v_l.length:Int)))) a_ v_l :=
 ay v_l (S:=Int) (fun a_ k_=>(k_)) (lm v_l cH) (fun a_=>(.inl ((v_l.length:Int)))) (an hl) (fun k a x hx=>by
  unfold oP lm; exact bH)
  (fun a=>by unfold oP; exact cF) a_
def g9 (v_l:(List aL)) (cH:Int) (st:Bool×(List aL)) (x_:aL) : Option ((Bool×(List aL))⊕((Bool×(List aL)×Int))) :=
 let bS:=st.1
 let al:=st.2
 let v_a:aL:=x_
 if (v_a.bu==cH)=true then
 let bS:Bool:=true
 let t6:Int:=(i64.wrap (v_a.fX - 1))
 let t7:Int:=0
 let v_a:aL:={ v_a with fX:=t6 }
 let v_a:aL:={ v_a with gM:=t7 }
 if (decide (v_a.fX≤0))=true then
 some (.inl (bS,al))
 else
 (aU al [v_a]).bind fun b8=>let al:(List aL):=b8
 some (.inl (bS,al))
 else
 (aU al [v_a]).bind fun b9=>let al:(List aL):=b9
 some (.inl (bS,al))
theorem Bo (v_l:(List aL)) (cH:Int) (a_:Bool×(List aL)) (hl:v_l.length≤1000000) : ah (mY v_l cH) ab (a_.1,a_.2,(0))=bk (g9 v_l cH) (fun a_=>(a_.1,a_.2,((v_l.length:Int)))) a_ v_l :=
 ay v_l (S:=Bool×(List aL)×Int) (fun a_ k_=>(a_.1,a_.2,(k_))) (g9 v_l cH) (fun a_=>(a_.1,a_.2,((v_l.length:Int)))) (an hl) (fun k a x hx=>by
  unfold mY g9; exact bH)
  (fun a=>by unfold mY; exact cF) a_
def er (v_l:(List aL)) (af:Int) (st:ax) (x_:aL) : Option ((ax)⊕((ax×Int))) :=
 let v_v:=st
 if (x_.aY==af)=true then
 (dc v_v (⟨(i64.wrap (x_.cC.bD * x_.fX)),(i64.wrap (x_.cC.bj * x_.fX))⟩ : ax)).bind fun c7=>let v_v:ax:=c7
 some (.inl v_v)
 else
 some (.inl v_v)
theorem wa (v_l:(List aL)) (af:Int) (a_:ax) (hl:v_l.length≤1000000) : ah (jo v_l af) ab (a_,(0))=bk (er v_l af) (fun a_=>(a_,((v_l.length:Int)))) a_ v_l :=
 ay v_l (S:=ax×Int) (fun a_ k_=>(a_,(k_))) (er v_l af) (fun a_=>(a_,((v_l.length:Int)))) (an hl) (fun k a x hx=>by
  unfold jo er; exact bH)
  (fun a=>by unfold jo; exact cF) a_
def TA (a b:ax) : ax:=⟨i64.wrap (a.bD + b.bD),i64.wrap (a.bj + b.bj)⟩
def X9 (a b:ax) : Bool:=decide (a.bD≤b.bD)&&decide (a.bj≤b.bj)
def inV (n:Int) : Bool:=decide (n≥0)&&decide (n≤1125899906842624)
def GP (a:ax) : Bool:=inV a.bD&&inV a.bj
theorem eu (a b:ax) : dc a b=some (TA a b):=rfl
theorem kx (a b:ax) : fL a b=some (X9 a b):=by unfold fL X9; simp only [dH,zb]
theorem PP (n:Int) : zh n=some (inV n):=by unfold zh inV; simp only [dH,zb]
theorem IX (a:ax) : tf a=some (GP a):=by unfold tf GP; simp only [PP,dH,zb]
def VG (a b:ax) : ax:=(vK a b).getD ax.zero
theorem FS (a b:ax) : vK a b=some (VG a b):=rfl
def xa (n bp:Int) : Int:=(uQ n bp).getD 0
theorem M6 (n bp:Int) : uQ n bp=some (xa n bp):=rfl
def ZG (a b:Int) : Int×Int:=(ze a b).getD (0,0)
theorem PM (a b:Int) : ze a b=some (ZG a b):=rfl
def Pg (a:ax) (bp:Int) : ax×Int :=
 if (!GP a||decide (bp < 0)||decide (bp > 1000000))=true then (ax.zero,1)
 else if GP ⟨xa a.bD bp,xa a.bj bp⟩=true then (⟨xa a.bD bp,xa a.bj bp⟩,0) else (ax.zero,11)
theorem Cj (a:ax) (bp:Int) : uR a bp=some (Pg a bp):=by
 unfold uR Pg
 simp only [IX,orB,zb,M6]
 generalize (!GP a||decide (bp < 0)||decide (bp > 1000000))=b1
 generalize GP ⟨xa a.bD bp,xa a.bj bp⟩=b2
 cases b1 <;> cases b2 <;> rfl
theorem sy {α : Type} (c:Bool) (a b : α) : (if c=true then some a else some b)=some (if c=true then a else b):=by cases c <;> rfl
def Jw (x y:bb) : Int:=(pM x y).getD 0
theorem Ci (x y:bb) : pM x y=some (Jw x y):=by
 unfold Jw
 have:∃ r,pM x y=some r:=by
  unfold pM
  simp only [orB,dH,zb,PM,sy]
  exact ⟨_,rfl⟩
 obtain ⟨r,hr⟩:=this
 rw [hr]
 rfl
def Ru (a p:ax) : bb:=if decide (Jw ⟨a.bD,p.bD⟩ ⟨a.bj,p.bj⟩ < 0)=true then ⟨a.bj,p.bj⟩ else ⟨a.bD,p.bD⟩
theorem PR (a p:ax) : zi a p=some (Ru a p):=by
 unfold zi Ru
 simp only [Ci,zb,sy]
def WZ (a p b q:ax) : Int:=if (!GP a || !GP p || !GP b || !GP q)=true then 0 else Jw (Ru a p) (Ru b q)
theorem M8 (a p b q:ax) : zj a p b q=some (WZ a p b q):=by
 unfold zj WZ
 simp only [IX,orB,zb,PR,Ci]
 simp only [sy]
theorem Ph (n:Int) : yV n=some (decide (n≥1)&&decide (n≤1073741824)):=by
 unfold yV
 simp only [dH,zb]
def Z9 (a:aL) (n:Int) : Int:=(pB a n).getD 0
theorem MP (a:aL) (n:Int) : pB a n=some (Z9 a n):=by
 have:∃ r,pB a n=some r:=by
  unfold pB
  simp only [Ph,orB,dH,zb]
  simp only [sy]
  exact ⟨_,rfl⟩
 obtain ⟨r,hr⟩:=this
 unfold Z9
 rw [hr]; rfl
theorem TG (l:List aL) (a:aL) (hl:l.length≤100000) : ∃ r,FD l a=some r∧r.1.length≤8:=by
 unfold FD
 dsimp only
 rw [CK l { a with gM:=0 } ([],a.fX==0) (by omega)]
 obtain ⟨r,h1,h2⟩:=aR (g:=iX l { a with gM:=0 }) (fin:=fun b=>(b.1,b.2,(l.length:Int))) (fun k b=>b.1.length≤2 * k) (fun r=>r.1.length≤2 * l.length) l 0 ([],a.fX==0) (fun j b x hx hb=>by
  have hj:=(zg.1 hx).1
  unfold iX
  simp only [dH,zb]
  cases (!b.2&&decide (x.bu > a.bu)) with
  | true =>
   simp only [if_true]
   rw [aD (by simp; omega)]
   simp only [zb]
   cases (x.bu != a.bu) with
   | true =>
    simp only [if_true]
    rw [aD (by simp; omega)]
    exact ⟨_,rfl,fun a' e=>by injection e with e; subst e; simp; omega,fun r e=>by cases e⟩
   | false =>
    exact ⟨_,rfl,fun a' e=>by injection e with e; subst e; simp; omega,fun r e=>by cases e⟩
  | false =>
   simp only [zf,if_false,zb]
   cases (x.bu != a.bu) with
   | true =>
    simp only [if_true]
    rw [aD (by simp; omega)]
    exact ⟨_,rfl,fun a' e=>by injection e with e; subst e; simp; omega,fun r e=>by cases e⟩
   | false =>
    exact ⟨_,rfl,fun a' e=>by injection e with e; subst e; show b.1.length≤_; omega,fun r e=>by cases e⟩) (fun b hb=>by simpa using hb) (by simp)
 rw [h1]
 simp only [zb]
 have fin:∀ o:List aL,∃ r,(if decide ((o.length:Int) > 8)=true then some (([] : List aL),(4:Int)) else some (o,0))=some r∧r.1.length≤8:=by
  intro o
  by_cases h:(o.length:Int) > 8
  ·simp only [h,decide_true,if_true]; exact ⟨_,rfl,by simp⟩
  ·simp only [h,decide_false,zf,if_false]; exact ⟨_,rfl,by show o.length≤8; omega⟩
 cases (!r.2.1) with
 | true =>
  simp only [if_true]
  rw [aD (by simp; omega)]
  exact fin _
 | false=>exact fin _
def VT (l:List aL) (p:Int) : aL:=(l.find? fun x=>x.bu==p).getD aL.zero
def isA (l:List aL) (p:Int) : Bool:=l.any fun x=>x.bu==p
theorem TK (l:List aL) (p:Int) (hl:l.length≤1000000) : Kl l p=some (VT l p,isA l p):=by
 unfold Kl
 dsimp only
 rw [CL l p () hl]
 have h2:=sC (fun x:aL=>x.bu==p) (fun x=>(Sum.inr (x,true) : Int⊕aL×Bool)) (.inl (l.length:Int)) l
 rw [show lm l p=fun (_:Unit) x=>if (x.bu==p)=true then some (.inr (.inr (x,true))) else some (.inl ()) from rfl,h2]
 unfold VT isA
 cases hf:l.find? fun x=>x.bu==p with
 | none =>
  have:(l.any fun x=>x.bu==p)=false:=by
   rw [List.any_eq_false]; intro x hx; have:=List.find?_eq_none.1 hf x hx; simpa using this
  rw [this]; rfl
 | some q =>
  have:(l.any fun x=>x.bu==p)=true:=by
   rw [List.any_eq_true]; exact ⟨q,List.mem_of_find?_eq_some hf,by simpa using List.find?_some hf⟩
  rw [this]; rfl
theorem Pi (l:List aL) (p:Int) (hl:l.length≤1000000) : ∃ r,Dv l p=some r∧r.1.length≤l.length:=by
 unfold Dv
 dsimp only
 rw [Bo l p (false,[]) hl]
 obtain ⟨r,h1,h2⟩:=aR (g:=g9 l p) (fin:=fun b=>(b.1,b.2,(l.length:Int))) (fun k b=>b.2.length≤k) (fun r=>r.2.1.length≤l.length) l 0 (false,[]) (fun j b x hx hb=>by
  have hj:=(zg.1 hx).1
  unfold g9
  dsimp only
  split
  ·split
   ·exact ⟨_,rfl,fun a' e=>by injection e with e; subst e; show b.2.length≤_; omega,fun r e=>by cases e⟩
   ·rw [aD (by simp; omega)]
    exact ⟨_,rfl,fun a' e=>by injection e with e; subst e; simp; omega,fun r e=>by cases e⟩
  ·rw [aD (by simp; omega)]
   exact ⟨_,rfl,fun a' e=>by injection e with e; subst e; simp; omega,fun r e=>by cases e⟩) (fun b hb=>by simpa using hb) (by simp)
 rw [h1]
 exact ⟨_,rfl,h2⟩
theorem Pj (l:List aL) (p:Int) (hl:l.length≤1000000) : ∃ r,Dw l p=some r∧r.length=l.length:=by
 unfold Dw
 rw [aD (by simpa using hl)]
 simp only [zb,List.nil_append]
 have h:=aM (f:=qP p) (fun st=>st.1.length=l.length∧0≤st.2∧st.2≤(l.length:Int)) (fun st=>((l.length:Int) - st.2).toNat) (fun st=>st.1.length=l.length) (fun st ⟨h1,h2,h3⟩=>by
  unfold qP
  dsimp only
  by_cases hi:st.2 < (st.1.length:Int)
  ·obtain ⟨x,hx,_⟩:=L1 h2 hi
   have hw:i64.wrap (st.2 + 1)=st.2 + 1:=Hi (by omega) (by omega)
   simp only [hi,decide_true,if_true,hx,zb,hw]
   split
   ·exact .inl ⟨_,rfl,⟨by simpa using h1,by show 0≤st.2 + 1; omega,by show st.2 + 1≤_; omega⟩,by show ((l.length:Int) - (st.2 + 1)).toNat < ((l.length:Int) - st.2).toNat; omega⟩
   ·exact .inl ⟨_,rfl,⟨h1,by show 0≤st.2 + 1; omega,by show st.2 + 1≤_; omega⟩,by show ((l.length:Int) - (st.2 + 1)).toNat < ((l.length:Int) - st.2).toNat; omega⟩
  ·simp only [hi,decide_false,zf,if_false]
   exact .inr ⟨_,rfl,h1⟩) ab (l,0) ⟨rfl,Int.le_refl _,Int.natCast_nonneg _⟩ (by show ((l.length:Int) - 0).toNat < ab; unfold ab; omega)
 obtain ⟨r,h1,h2⟩:=h
 rw [h1]
 exact ⟨_,rfl,h2⟩
def YI (l:List aL) (k:Int) : ax:=(kw l k).getD ax.zero
theorem G0 (l:List aL) (k:Int) (hl:l.length≤1000000) : kw l k=some (YI l k):=by
 have:∃ r,kw l k=some r:=by
  unfold kw
  dsimp only
  rw [wa l k ⟨0,0⟩ hl]
  obtain ⟨r,h1,_⟩:=aR (g:=er l k) (fin:=fun a=>(a,(l.length:Int))) (fun _ _=>True) (fun _=>True) l 0 ⟨0,0⟩ (fun j a x hx _=>by
   unfold er
   simp only [eu,zb,sy]
   exact ⟨_,rfl,fun _ _=>trivial,fun _ _=>trivial⟩) (fun _ _=>trivial) trivial
  rw [h1]
  exact ⟨_,rfl⟩
 obtain ⟨r,hr⟩:=this
 unfold YI
 rw [hr]; rfl
def jE (v_s:aa) (bA:Int) (st:Unit) (x_:aq) : Option ((Unit)⊕((Int)⊕(aq×Bool))) :=
 if (x_.fId==bA)=true then
 some (.inr (.inr (x_,true)))
 else
 some (.inl ())
theorem Ah (v_s:aa) (bA:Int) (a_:Unit) (hl:v_s.ai.length≤1000000) : ah (lX v_s bA) ab (0)=bk (jE v_s bA) (fun a_=>(.inl ((v_s.ai.length:Int)))) a_ v_s.ai :=
 ay v_s.ai (S:=Int) (fun a_ k_=>(k_)) (jE v_s bA) (fun a_=>(.inl ((v_s.ai.length:Int)))) (an hl) (fun k a x hx=>by
  unfold lX jE; exact bH)
  (fun a=>by unfold lX; exact cF) a_
def eH (v_s:aa) (st:Bool×(List aq)) (x_:aq) : Option ((Bool×(List aq))⊕((Bool×(List aq)×Int))) :=
 let cu:=st.1
 let v_l:=st.2
 (if (!cu)=true then (cX x_).bind fun c6=>some (!c6) else some false).bind fun q7=>if q7=true then
 let cu:Bool:=true
 some (.inl (cu,v_l))
 else
 (aU v_l [x_]).bind fun b8=>let v_l:(List aq):=b8
 some (.inl (cu,v_l))
theorem wl (v_s:aa) (a_:Bool×(List aq)) (hl:v_s.ai.length≤1000000) : ah (jB v_s) ab (a_.1,a_.2,(0))=bk (eH v_s) (fun a_=>(a_.1,a_.2,((v_s.ai.length:Int)))) a_ v_s.ai :=
 ay v_s.ai (S:=Bool×(List aq)×Int) (fun a_ k_=>(a_.1,a_.2,(k_))) (eH v_s) (fun a_=>(a_.1,a_.2,((v_s.ai.length:Int)))) (an hl) (fun k a x hx=>by
  unfold jB eH; exact bH)
  (fun a=>by unfold jB; exact cF) a_
def eI (v_s:aa) (st:Int) (x_:aq) : Option ((Int)⊕((Int×Int))) :=
 let kQ:=st
 (cX x_).bind fun c13=>if c13=true then
 let kQ:Int:=(i64.wrap (kQ + 1))
 some (.inl kQ)
 else
 some (.inl kQ)
theorem wm (v_s:aa) (a_:Int) (hl:v_s.ai.length≤1000000) : ah (jC v_s) ab (a_,(0))=bk (eI v_s) (fun a_=>(a_,((v_s.ai.length:Int)))) a_ v_s.ai :=
 ay v_s.ai (S:=Int×Int) (fun a_ k_=>(a_,(k_))) (eI v_s) (fun a_=>(a_,((v_s.ai.length:Int)))) (an hl) (fun k a x hx=>by
  unfold jC eI; exact bH)
  (fun a=>by unfold jC; exact cF) a_
def gD (v_s:aa) (bA:Int) (st:(List Int)×(List am)) (x_:am) : Option (((List Int)×(List am))⊕(((List Int)×(List am)×Int))) :=
 let jI:=st.1
 let v_l:=st.2
 if (x_.bC==bA)=true then
 (aU jI [x_.fId]).bind fun b6=>let jI:(List Int):=b6
 some (.inl (jI,v_l))
 else
 (aU v_l [x_]).bind fun b7=>let v_l:(List am):=b7
 some (.inl (jI,v_l))
theorem Aa (v_s:aa) (bA:Int) (a_:(List Int)×(List am)) (hl:v_s.ac.length≤1000000) : ah (lV v_s bA) ab (a_.1,a_.2,(0))=bk (gD v_s bA) (fun a_=>(a_.1,a_.2,((v_s.ac.length:Int)))) a_ v_s.ac :=
 ay v_s.ac (S:=(List Int)×(List am)×Int) (fun a_ k_=>(a_.1,a_.2,(k_))) (gD v_s bA) (fun a_=>(a_.1,a_.2,((v_s.ac.length:Int)))) (an hl) (fun k a x hx=>by
  unfold lV gD; exact bH)
  (fun a=>by unfold lV; exact cF) a_
def gB (v_s:aa) (bA:Int) (st:(List bt)) (x_:bt) : Option (((List bt))⊕(((List bt)×Int))) :=
 let iC:=st
 if (x_.bC != bA)=true then
 (aU iC [x_]).bind fun b10=>let iC:(List bt):=b10
 some (.inl iC)
 else
 some (.inl iC)
theorem zZ (v_s:aa) (bA:Int) (a_:(List bt)) (hl:v_s.aQ.length≤1000000) : ah (lU v_s bA) ab (a_,(0))=bk (gB v_s bA) (fun a_=>(a_,((v_s.aQ.length:Int)))) a_ v_s.aQ :=
 ay v_s.aQ (S:=(List bt)×Int) (fun a_ k_=>(a_,(k_))) (gB v_s bA) (fun a_=>(a_,((v_s.aQ.length:Int)))) (an hl) (fun k a x hx=>by
  unfold lU gB; exact bH)
  (fun a=>by unfold lU; exact cF) a_
def jF (v_s:aa) (bA:Int) (st:Unit) (x_:am) : Option ((Unit)⊕((Int)⊕(am×Bool))) :=
 if (x_.fId==bA)=true then
 some (.inr (.inr (x_,true)))
 else
 some (.inl ())
theorem Ai (v_s:aa) (bA:Int) (a_:Unit) (hl:v_s.ac.length≤1000000) : ah (lY v_s bA) ab (0)=bk (jF v_s bA) (fun a_=>(.inl ((v_s.ac.length:Int)))) a_ v_s.ac :=
 ay v_s.ac (S:=Int) (fun a_ k_=>(k_)) (jF v_s bA) (fun a_=>(.inl ((v_s.ac.length:Int)))) (an hl) (fun k a x hx=>by
  unfold lY jF; exact bH)
  (fun a=>by unfold lY; exact cF) a_
def gG (v_s:aa) (bA:Int) (st:(List am)) (x_:am) : Option (((List am))⊕(((List am)×Int))) :=
 let v_l:=st
 if (x_.fId != bA)=true then
 (aU v_l [x_]).bind fun b4=>let v_l:(List am):=b4
 some (.inl v_l)
 else
 some (.inl v_l)
theorem Aj (v_s:aa) (bA:Int) (a_:(List am)) (hl:v_s.ac.length≤1000000) : ah (lZ v_s bA) ab (a_,(0))=bk (gG v_s bA) (fun a_=>(a_,((v_s.ac.length:Int)))) a_ v_s.ac :=
 ay v_s.ac (S:=(List am)×Int) (fun a_ k_=>(a_,(k_))) (gG v_s bA) (fun a_=>(a_,((v_s.ac.length:Int)))) (an hl) (fun k a x hx=>by
  unfold lZ gG; exact bH)
  (fun a=>by unfold lZ; exact cF) a_
def dU (v_l:(List Int)) (v_n:Int) (st:(List Int)) (x_:Int) : Option (((List Int))⊕(((List Int)×Int))) :=
 let al:=st
 if (x_ != v_n)=true then
 (aU al [x_]).bind fun b4=>let al:(List Int):=b4
 some (.inl al)
 else
 some (.inl al)
theorem vd (v_l:(List Int)) (v_n:Int) (a_:(List Int)) (hl:v_l.length≤1000000) : ah (iL v_l v_n) ab (a_,(0))=bk (dU v_l v_n) (fun a_=>(a_,((v_l.length:Int)))) a_ v_l :=
 ay v_l (S:=(List Int)×Int) (fun a_ k_=>(a_,(k_))) (dU v_l v_n) (fun a_=>(a_,((v_l.length:Int)))) (an hl) (fun k a x hx=>by
  unfold iL dU; exact bH)
  (fun a=>by unfold iL; exact cF) a_
def gF (cj:(List Int)) (st:aa) (x_:Int) : Option ((aa)⊕((aa×Int))) :=
 let v_s:=st
 (eL v_s x_).bind fun c21=>let v_c:am:=c21.1
 let bS:Bool:=c21.2
 if (!bS)=true then
 some (.inl v_s)
 else
 (dV v_s v_c.bC).bind fun c22=>let v_a:aq:=c22.1
 if v_c.bB=true then
 (pa v_a).bind fun c23=>let t24:Int:=1
 let t25:(List aL):=c23
 let v_a:aq:={ v_a with cw:=t24 }
 let v_a:aq:={ v_a with bE:=t25 }
 let t26:(List Int):=[]
 let t27:(List Int):=[]
 let t28:(List Int):=[]
 let t29:(List Int):=[]
 let v_a:aq:={ v_a with bM:=t26 }
 let v_a:aq:={ v_a with dj:=t27 }
 let v_a:aq:={ v_a with jH:=t28 }
 let v_a:aq:={ v_a with jP:=t29 }
 let t30:Int:=0
 let t31:Int:=v_s.bW
 let v_a:aq:={ v_a with ce:=t30 }
 let v_a:aq:={ v_a with bL:=t31 }
 (eb v_s v_a).bind fun c32=>(sk c32 v_c.bC).bind fun c33=>let v_s:aa:=c33.1
 some (.inl v_s)
 else
 (qa v_s v_c.fId).bind fun c34=>let v_s:aa:=c34
 let tX:Bool:=false
 (je v_a.bM v_c.fId).bind fun c35=>let v_a:aq:={ v_a with bM:=c35.1 }
 let tX:Bool:=c35.2
 (if (!tX)=true then
 (aU ([] : (List Int)) v_a.dj).bind fun b37=>(aU b37 [v_c.fId]).bind fun b38=>let v_a:aq:={ v_a with dj:=b38 }
 some v_a
 else
 some v_a).bind fun j36=>let v_a:=j36
 (eb v_s v_a).bind fun c39=>let v_s:aa:=c39
 some (.inl v_s)
theorem Af (cj:(List Int)) (a_:aa) (hl:cj.length≤1000000) : ah (lW cj) ab (a_,(0))=bk (gF cj) (fun a_=>(a_,((cj.length:Int)))) a_ cj :=
 ay cj (S:=aa×Int) (fun a_ k_=>(a_,(k_))) (gF cj) (fun a_=>(a_,((cj.length:Int)))) (an hl) (fun k a x hx=>by
  unfold lW gF; exact bH)
  (fun a=>by unfold lW; exact cF) a_
def eJ (v_s:aa) (st:(List Int)) (x_:aq) : Option (((List Int))⊕(((List Int)×Int))) :=
 let v_l:=st
 (if (x_.cw==2)=true then some (decide ((i64.wrap (v_s.bW - x_.bL))≥15)) else some false).bind fun q6=>if q6=true then
 (aU v_l [x_.fId]).bind fun b7=>let v_l:(List Int):=b7
 some (.inl v_l)
 else
 some (.inl v_l)
theorem wn (v_s:aa) (a_:(List Int)) (hl:v_s.ai.length≤1000000) : ah (jD v_s) ab (a_,(0))=bk (eJ v_s) (fun a_=>(a_,((v_s.ai.length:Int)))) a_ v_s.ai :=
 ay v_s.ai (S:=(List Int)×Int) (fun a_ k_=>(a_,(k_))) (eJ v_s) (fun a_=>(a_,((v_s.ai.length:Int)))) (an hl) (fun k a x hx=>by
  unfold jD eJ; exact bH)
  (fun a=>by unfold jD; exact cF) a_
def dI (v_c:aw) (au:ByteArray) (st:Unit) (x_:az) : Option ((Unit)⊕((Int)⊕(az×Bool))) :=
 if (x_.aF.toList==au.toList)=true then
 let v_q:az:=x_
 (aU ([] : (List ei)) v_q.bl).bind fun b4=>let v_q:az:={ v_q with bl:=b4 }
 some (.inr (.inr (v_q,true)))
 else
 some (.inl ())
theorem rY (v_c:aw) (au:ByteArray) (a_:Unit) (hl:v_c.ae.length≤1000000) : ah (nj v_c au) ab (0)=bk (dI v_c au) (fun a_=>(.inl ((v_c.ae.length:Int)))) a_ v_c.ae :=
 ay v_c.ae (S:=Int) (fun a_ k_=>(k_)) (dI v_c au) (fun a_=>(.inl ((v_c.ae.length:Int)))) (an hl) (fun k a x hx=>by
  unfold nj dI; exact bH)
  (fun a=>by unfold nj; exact cF) a_
def cA (v_c:aw) (au:ByteArray) (st:(List ByteArray)) (x_:az) : Option (((List ByteArray))⊕(((List ByteArray)×Int))) :=
 let v_l:=st
 (if (!(au.toList==(⟨#[]⟩ : ByteArray).toList))=true then (dQ x_.aF).bind fun c6=>some (c6.toList==au.toList) else some false).bind fun q7=>if q7=true then
 (aU v_l [x_.aF]).bind fun b8=>let v_l:(List ByteArray):=b8
 some (.inl v_l)
 else
 some (.inl v_l)
theorem jp (v_c:aw) (au:ByteArray) (a_:(List ByteArray)) (hl:v_c.ae.length≤1000000) : ah (ni v_c au) ab (a_,(0))=bk (cA v_c au) (fun a_=>(a_,((v_c.ae.length:Int)))) a_ v_c.ae :=
 ay v_c.ae (S:=(List ByteArray)×Int) (fun a_ k_=>(a_,(k_))) (cA v_c au) (fun a_=>(a_,((v_c.ae.length:Int)))) (an hl) (fun k a x hx=>by
  unfold ni cA; exact bH)
  (fun a=>by unfold ni; exact cF) a_
def hZ (bw:(List ByteArray)) (v_c:aw) (v_k:Int) (st:Int) (x_:ByteArray) : Option ((Int)⊕((Int×Int))) :=
 let v_n:=st
 (jq v_c x_).bind fun c7=>let v_q:az:=c7.1
 (av v_q.bl v_k).bind fun b8=>let v_n:Int:=(i64.wrap (v_n + b8.kt))
 some (.inl v_n)
theorem Bt (bw:(List ByteArray)) (v_c:aw) (v_k:Int) (a_:Int) (hl:bw.length≤1000000) : ah (jR bw v_c v_k) ab (a_,(0))=bk (hZ bw v_c v_k) (fun a_=>(a_,((bw.length:Int)))) a_ bw :=
 ay bw (S:=Int×Int) (fun a_ k_=>(a_,(k_))) (hZ bw v_c v_k) (fun a_=>(a_,((bw.length:Int)))) (an hl) (fun k a x hx=>by
  unfold jR hZ; exact bH)
  (fun a=>by unfold jR; exact cF) a_
def ia (v_c:aw) (st:Unit) (x_:az) : Option ((Unit)⊕((Int)⊕(Bool))) :=
 (ff v_c x_.aF).bind fun c10=>let bw:(List ByteArray):=c10
 let v_k:Int:=0
 (ah (ng v_c bw) ab v_k).bind fun r11=>match r11 with
 | .inr m12=>some (.inr (.inr m12))
 | .inl m12 =>
 let v_k:=m12
 some (.inl ())
theorem Bu (v_c:aw) (a_:Unit) (hl:v_c.ae.length≤1000000) : ah (nh v_c) ab (0)=bk (ia v_c) (fun a_=>(.inl ((v_c.ae.length:Int)))) a_ v_c.ae :=
 ay v_c.ae (S:=Int) (fun a_ k_=>(k_)) (ia v_c) (fun a_=>(.inl ((v_c.ae.length:Int)))) (an hl) (fun k a x hx=>by
  unfold nh ia; exact bH)
  (fun a=>by unfold nh; exact cF) a_
theorem pg {s:ByteArray} {k:Int} (h0 : 0≤k) (h1:k.toNat < s.size) : ∃ b,kW s k=some b:=by
 unfold kW
 rw [if_pos h0]
 have:k.toNat < s.data.toList.length:=by simpa using h1
 rw [zq this]
 exact ⟨_,rfl⟩
theorem nM (p:ByteArray) (hp:p.size≤1000000) : ∃ r,dQ p=some r∧(r.size < p.size∨r.size=0):=by
 unfold dQ
 have hw:∀ k:Int,-1≤k→k≤1000000000→i64.wrap (k - 1)=k - 1:=fun k h1 h2=>Hi (by omega) (by omega)
 have h:=aM (f:=iZ p) (fun k=>-1≤k∧k < (p.size:Int)) (fun k=>(k + 1).toNat) (fun k=>-1≤k∧k < (p.size:Int)) (fun k ⟨h1,h2⟩=>by
  unfold iZ
  by_cases hk:k≥0
  ·obtain ⟨b,hb⟩:=pg (s:=p) hk (by omega)
   simp only [hk,decide_true,if_true,hb,zb]
   cases (b != 46) with
   | true =>
    simp only [if_true,hw k h1 (by omega)]
    exact .inl ⟨_,rfl,by omega,by omega⟩
   | false=>exact .inr ⟨_,rfl,h1,h2⟩
  ·simp only [hk,decide_false,zf,if_false,zb]
   exact .inr ⟨_,rfl,h1,h2⟩) ab (i64.wrap ((p.size:Int) - 1)) (by rw [hw _ (by omega) (by omega)]; omega) (by show (i64.wrap ((p.size:Int) - 1) + 1).toNat < ab; rw [hw _ (by omega) (by omega)]; unfold ab; omega)
 obtain ⟨k,h1,h2,h3⟩:=h
 dsimp only
 rw [h1]
 simp only [zb]
 by_cases hk:k < 0
 ·simp only [hk,decide_true,if_true]
  exact ⟨_,rfl,.inr rfl⟩
 ·simp only [hk,decide_false,zf,if_false]
  unfold Od
  rw [if_pos ⟨by omega,by omega⟩]
  refine ⟨_,rfl,.inl ?_⟩
  simp only [ByteArray.size_extract]
  omega
theorem qw {p:ByteArray} (h:(!(p.toList==(⟨#[]⟩ : ByteArray).toList))=true) : 0 < p.size:=by
 rcases Nat.eq_zero_or_pos p.size with h0 | h0
 ·exfalso
  have:p=⟨#[]⟩:=by
   cases p with
   | mk d => have : d = #[] := by apply Array.eq_empty_of_size_eq_zero; exact h0
             rw [this]
  rw [this] at h
  simp at h
 ·exact h0
theorem FL (p:ByteArray) (hp:p.size≤1000000) : ∃ r,y5 p=some r∧r.length≤p.size∧∀ q∈r,q.size≤p.size:=by
 unfold y5
 have h:=aM (f:=nN) (fun st=>st.1.length + st.2.size≤p.size∧∀ q∈st.1,q.size≤p.size) (fun st=>st.2.size) (fun st=>st.1.length≤p.size∧∀ q∈st.1,q.size≤p.size) (fun st ⟨h1,h2⟩=>by
  unfold nN
  dsimp only
  split
  ·rename_i hne
   have h0:=qw hne
   rw [aD (by simp; omega)]
   obtain ⟨r,hr,hs⟩:=nM st.2 (by omega)
   simp only [zb,hr]
   refine .inl ⟨_,rfl,⟨by simp; omega,fun q hq=>?_⟩,by show r.size < st.2.size; omega⟩
   simp only [List.mem_append,List.mem_singleton] at hq
   rcases hq with hq | rfl
   ·exact h2 q hq
   ·omega
  ·exact .inr ⟨_,rfl,by show st.1.length≤p.size; omega,h2⟩) ab ([],p) ⟨by simp,by simp⟩ (by show p.size < ab; unfold ab; omega)
 obtain ⟨r,h1,h2,h3⟩:=h
 dsimp only
 rw [h1]
 exact ⟨_,rfl,h2,h3⟩
structure SzC (c:aw) : Prop where
 labels:c.ak.length≤1000
 queues:c.ae.length≤1000
 caps:∀ q∈c.ae,q.bl.length≤1000
 paths:∀ q∈c.ae,q.aF.size≤1000000
def EH (c:aw) (p:ByteArray) : az:=(c.ae.find? fun q=>q.aF.toList==p.toList).getD az.zero
def isQ (c:aw) (p:ByteArray) : Bool:=c.ae.any fun q=>q.aF.toList==p.toList
theorem mL (c:aw) (p:ByteArray) (h:SzC c) : jq c p=some (EH c p,isQ c p):=by
 unfold jq EH isQ
 have hs:=rY c p () (by have:=h.queues; omega)
 dsimp only
 rw [hs]
 have key:∀ l:List az,(∀ q∈l,q.bl.length≤1000)→bk (dI c p) (fun _=>(Sum.inl (c.ae.length:Int) : Int⊕(az×Bool))) () l=some (match l.find? fun q=>q.aF.toList==p.toList with | some q=>.inr (q,true) | none=>.inl (c.ae.length:Int)):=by
  intro l
  induction l with
  | nil=>intro _; rfl
  | cons q l ih =>
   intro hc
   simp only [bk,List.find?_cons]
   unfold dI
   cases hq:(q.aF.toList==p.toList) with
   | true =>
    have:=hc q (by simp)
    simp only [if_true]
    rw [aD (by simp; omega)]
    rfl
   | false =>
    simp only [zf,if_false]
    exact ih fun q hq=>hc q (by simp [hq])
 rw [key _ h.caps]
 cases hf:c.ae.find? fun q=>q.aF.toList==p.toList with
 | none =>
  have:(c.ae.any fun q=>q.aF.toList==p.toList)=false:=by
   rw [List.any_eq_false]; intro x hx; have:=List.find?_eq_none.1 hf x hx; simpa using this
  rw [this]; rfl
 | some q =>
  have:(c.ae.any fun q=>q.aF.toList==p.toList)=true:=by
   rw [List.any_eq_true]; exact ⟨q,List.mem_of_find?_eq_some hf,by simpa using List.find?_some hf⟩
  rw [this]; rfl
theorem tc (c:aw) (p:ByteArray) (h:SzC c) : ∃ r,ff c p=some r∧r.length≤c.ae.length∧∀ x∈r,∃ q∈c.ae,q.aF=x:=by
 unfold ff
 have hs:=jp c p [] (by have:=h.queues; omega)
 dsimp only
 rw [hs]
 obtain ⟨r,h1,h2⟩:=aR (g:=cA c p) (fin:=fun a=>(a,(c.ae.length:Int))) (fun k a=>a.length≤k∧∀ x∈a,∃ q∈c.ae,q.aF=x) (fun r=>r.1.length≤c.ae.length∧∀ x∈r.1,∃ q∈c.ae,q.aF=x) c.ae 0 [] (fun j a x hx ⟨h1,h2⟩=>by
  have hm:=List.mem_of_getElem? hx
  have hj:=(zg.1 hx).1
  obtain ⟨r,hr,_⟩:=nM x.aF (h.paths x hm)
  have hqs:=h.queues
  unfold cA
  simp only [hr,zb,dH]
  split
  ·rw [aD (by simp; omega)]
   refine ⟨_,rfl,fun a' e=>?_,fun r e=>by cases e⟩
   injection e with e
   subst e
   refine ⟨by simp; omega,fun y hy=>?_⟩
   simp only [List.mem_append,List.mem_singleton] at hy
   rcases hy with hy | rfl
   ·exact h2 y hy
   ·exact ⟨x,hm,rfl⟩
  ·refine ⟨_,rfl,fun a' e=>?_,fun r e=>by cases e⟩
   injection e with e
   subst e
   exact ⟨by omega,h2⟩) (fun a ⟨h1,h2⟩=>⟨by simpa using h1,h2⟩) ⟨by simp,by simp⟩
 rw [h1]
 exact ⟨_,rfl,h2⟩
def BZ (c:aw) (p:ByteArray) : Bool:=(jV c p).getD false
theorem xG (c:aw) (p:ByteArray) (h:SzC c) : jV c p=some (BZ c p):=by
 have:∃ r,jV c p=some r:=by
  unfold jV
  obtain ⟨r,hr,_⟩:=tc c p h
  simp only [mL c p h,zb,hr,dH]
  exact ⟨_,rfl⟩
 obtain ⟨r,hr⟩:=this
 unfold BZ
 rw [hr]
 rfl
def id' {α : Type} (x : α) : α:=x
theorem yB {α : Type} (l:List α) : l.map id' = l:=List.map_id l
def LM (a:aq) : Bool:=a.cw==1||a.cw==2
theorem ec (a:aq) : cX a=some (LM a):=by unfold cX LM; simp only [orB,zb]
theorem NK (n:Int) : vb n=some (decide (n≥1)&&decide (n≤1073741824)):=by unfold vb; simp only [dH,zb]
theorem Ab (a:aq) : pa a=some [⟨0,0,a.bB,1,-1,-1,0⟩]:=rfl
theorem Ia {α β : Type} (p : α→Bool) (l:List α) (z : α) (d : β) : (match (match l.find? p with | some q=>(Sum.inr (q,true) : β⊕(α×Bool)) | none=>.inl d) with | .inr m=>some m | .inl _=>some (z,false))=some ((l.find? p).getD z,l.any p):=by
 cases hf:l.find? p with
 | none =>
  have:l.any p=false:=by
   rw [List.any_eq_false]; intro x hx; have:=List.find?_eq_none.1 hf x hx; simpa using this
  rw [this]; rfl
 | some q =>
  have:l.any p=true:=by rw [List.any_eq_true]; exact ⟨q,List.mem_of_find?_eq_some hf,List.find?_some hf⟩
  rw [this]; rfl
def bQ (s:aa) (id:Int) : aq:=(s.ai.find? fun c=>c.fId==id).getD aq.zero
def wB (s:aa) (id:Int) : Bool:=s.ai.any fun c=>c.fId==id
theorem kA {α τ : Type} (p : α→Bool) (q : α→τ) (d : τ) (l:List α) : bk (fun (_:Unit) x=>if p x=true then some (.inr (q x)) else some (.inl ())) (fun _=>d) () l=some (match l.find? p with | some x=>q x | none=>d):=by
 rw [sC]
 cases l.find? p <;> rfl
theorem dy (s:aa) (id:Int) (hl:s.ai.length≤1000000) : dV s id=some (bQ s id,wB s id):=by
 unfold dV bQ wB
 dsimp only
 rw [Ah s id () hl,show jE s id=fun (_:Unit) x=>if (x.fId==id)=true then some (.inr (.inr (x,true))) else some (.inl ()) from rfl,
  kA (fun x:aq=>x.fId==id) (fun x=>(Sum.inr (x,true) : Int⊕aq×Bool)) (.inl (s.ai.length:Int)) s.ai]
 simp only [zb]
 have h2:=Ia (fun x:aq=>x.fId==id) s.ai aq.zero (s.ai.length:Int)
 revert h2
 cases s.ai.find? fun x=>x.fId==id <;> exact fun h=>h
def mf (s:aa) (id:Int) : am:=(s.ac.find? fun c=>c.fId==id).getD am.zero
def LY (s:aa) (id:Int) : Bool:=s.ac.any fun c=>c.fId==id
theorem kH (s:aa) (id:Int) (hl:s.ac.length≤1000000) : eL s id=some (mf s id,LY s id):=by
 unfold eL mf LY
 dsimp only
 rw [Ai s id () hl,show jF s id=fun (_:Unit) x=>if (x.fId==id)=true then some (.inr (.inr (x,true))) else some (.inl ()) from rfl,
  kA (fun x:am=>x.fId==id) (fun x=>(Sum.inr (x,true) : Int⊕am×Bool)) (.inl (s.ac.length:Int)) s.ac]
 simp only [zb]
 have h2:=Ia (fun x:am=>x.fId==id) s.ac am.zero (s.ac.length:Int)
 revert h2
 cases s.ac.find? fun x=>x.fId==id <;> exact fun h=>h
theorem jf (s:aa) (n:aq) (hl:s.ai.length + 1≤1000000) : eb s n=some { s with ai:=cM aq.fId s.ai n } := by
 unfold eb
 have hl':s.ai.length≤1000000:=by omega
 have h:=xl s.ai (fun x=>decide (x.fId < n.fId)) (f:=nq s n) (an hl')
  (fun k x hx=>by
   have hk:=(zg.1 hx).1
   unfold nq
   simp only [bJ hx,if_true,aC hx,zb,a6 hk hl'])
  (by unfold nq; simp only [bz]; rfl)
 unfold cM
 have hK:=oD (fun x:aq=>decide (x.fId < n.fId)) s.ai
 generalize (s.ai.takeWhile fun x=>decide (x.fId < n.fId)).length=K at h hK ⊢
 dsimp only
 rw [h]
 simp only [zb]
 rw [nZ hK]
 simp only [zb]
 rw [aD (by simp; omega)]
 simp only [zb]
 rw [aD (by simp; omega)]
 simp only [zb]
 by_cases hlt:K < s.ai.length
 ·have hx:s.ai[K]? = some s.ai[K]:=zq hlt
  simp only [bJ hx,if_true,aC hx,zb,hx]
  cases he:(s.ai[K].fId==n.fId) with
  | true =>
   simp only [if_true,zb,a6 hlt hl']
   rw [ko hlt]
   simp only [zb]
   rw [aD (by simp; omega)]
   simp
  | false =>
   simp only [zf,if_false,zb]
   rw [ko hK]
   simp only [zb]
   rw [aD (by simp; omega)]
   simp
 ·have:K=s.ai.length:=by omega
  subst this
  simp only [bz,zf,if_false,zb]
  rw [ko (Nat.le_refl _)]
  simp only [zb]
  rw [aD (by simp; omega)]
  simp
theorem Cv (s:aa) (id:Int) (hl:s.ac.length≤1000000) : qa s id=some { s with ac:=s.ac.filter fun c=>c.fId != id } := by
 unfold qa
 dsimp only
 have e:gG s id=fun acc x=>if (x.fId != id)=true then (aU acc [id' x]).map (fun a=>(.inl a:List am⊕(List am×Int))) else some (.inl acc):=by
  funext acc x
  unfold gG
  dsimp only [id']
  split
  ·cases aU acc [x] <;> rfl
  ·rfl
 rw [Aj s id [] hl,e,cr (fun c:am=>c.fId != id) id' _ s.ac [] (by simpa using hl)]
 simp only [zb,List.nil_append,yB]
theorem ve (l:List Int) (n:Int) (hl:l.length≤1000000) : je l n=some (l.filter (fun c=>c != n),decide (((l.filter (fun c=>c != n)).length:Int) < (l.length:Int))):=by
 unfold je
 dsimp only
 have e:dU l n=fun acc x=>if (x != n)=true then (aU acc [id' x]).map (fun a=>(.inl a:List Int⊕(List Int×Int))) else some (.inl acc):=by
  funext acc x
  unfold dU
  dsimp only [id']
  split
  ·cases aU acc [x] <;> rfl
  ·rfl
 rw [vd l n [] hl,e,cr (fun c:Int=>c != n) id' _ l [] (by simpa using hl)]
 simp only [zb,List.nil_append,yB]
theorem wK (s:aa) (hl:s.ai.length≤1000000) : p9 s=some ((s.ai.filter fun b=>b.cw==2&&decide (i64.wrap (s.bW - b.bL)≥15)).map aq.fId):=by
 unfold p9
 dsimp only
 have e:eJ s=fun acc x=>if (x.cw==2&&decide (i64.wrap (s.bW - x.bL)≥15))=true then (aU acc [x.fId]).map (fun a=>(.inl a:List Int⊕(List Int×Int))) else some (.inl acc):=by
  funext acc x
  unfold eJ
  simp only [dH,zb]
  split
  ·cases aU acc [x.fId] <;> rfl
  ·rfl
 rw [wn s [] hl,e,cr (fun x:aq=>x.cw==2&&decide (i64.wrap (s.bW - x.bL)≥15)) aq.fId _ s.ai [] (by simpa using hl)]
 simp
theorem Ct (s:aa) (id:Int) (hl:s.ac.length≤1000000) (hs:s.aQ.length≤1000000) : sk s id=some ({ s with ac:=s.ac.filter fun c=>!(c.bC==id),aQ:=s.aQ.filter fun c=>c.bC != id },(s.ac.filter fun c=>c.bC==id).map am.fId):=by
 unfold sk
 dsimp only
 have e2:gB s id=fun acc x=>if (x.bC != id)=true then (aU acc [id' x]).map (fun a=>(.inl a:List bt⊕(List bt×Int))) else some (.inl acc):=by
  funext acc x
  unfold gB
  dsimp only [id']
  split
  ·cases aU acc [x] <;> rfl
  ·rfl
 have k1:∀ (l:List am) (a:List Int×List am),a.1.length + a.2.length + l.length≤1000000→bk (gD s id) (fun b=>(b.1,b.2,(s.ac.length:Int))) a l=some (a.1++(l.filter fun c=>c.bC==id).map am.fId,a.2++(l.filter fun c=>!(c.bC==id)),(s.ac.length:Int)):=by
  intro l
  induction l with
  | nil=>intro a _; simp [bk]
  | cons x l ih =>
   intro a h
   simp only [List.length_cons] at h
   have step:gD s id a x=if (x.bC==id)=true then (aU a.1 [x.fId]).bind fun b=>some (.inl (b,a.2)) else (aU a.2 [x]).bind fun b=>some (.inl (a.1,b)):=rfl
   simp only [bk,List.filter_cons,step]
   cases (x.bC==id) with
   | true =>
    simp only [if_true]
    rw [aD (by simp; omega)]
    simp only [zb]
    rw [ih _ (by simp; omega)]
    simp
   | false =>
    simp only [zf,if_false]
    rw [aD (by simp; omega)]
    simp only [zb]
    rw [ih _ (by simp; omega)]
    simp
 rw [Aa s id ([],[]) hl,k1 _ _ (by simpa using hl)]
 simp only [zb]
 rw [zZ s id [] hs,e2,cr (fun c:bt=>c.bC != id) id' _ s.aQ [] (by simpa using hs)]
 simp only [zb,List.nil_append,yB]
def f7 (v_s:aa) (af:Int) (st:ax) (x_:aX) : Option ((ax)⊕((ax×Int))) :=
 let v_v:=st
 (if x_.fUp=true then some (x_.aY==af) else some false).bind fun q6=>if q6=true then
 (dc v_v x_.kJ).bind fun c7=>let v_v:ax:=c7
 some (.inl v_v)
 else
 some (.inl v_v)
theorem yZ (v_s:aa) (af:Int) (a_:ax) (hl:v_s.aB.length≤1000000) : ah (ln v_s af) ab (a_,(0))=bk (f7 v_s af) (fun a_=>(a_,((v_s.aB.length:Int)))) a_ v_s.aB :=
 ay v_s.aB (S:=ax×Int) (fun a_ k_=>(a_,(k_))) (f7 v_s af) (fun a_=>(a_,((v_s.aB.length:Int)))) (an hl) (fun k a x hx=>by
  unfold ln f7; exact bH)
  (fun a=>by unfold ln; exact cF) a_
def hJ (v_s:aa) (af:Int) (st:ax) (x_:a7) : Option ((ax)⊕((ax×Int))) :=
 let v_v:=st
 let v_p:a7:=x_
 (if (v_p.aY==af)=true then some (decide (v_p.nG≤v_s.bW)) else some false).bind fun q5=>(if q5=true then some (decide (v_s.bW < v_p.jJ)) else some false).bind fun q6=>if q6=true then
 (dc v_v v_p.iH).bind fun c7=>let v_v:ax:=c7
 some (.inl v_v)
 else
 some (.inl v_v)
theorem Bs (v_s:aa) (af:Int) (a_:ax) (hl:v_s.bg.length≤1000000) : ah (nf v_s af) ab (a_,(0))=bk (hJ v_s af) (fun a_=>(a_,((v_s.bg.length:Int)))) a_ v_s.bg :=
 ay v_s.bg (S:=ax×Int) (fun a_ k_=>(a_,(k_))) (hJ v_s af) (fun a_=>(a_,((v_s.bg.length:Int)))) (an hl) (fun k a x hx=>by
  unfold nf hJ; exact bH)
  (fun a=>by unfold nf; exact cF) a_
def uM (s:aa) (k:Int) : ax:=(iY s k).getD ax.zero
theorem nK (s:aa) (k:Int) (hl:s.aB.length≤1000000) : iY s k=some (uM s k):=by
 have:∃ r,iY s k=some r:=by
  unfold iY
  dsimp only
  rw [yZ s k ⟨0,0⟩ hl]
  obtain ⟨r,h1,_⟩:=aR (g:=f7 s k) (fin:=fun a=>(a,(s.aB.length:Int))) (fun _ _=>True) (fun _=>True) s.aB 0 ⟨0,0⟩ (fun j a x hx _=>by
   unfold f7
   simp only [eu,dH,zb,sy]
   exact ⟨_,rfl,fun _ _=>trivial,fun _ _=>trivial⟩) (fun _ _=>trivial) trivial
  rw [h1]
  exact ⟨_,rfl⟩
 obtain ⟨r,hr⟩:=this
 unfold uM
 rw [hr]; rfl
def W7 (s:aa) (k:Int) : ax:=(tb s k).getD ax.zero
theorem Pv (s:aa) (k:Int) (hl:s.bg.length≤1000000) : tb s k=some (W7 s k):=by
 have:∃ r,tb s k=some r:=by
  unfold tb
  dsimp only
  rw [Bs s k ⟨0,0⟩ hl]
  obtain ⟨r,h1,_⟩:=aR (g:=hJ s k) (fin:=fun a=>(a,(s.bg.length:Int))) (fun _ _=>True) (fun _=>True) s.bg 0 ⟨0,0⟩ (fun j a x hx _=>by
   unfold hJ
   simp only [eu,dH,zb,sy]
   exact ⟨_,rfl,fun _ _=>trivial,fun _ _=>trivial⟩) (fun _ _=>trivial) trivial
  rw [h1]
  exact ⟨_,rfl⟩
 obtain ⟨r,hr⟩:=this
 unfold W7
 rw [hr]; rfl
def eT (p:ByteArray) : ByteArray:=(dQ p).getD ⟨#[]⟩
def dv:Nat→ByteArray→Nat
 | 0,_=>0
 | n + 1,p=>if p.size=0 then 0 else dv n (eT p) + 1
structure Deep (c:aw) : Prop where
 few:c.ae.length≤16
 deep:∀ q∈c.ae,dv 6 q.aF≤4
structure Ar (c:aw) : Prop where
 sz:SzC c
 each:∀ q∈c.ae,q.bl.length=c.ak.length
 up:∀ q∈c.ae,∀ r,y5 q.aF=some r→∀ x∈r,isQ c x=true
 deep:Deep c
 lab1 : 1≤c.ak.length
 leaf:∃ q∈c.ae,BZ c q.aF=true
 lsz:∀ x∈c.ak,x.size≤1000000
theorem yI {c:aw} {p:ByteArray} (h:isQ c p=true) : EH c p∈c.ae∧((EH c p).aF.toList==p.toList)=true:=by
 unfold isQ at h
 unfold EH
 cases hf:c.ae.find? fun q=>q.aF.toList==p.toList with
 | none =>
  rw [List.any_eq_true] at h
  obtain ⟨q,hq,h2⟩:=h
  have:=List.find?_eq_none.1 hf q hq
  exact absurd h2 (by simpa using this)
 | some q=>exact ⟨List.mem_of_find?_eq_some hf,by simpa using List.find?_some hf⟩
theorem rQ {a b:ByteArray} (h:(a.toList==b.toList)=true) : a=b:=by
 have h:a.toList=b.toList:=by simpa using h
 rw [ByteArray.toList_eq,ByteArray.toList_eq] at h
 cases a; cases b
 simp only at h
 congr 1
 exact Array.ext' h
theorem JH {α : Type} {l:List α} {i:Int} (h0 : 0≤i) (h1:i < (l.length:Int)) : ∃ x,av l i=some x∧x∈l:=by
 unfold av
 rw [if_pos h0]
 have:i.toNat < l.length:=by omega
 exact ⟨l[i.toNat],zq this,List.getElem_mem this⟩
theorem FI (s:aa) (p:ByteArray) (k:Int) (b:Bool) (hf:Ar s.bN) (hn:s.aB.length≤1000000) : ∃ r,ta s p k b=some r:=by
 unfold ta
 simp only [mL _ _ hf.sz,zb,orB,nK s k hn]
 cases hc:(!isQ s.bN p||decide (k < 0)||decide (k≥(s.bN.ak.length:Int))) with
 | true=>exact ⟨_,rfl⟩
 | false =>
  simp only [Bool.or_eq_false_iff,Bool.not_eq_false',decide_eq_false_iff_not] at hc
  obtain ⟨⟨hq,hk0⟩,hk1⟩:=hc
  obtain ⟨hm,hp⟩:=yI hq
  have hpe:=rQ hp
  have hps:p.size≤1000000:=by rw [← hpe]; exact hf.sz.paths _ hm
  obtain ⟨up,hup,hul,_⟩:=FL p hps
  have hall:=hf.up _ hm up (by rw [hpe]; exact hup)
  simp only [zf,if_false,hup,zb]
  have hw:∀ i:Int,-1≤i→i≤1000000→i64.wrap (i - 1)=i - 1:=fun i h1 h2=>Hi (by omega) (by omega)
  have hw2:i64.wrap ((up.length:Int) - 2)=(up.length:Int) - 2:=Hi (by omega) (by omega)
  have h:=aM (f:=qQ s up k b) (fun st=>-2≤st.2∧st.2 < (up.length:Int)) (fun st=>(st.2 + 1).toNat) (fun _=>True) (fun st ⟨h1,h2⟩=>by
   unfold qQ
   dsimp only
   by_cases hi:st.2≥0
   ·obtain ⟨x,hx,hxm⟩:=JH (l:=up) hi h2
    have hxq:=hall x hxm
    have hcap:=hf.each _ (yI hxq).1
    obtain ⟨c,hc,_⟩:=JH (l:=(EH s.bN x).bl) (i:=k) (by omega) (by rw [hcap]; omega)
    simp only [hi,decide_true,if_true,hx,zb,mL _ _ hf.sz,hc,Cj,sy,hw st.2 (by omega) (by omega)]
    exact .inl ⟨_,rfl,⟨by show -2≤st.2 - 1; omega,by show st.2 - 1 < _; omega⟩,by show (st.2 - 1 + 1).toNat < (st.2 + 1).toNat; omega⟩
   ·simp only [hi,decide_false,zf,if_false]
    exact .inr ⟨_,rfl,trivial⟩) ab (uM s k,i64.wrap ((up.length:Int) - 2)) ⟨by show -2≤i64.wrap ((up.length:Int) - 2); rw [hw2]; omega,by show i64.wrap ((up.length:Int) - 2) < _; rw [hw2]; omega⟩ (by show (i64.wrap ((up.length:Int) - 2) + 1).toNat < ab; rw [hw2]; unfold ab; omega)
  obtain ⟨r,h1,_⟩:=h
  rw [h1]
  exact ⟨_,rfl⟩
def BG (s:aa) (p:ByteArray) (k:Int) : ax:=(ta s p k true).getD ax.zero
def W3 (s:aa) (p:ByteArray) (k:Int) : ax:=(ta s p k false).getD ax.zero
theorem nL (s:aa) (p:ByteArray) (k:Int) (hf:Ar s.bN) (hn:s.aB.length≤1000000) : lq s p k=some (BG s p k):=by
 obtain ⟨r,hr⟩:=FI s p k true hf hn
 unfold lq BG
 rw [hr]; rfl
theorem FJ (s:aa) (p:ByteArray) (k:Int) (hf:Ar s.bN) (hn:s.aB.length≤1000000) : vG s p k=some (W3 s p k):=by
 obtain ⟨r,hr⟩:=FI s p k false hf hn
 unfold vG W3
 rw [hr]; rfl
def YU (s:aa) (p:ByteArray) (k:Int) : ax:=if isQ s.bN p=true then (Pg (BG s p k) (EH s.bN p).cW).1 else ax.zero
theorem Pt (s:aa) (p:ByteArray) (k:Int) (hf:Ar s.bN) (hn:s.aB.length≤1000000) : DA s p k=some (YU s p k):=by
 unfold DA YU
 simp only [mL _ _ hf.sz,zb,nL s p k hf hn,Cj]
 cases isQ s.bN p <;> rfl
def hH (v_s:aa) (bA:Int) (st:ax) (x_:am) : Option ((ax)⊕((ax×Int))) :=
 let v_v:=st
 if (x_.bG==bA)=true then
 (dc v_v x_.cC).bind fun c4=>let v_v:ax:=c4
 some (.inl v_v)
 else
 some (.inl v_v)
theorem Br (v_s:aa) (bA:Int) (a_:ax) (hl:v_s.ac.length≤1000000) : ah (mZ v_s bA) ab (a_,(0))=bk (hH v_s bA) (fun a_=>(a_,((v_s.ac.length:Int)))) a_ v_s.ac :=
 ay v_s.ac (S:=ax×Int) (fun a_ k_=>(a_,(k_))) (hH v_s bA) (fun a_=>(a_,((v_s.ac.length:Int)))) (an hl) (fun k a x hx=>by
  unfold mZ hH; exact bH)
  (fun a=>by unfold mZ; exact cF) a_
theorem Pp (s:aa) (id:Int) (hl:s.aB.length≤1000000) : nc s id=some (((s.aB.find? fun c=>c.fId==id).map fun c=>(c,true)).getD (aX.zero,false)):=by
 unfold nc
 have h:=ay (S:=Int) s.aB (fun (_:Unit) k=>k) (f:=na s id) (fun _ x=>if (x.fId==id)=true then some (.inr (.inr (x,true))) else some (.inl ())) (fun _=>.inl (s.aB.length:Int)) (an hl)
  (fun k a x hx=>by
   have hk:=(zg.1 hx).1
   unfold na
   simp only [bJ hx,if_true,aC hx,zb]
   split
   ·rfl
   ·simp only [a6 hk hl,Option.map_some])
  (fun a=>by unfold na; simp only [bz]; rfl) ()
 dsimp only
 have h2:=sC (fun x:aX=>x.fId==id) (fun x=>(Sum.inr (x,true) : Int⊕aX×Bool)) (.inl (s.aB.length:Int)) s.aB
 rw [h,h2]
 cases List.find? (fun c=>c.fId==id) s.aB <;> rfl
theorem Bp (s:aa) (n:aX) (hl:s.aB.length + 1≤1000000) : Bq s n=some { s with aB:=cM aX.fId s.aB n } := by
 unfold Bq
 have hl':s.aB.length≤1000000:=by omega
 have h:=xl s.aB (fun x=>decide (x.fId < n.fId)) (f:=oQ s n) (an hl')
  (fun k x hx=>by
   have hk:=(zg.1 hx).1
   unfold oQ
   simp only [bJ hx,if_true,aC hx,zb,a6 hk hl'])
  (by unfold oQ; simp only [bz]; rfl)
 unfold cM
 have hK:=oD (fun x:aX=>decide (x.fId < n.fId)) s.aB
 generalize (s.aB.takeWhile fun x=>decide (x.fId < n.fId)).length=K at h hK ⊢
 dsimp only
 rw [h]
 simp only [zb]
 rw [nZ hK]
 simp only [zb]
 rw [aD (by simp; omega)]
 simp only [zb]
 rw [aD (by simp; omega)]
 simp only [zb]
 by_cases hlt:K < s.aB.length
 ·have hx:s.aB[K]? = some s.aB[K]:=zq hlt
  simp only [bJ hx,if_true,aC hx,zb,hx]
  cases he:(s.aB[K].fId==n.fId) with
  | true =>
   simp only [if_true,zb,a6 hlt hl']
   rw [ko hlt]
   simp only [zb]
   rw [aD (by simp; omega)]
   simp
  | false =>
   simp only [zf,if_false,zb]
   rw [ko hK]
   simp only [zb]
   rw [aD (by simp; omega)]
   simp
 ·have:K=s.aB.length:=by omega
  subst this
  simp only [bz,zf,if_false,zb]
  rw [ko (Nat.le_refl _)]
  simp only [zb]
  rw [aD (by simp; omega)]
  simp
theorem Pn (n:Int) : yW n=some (decide (n≥0)&&decide (n≤1073741824)):=by
 unfold yW
 simp only [dH,zb]
def sN (s:aa) (id:Int) : Bool:=s.aB.any fun c=>c.fId==id
def eP (s:aa) (id:Int) : aX:=(s.aB.find? fun c=>c.fId==id).getD aX.zero
theorem mJ (s:aa) (id:Int) (hl:s.aB.length≤1000000) : nc s id=some (eP s id,sN s id):=by
 rw [Pp s id hl]
 unfold eP sN
 cases h:s.aB.find? fun c=>c.fId==id with
 | none =>
  have:(s.aB.any fun c=>c.fId==id)=false:=by
   rw [List.any_eq_false]; intro x hx; have:=List.find?_eq_none.1 h x hx; simpa using this
  rw [this]; rfl
 | some c =>
  have:(s.aB.any fun c=>c.fId==id)=true:=by
   rw [List.any_eq_true]; exact ⟨c,List.mem_of_find?_eq_some h,by simpa using List.find?_some h⟩
  rw [this]; rfl
def ZO (s:aa) (n:aX) : Bool:=!(decide (n.fId < 0)||decide (n.fId > 999)||decide (n.aY < 0)||decide (n.aY≥(s.bN.ak.length:Int))||decide (n.eR < 0)||decide (n.eR > 99) || !(decide (n.kJ.bD≥0)&&decide (n.kJ.bD≤1073741824)) || !(decide (n.kJ.bj≥0)&&decide (n.kJ.bj≤1073741824)))
def XB (s:aa) (n:aX) : aa×Int :=
 if ZO s n=false then (s,1)
 else if (sN s n.fId&&(eP s n.fId).fUp)=true then (s,7)
 else if (!sN s n.fId&&decide ((s.aB.length:Int)≥12))=true then (s,4)
 else ({ s with aB:=cM aX.fId s.aB ⟨n.fId,n.aY,n.eR,n.kJ,s.bW,0,true⟩ },0)
theorem FG (s:aa) (n:aX) (hl:s.aB.length + 1≤1000000) : qG s n=some (XB s n):=by
 unfold qG XB
 simp only [Pn,orB,zb,mJ s n.fId (by omega),Bp s _ hl,dH]
 unfold ZO
 generalize (decide (n.fId < 0)||decide (n.fId > 999)||decide (n.aY < 0)||decide (n.aY≥(s.bN.ak.length:Int))||decide (n.eR < 0)||decide (n.eR > 99) || !(decide (n.kJ.bD≥0)&&decide (n.kJ.bD≤1073741824)) || !(decide (n.kJ.bj≥0)&&decide (n.kJ.bj≤1073741824)))=b1
 generalize (sN s n.fId&&(eP s n.fId).fUp)=b2
 generalize (!sN s n.fId&&decide ((s.aB.length:Int)≥12))=b3
 cases b1 <;> cases b2 <;> cases b3 <;> rfl
theorem Km (s:aa) (hl:s.aB.length≤1000000) : vF s=some ((s.aB.filter fun b=>b.fUp&&decide (i64.wrap (s.bW - b.bL)≥10)).map aX.fId):=by
 unfold vF
 have h:=ay (S:=List Int×Int) s.aB (fun a k=>(a,k)) (f:=jU s) (fun acc x=>if (x.fUp&&decide (i64.wrap (s.bW - x.bL)≥10))=true then (aU acc [x.fId]).map (fun a=>(.inl a:List Int⊕(List Int×Int))) else some (.inl acc)) (fun a=>(a,(s.aB.length:Int))) (an hl)
  (fun k a x hx=>by
   have hk:=(zg.1 hx).1
   unfold jU
   simp only [bJ hx,if_true,aC hx,zb,dH,a6 hk hl]
   split
   ·cases aU a [x.fId] <;> rfl
   ·rfl)
  (fun a=>by unfold jU; simp only [bz]; rfl) []
 rw [cr (fun b:aX=>b.fUp&&decide (i64.wrap (s.bW - b.bL)≥10)) aX.fId (fun a=>(a,(s.aB.length:Int))) s.aB [] (by simpa using hl)] at h
 dsimp only
 rw [h]
 rfl
def MJ (s:aa) (id b:Int) : aa×Int :=
 if sN s id=false then (s,2)
 else if (eP s id).fUp=false then (s,18)
 else if decide (b < 0)=true then (s,15)
 else if decide (b < (eP s id).ce)=true then (s,15)
 else if decide (i64.wrap (b - (eP s id).ce) > 1)=true then (s,1)
 else ({ s with aB:=cM aX.fId s.aB { eP s id with bL:=s.bW,ce:=b } },0)
theorem Pr (s:aa) (id b:Int) (hl:s.aB.length + 1≤1000000) : Dy s id b=some (MJ s id b):=by
 unfold Dy MJ
 simp only [mJ s id (by omega),zb,Bp s _ hl]
 generalize sN s id=b1
 generalize (eP s id).fUp=b2
 generalize decide (b < 0)=b3
 generalize decide (b < (eP s id).ce)=b4
 generalize decide (i64.wrap (b - (eP s id).ce) > 1)=b5
 cases b1 <;> cases b2 <;> cases b3 <;> cases b4 <;> cases b5 <;> rfl
def RV (s:aa) (id:Int) : aa:=if sN s id=true then { s with aB:=cM aX.fId s.aB { eP s id with fUp:=false } } else s
theorem Pq (s:aa) (id:Int) (hl:s.aB.length + 1≤1000000) : yY s id=some (RV s id):=by
 unfold yY RV
 simp only [mJ s id (by omega),zb,Bp s _ hl]
 generalize sN s id=b1
 cases b1 <;> rfl
def YG (s:aa) (id:Int) : ax:=s.ac.foldl (fun v c=>if (c.bG==id)=true then TA v c.cC else v) ax.zero
theorem Po (s:aa) (id:Int) (hl:s.ac.length≤1000000) : Dx s id=some (YG s id):=by
 unfold Dx
 dsimp only
 rw [Br s id ⟨0,0⟩ hl]
 have:hH s id=fun v c=>some (.inl (if (c.bG==id)=true then TA v c.cC else v)):=by
  funext v c
  unfold hH
  simp only [eu,zb]
  cases (c.bG==id) <;> rfl
 rw [this,w9 (fun (v:ax) (c:am)=>if (c.bG==id)=true then TA v c.cC else v)]
 rfl
def YN (s:aa) (id:Int) : ax:=if (!sN s id || !(eP s id).fUp)=true then ax.zero else VG (eP s id).kJ (YG s id)
theorem FH (s:aa) (id:Int) (hl:s.aB.length≤1000000) (hc:s.ac.length≤1000000) : yX s id=some (YN s id):=by
 unfold yX YN
 simp only [mJ s id hl,zb,orB,Po s id hc,FS]
 generalize (!sN s id || !(eP s id).fUp)=b1
 cases b1 <;> rfl
theorem xd {α : Type} (key : α→Int) (l:List α) (a : α) : (cM key l a).length≤l.length + 1:=by
 unfold cM
 have h:=oD (fun x=>decide (key x < key a)) l
 generalize (l.takeWhile fun x=>decide (key x < key a)).length=K at h ⊢
 simp only [List.length_append,List.length_take,List.length_cons,List.length_drop]
 split
 ·split <;> omega
 ·omega
def jK {α : Type} (key : α→Int) (l:List α) : Prop:=l.Pairwise fun x y=>key x < key y
structure SzA (B:Nat) (a:aq) : Prop where
 queue:a.bF.size≤1000000∧0≤a.bL∧a.bL≤1000000000
 asks:a.bE.length≤B
 grants:a.bM.length≤B
 kills:a.dj.length≤B
 told:a.jH.length≤B
 lost:a.jP.length≤B
def aaA (s:aa) : Prop:=(0≤s.bW∧s.bW≤1000000000)∧∀ n∈s.aB,(0≤n.bL∧n.bL≤1000000000)∧0≤n.ce
structure SzS (B:Nat) (s:aa) : Prop where
 conf:Ar s.bN
 nodes:s.aB.length≤B∧jK aX.fId s.aB∧aaA s
 apps:s.ai.length≤B
 conts:s.ac.length≤B
 slots:s.aQ.length≤B
 plans:s.bg.length≤B
 app:∀ a∈s.ai,SzA B a
theorem SzA.mono {B C:Nat} {a:aq} (h:SzA B a) (hc:B≤C) : SzA C a:=⟨h.queue,Nat.le_trans h.asks hc,Nat.le_trans h.grants hc,Nat.le_trans h.kills hc,Nat.le_trans h.told hc,Nat.le_trans h.lost hc⟩
theorem SzS.mono {B C:Nat} {s:aa} (h:SzS B s) (hc:B≤C) : SzS C s:=⟨h.conf,⟨Nat.le_trans h.nodes.1 hc,h.nodes.2⟩,Nat.le_trans h.apps hc,Nat.le_trans h.conts hc,Nat.le_trans h.slots hc,Nat.le_trans h.plans hc,fun a ha=>(h.app a ha).mono hc⟩
theorem SzA.zero (B:Nat) : SzA B aq.zero:=⟨⟨Nat.zero_le _,Int.le_refl _,by decide⟩,Nat.zero_le _,Nat.zero_le _,Nat.zero_le _,Nat.zero_le _,Nat.zero_le _⟩
theorem SzS.get {B:Nat} {s:aa} (h:SzS B s) (id:Int) : SzA B (bQ s id):=by
 unfold bQ
 cases hf:s.ai.find? fun c=>c.fId==id with
 | none=>exact SzA.zero B
 | some a=>exact h.app a (List.mem_of_find?_eq_some hf)
theorem mB {α : Type} {key : α→Int} {l:List α} {a x : α} (h:x∈cM key l a) : x=a∨x∈l:=by
 unfold cM at h
 simp only [List.mem_append,List.mem_cons] at h
 rcases h with h | h | h
 ·exact .inr (List.mem_of_mem_take h)
 ·exact .inl h
 ·exact .inr (List.mem_of_mem_drop h)
theorem SzS.put {B:Nat} {s:aa} (h:SzS B s) {a:aq} (ha:SzA (B + 1) a) : SzS (B + 1) { s with ai:=cM aq.fId s.ai a } :=
 ⟨h.conf,⟨Nat.le_trans h.nodes.1 (Nat.le_succ _),h.nodes.2⟩,Nat.le_trans (xd _ _ _) (Nat.succ_le_succ h.apps),Nat.le_trans h.conts (Nat.le_succ _),Nat.le_trans h.slots (Nat.le_succ _),Nat.le_trans h.plans (Nat.le_succ _),fun x hx=>by
  rcases mB hx with rfl | hx
  ·exact ha
  ·exact (h.app x hx).mono (Nat.le_succ _)⟩
theorem SzS.fewer {B:Nat} {s:aa} (h:SzS B s) {c:List am} {l:List bt} (hc:c.length≤s.ac.length) (hl:l.length≤s.aQ.length) : SzS B { s with ac:=c,aQ:=l } := ⟨h.conf,h.nodes,h.apps,Nat.le_trans hc h.conts,Nat.le_trans hl h.slots,h.plans,h.app⟩
theorem zX (a p:ByteArray) (ha:a.size≤1000000) : ∃ r,mQ a p=some r:=by
 obtain ⟨u,h1,h2,h3⟩:=FL a ha
 unfold mQ
 rw [h1]
 dsimp only [zb]
 rw [xQ u p () (by omega),show iJ u p=fun (_:Unit) x=>if (x.toList==p.toList)=true then some (.inr (.inr true)) else some (.inl ()) from rfl,
  kA (fun x:ByteArray=>x.toList==p.toList) (fun _=>(Sum.inr true:Int⊕Bool)) (.inl (u.length:Int)) u]
 simp only [zb]
 cases u.find? fun x=>x.toList==p.toList <;> exact ⟨_,rfl⟩
theorem Cq {B:Nat} {s:aa} (h:SzS B s) (hB:B≤1000000) (p:ByteArray) (k:Int) (all:Bool) (u:Int) : ∃ r,u6 s p k all u=some r:=by
 have h1:=h.apps; have h2:=h.conts
 unfold u6
 dsimp only
 rw [zW s k p all u _ (by omega)]
 obtain ⟨r,e1,_⟩:=aR (g:=gz s k p all u) (fin:=fun b=>(b,(s.ac.length:Int))) (fun _ _=>True) (fun _=>True) s.ac 0 (⟨0,0⟩ : ax) (fun j t x hx _=>by
  obtain ⟨b,hb⟩:=zX (bQ s x.bC).bF p (h.get x.bC).queue.1
  unfold gz
  simp only [dy s x.bC (by omega),zb,dH,hb,eu]
  cases wB s x.bC <;> cases (x.aY==k) <;> cases b <;> cases all <;> cases ((bQ s x.bC).cW==u) <;> exact ⟨_,rfl,fun _ _=>trivial,fun _ _=>trivial⟩) (fun _ _=>trivial) trivial
 rw [e1]
 exact ⟨_,rfl⟩
theorem fp {B:Nat} {s:aa} (h:SzS B s) (hB:B≤1000000) (p:ByteArray) (k:Int) : ∃ r,eG s p k=some r:=by
 obtain ⟨r,e⟩:=Cq h hB p k true 0
 exact ⟨r,by unfold eG; rw [e]; rfl⟩
theorem CP {B:Nat} {s:aa} (h:SzS B s) (hB:B≤1000000) (p:ByteArray) (k u:Int) : ∃ r,oV s p k u=some r:=by
 obtain ⟨r,e⟩:=Cq h hB p k false u
 exact ⟨r,by unfold oV; rw [e]; rfl⟩
theorem u9 {B:Nat} {s:aa} (h:SzS B s) (hB:B≤1000000) (p:ByteArray) (k:Int) : ∃ r,nR s p k=some r:=by
 have h1:=h.apps
 unfold nR
 dsimp only
 rw [va s k p _ (by omega)]
 obtain ⟨r,e1,_⟩:=aR (g:=dS s k p) (fin:=fun b=>(b,(s.ai.length:Int))) (fun _ _=>True) (fun _=>True) s.ai 0 (⟨0,0⟩ : ax) (fun j t x hx _=>by
  have hm:=h.app x (List.mem_of_getElem? hx)
  have ha:=hm.asks
  obtain ⟨b,hb⟩:=zX x.bF p hm.queue.1
  unfold dS
  simp only [ec,zb,hb,G0 x.bE k (by omega),eu]
  cases LM x <;> cases b <;> exact ⟨_,rfl,fun _ _=>trivial,fun _ _=>trivial⟩) (fun _ _=>trivial) trivial
 rw [e1]
 exact ⟨_,rfl⟩
theorem Cs {B:Nat} {s:aa} (h:SzS B s) (hB:B≤1000000) (p:ByteArray) (hp:p.size≤1000000) (k:Int) (v:ax) : ∃ r,u7 s p k v=some r:=by
 obtain ⟨u,h1,h2,h3⟩:=FL p hp
 have k1:=h.nodes.1; have k2:=h.plans
 unfold u7
 rw [h1]
 dsimp only [zb]
 rw [zY u s k v () (by omega)]
 obtain ⟨r,e1,_⟩:=aR (g:=gA u s k v) (fin:=fun _=>(.inl (u.length:Int))) (fun _ _=>True) (fun _=>True) u 0 () (fun j t x hx _=>by
  obtain ⟨w,hw⟩:=fp h hB x k
  unfold gA
  simp only [hw,zb,eu,FJ s x k h.conf (by omega),kx,nK s k (by omega),Pv s k (by omega),FS]
  generalize X9 (TA w v) (W3 s x k)=b1
  generalize X9 (TA w v) (VG (uM s k) (W7 s k))=b2
  generalize (x.toList==(⟨#[114,111,111,116]⟩ : ByteArray).toList)=b3
  cases b1 <;> cases b2 <;> cases b3 <;> exact ⟨_,rfl,fun _ _=>trivial,fun _ _=>trivial⟩) (fun _ _=>trivial) trivial
 rw [e1]
 simp only [zb]
 cases r <;> exact ⟨_,rfl⟩
theorem KJ {B:Nat} {s:aa} (h:SzS B s) (hB:B≤1000000) (a b:ByteArray) (k:Int) : ∃ r,vT s a b k=some r:=by
 obtain ⟨u,hu⟩:=fp h hB a k
 obtain ⟨w,hw⟩:=fp h hB b k
 have k1:=h.nodes.1
 unfold vT
 simp only [hu,hw,nL s _ k h.conf (Nat.le_trans k1 hB),M8,zb,dH,orB]
 exact ⟨_,rfl⟩
theorem nB {α : Type} (out:List α) (hl:out.length≤1000000) {f:Int→Option (Int⊕Int)} (h:∀ (k:Nat) (x : α),out[k]? = some x→∃ b,f (k:Int)=if b=true then some (.inl ((k + 1:Nat) : Int)) else some (.inr (k:Int)))
  (hend:f (out.length:Int)=some (.inr (out.length:Int))) : ∃ K:Nat,ah f ab 0=some (K:Int)∧K≤out.length:=by
 obtain ⟨r,h1,K,h2,h3⟩:=aM (f:=f) (fun st=>∃ k:Nat,st=(k:Int)∧k≤out.length) (fun st=>out.length - st.toNat) (fun r=>∃ k:Nat,r=(k:Int)∧k≤out.length) (fun st ⟨k,e,hk⟩=>by
  subst e
  by_cases hlt:k < out.length
  ·obtain ⟨b,hb⟩:=h k _ (zq hlt)
   rw [hb]
   cases b with
   | true=>exact .inl ⟨_,rfl,⟨k + 1,rfl,hlt⟩,by simp only [zt]; omega⟩
   | false=>exact .inr ⟨_,rfl,k,rfl,hk⟩
  ·have:k=out.length:=by omega
   subst this
   exact .inr ⟨_,hend,_,rfl,Nat.le_refl _⟩) ab 0 ⟨0,rfl,Nat.zero_le _⟩ (by have:=an hl; omega)
 subst h2
 exact ⟨K,h1,h3⟩
theorem mu {σ α τ : Type} {g : σ→Int→α→Option (σ⊕τ)} {fin : σ→τ} (I:Nat→σ→Prop) (Q : τ→Prop) : ∀ (l:List α) (k:Nat) (a : σ),(∀ (j:Nat) (a : σ) (x : α),l[j]? = some x→I (k + j) a→∃ o,g a ((k + j:Nat) : Int) x=some o∧(∀ a',o = .inl a'→I (k + j + 1) a')∧∀ r,o = .inr r→Q r)→(∀ a,I (k + l.length) a→Q (fin a))→I k a→∃ r,ny g fin a k l=some r∧Q r
 | [],k,a,_,hf,hI=>⟨fin a,rfl,hf a hI⟩
 | x::l,k,a,h,hf,hI=>by
  obtain ⟨o,h1,h2,h3⟩:=h 0 a x rfl hI
  simp only [Nat.add_zero] at h1
  simp only [ny,h1]
  cases o with
  | inr r=>exact ⟨r,rfl,h3 r rfl⟩
  | inl a' =>
   refine mu I Q l (k + 1) a' (fun j b y hy hb=>?_) (fun b hb=>hf b (by simpa [Nat.add_assoc,Nat.add_comm 1] using hb)) (h2 a' rfl)
   have:=h (j + 1) b y hy (by rwa [Nat.add_right_comm] at hb)
   rwa [Nat.add_right_comm k 1 j,Nat.add_assoc k j 1]
theorem NH {B:Nat} {s:aa} (h:SzS B s) (hB:B≤1000000) (p:ByteArray) (k:Int) : ∃ l r,ff s.bN p=some l∧zS s p k=some r∧r.length≤l.length∧∀ x∈r,x∈l:=by
 obtain ⟨l,h1,h2,h3⟩:=tc s.bN p h.conf.sz
 have k2:=h.conf.sz.queues
 have hl:l.length≤1000:=by omega
 unfold zS
 simp only [h1]
 dsimp only [zb]
 rw [zR l s k [] (by omega)]
 obtain ⟨r,e1,e2⟩:=mu (g:=gw l s k) (fin:=fun b=>(b,(l.length:Int))) (fun j b=>b.length≤j∧∀ x∈b,x∈l) (fun r=>r.1.length≤l.length∧∀ x∈r.1,x∈l) l 0 [] (fun j out x hx ⟨ho,hm⟩=>by
  have hj:=(zg.1 hx).1
  obtain ⟨K,hK1,hK2⟩:=nB out (by omega) (f:=jc out s ((0 + j:Nat) : Int) l k) (fun i y hy=>by
   have hi:=(zg.1 hy).1
   obtain ⟨b,hb⟩:=KJ h hB x y k
   refine ⟨!b,?_⟩
   unfold jc
   simp only [bJ hy,if_true,aC hy,aC (show l[0 + j]? = some x by rwa [Nat.zero_add]),hb,zb,a6 hi (show out.length≤1000000 by omega)]) (by unfold jc; simp only [bz,zf,if_false,zb])
  unfold gw
  dsimp only
  rw [hK1]
  simp only [zb]
  rw [nZ hK2]
  simp only [zb]
  rw [aD (by simp; omega)]
  simp only [zb]
  rw [aD (by simp; omega)]
  simp only [zb]
  rw [ko hK2]
  simp only [zb]
  rw [aD (by simp; omega)]
  refine ⟨_,rfl,fun a' e=>?_,fun r e=>by cases e⟩
  injection e with e
  subst e
  refine ⟨by simp; omega,fun y hy=>?_⟩
  simp only [List.nil_append,List.mem_append,List.mem_singleton] at hy
  rcases hy with (hy | rfl) | hy
  ·exact hm y (List.mem_of_mem_take hy)
  ·exact List.mem_of_getElem? hx
  ·exact hm y (List.mem_of_mem_drop hy)) (fun b ⟨hb,hm⟩=>⟨by simpa using hb,hm⟩) ⟨by simp,by simp⟩
 rw [e1]
 exact ⟨l,_,rfl,rfl,e2.1,e2.2⟩
theorem NI {B:Nat} {s:aa} (h:SzS B s) (hB:B≤1000000) (q:ByteArray) : ∃ r,zV s q=some r∧r.length≤B∧∀ i∈r,∃ x∈s.ai,x.fId=i:=by
 have k1:=h.apps
 unfold zV
 dsimp only
 rw [zU s q [] (by omega)]
 obtain ⟨r,e1,e2⟩:=aR (g:=gy s q) (fin:=fun b=>(b,(s.ai.length:Int))) (fun j b=>b.length≤j∧∀ y∈b,y∈s.ai) (fun r=>r.1.length≤s.ai.length∧∀ y∈r.1,y∈s.ai) s.ai 0 [] (fun j out x hx ⟨ho,hm⟩=>by
  have hj:=(zg.1 hx).1
  unfold gy
  simp only [ec,zb,orB]
  split
  ·exact ⟨_,rfl,fun a' e=>by injection e with e; subst e; exact ⟨Nat.le_succ_of_le ho,hm⟩,fun r e=>by cases e⟩
  obtain ⟨K,hK1,hK2⟩:=nB out (by omega) (f:=jd out x) (fun i y hy=>by
   have hi:=(zg.1 hy).1
   refine ⟨decide (y.bu≥x.bu),?_⟩
   unfold jd
   simp only [bJ hy,if_true,aC hy,zb,a6 hi (show out.length≤1000000 by omega)]) (by unfold jd; simp only [bz,zf,if_false,zb])
  rw [hK1]
  simp only [zb]
  rw [nZ hK2]
  simp only [zb]
  rw [aD (by simp; omega)]
  simp only [zb]
  rw [aD (by simp; omega)]
  simp only [zb]
  rw [ko hK2]
  simp only [zb]
  rw [aD (by simp; omega)]
  refine ⟨_,rfl,fun a' e=>?_,fun r e=>by cases e⟩
  injection e with e
  subst e
  refine ⟨by show (([] ++ out.take K ++ [x])++out.drop K).length≤0 + j + 1; simp; omega,fun y hy=>?_⟩
  simp only [List.nil_append,List.mem_append,List.mem_singleton] at hy
  rcases hy with (hy | rfl) | hy
  ·exact hm y (List.mem_of_mem_take hy)
  ·exact List.mem_of_getElem? hx
  ·exact hm y (List.mem_of_mem_drop hy)) (fun b ⟨hb,hm⟩=>⟨by simpa using hb,hm⟩) ⟨by simp,by simp⟩
 rw [e1]
 simp only [zb]
 have e:gx r.1=fun acc (x:aq)=>if true=true then (aU acc [x.fId]).map (fun a=>(.inl a:List Int⊕(List Int×Int))) else some (.inl acc):=by
  funext acc x
  unfold gx
  simp only [if_true]
  cases aU acc [x.fId] <;> rfl
 have e3:=e2.1
 rw [zT r.1 [] (by omega),e,cr (fun _=>true) aq.fId _ r.1 [] (by simp; omega)]
 refine ⟨_,rfl,?_,fun i hi=>?_⟩
 ·have hf:=List.length_filter_le (fun _:aq=>true) r.1
  rw [List.nil_append,List.length_map]
  omega
 ·rw [List.nil_append,List.mem_map] at hi
  obtain ⟨y,hy,e4⟩:=hi
  exact ⟨y,e2.2 y (List.mem_filter.1 hy).1,e4⟩
theorem Cc:∀ (n:Nat) (p:ByteArray),dv n p < n→dv (n + 1) p=dv n p
 | 0,_,h=>absurd h (Nat.not_lt_zero _)
 | n + 1,p,h=>by
  unfold dv at h ⊢
  split
  ·rfl
  ·rename_i h0
   rw [if_neg h0] at h
   rw [Cc n _ (by omega)]
theorem Ir {x p:ByteArray} (hx:dQ x=some p) (hp : 0 < p.size) (xs:x.size≤1000000) (hd:dv 6 x≤4) : dv 6 p + 1=dv 6 x:=by
 obtain ⟨r,h1,h2⟩:=nM x xs
 rw [hx] at h1
 injection h1 with h1
 subst h1
 have e:dv 6 x=dv 5 p + 1:=by
  show (if x.size=0 then 0 else dv 5 (eT x) + 1) = _
  rw [if_neg (by omega)]
  unfold eT
  rw [hx]
  rfl
 rw [e] at hd ⊢
 rw [Cc 5 p (by omega)]
theorem Cg (c:aw) (p:ByteArray) (h:SzC c) {l:List ByteArray} (hl:ff c p=some l) : ∀ x∈l,(∃ q∈c.ae,q.aF=x)∧dQ x=some p∧0 < p.size:=by
 unfold ff at hl
 have hs:=jp c p [] (by have:=h.queues; omega)
 dsimp only at hl
 rw [hs] at hl
 obtain ⟨r,h1,h2⟩:=aR (g:=cA c p) (fin:=fun a=>(a,(c.ae.length:Int))) (fun k a=>a.length≤k∧∀ x∈a,(∃ q∈c.ae,q.aF=x)∧dQ x=some p∧0 < p.size) (fun r=>∀ x∈r.1,(∃ q∈c.ae,q.aF=x)∧dQ x=some p∧0 < p.size) c.ae 0 [] (fun j a x hx ⟨h1,h2⟩=>by
  have hm:=List.mem_of_getElem? hx
  have hj:=(zg.1 hx).1
  obtain ⟨r,hr,_⟩:=nM x.aF (h.paths x hm)
  have hqs:=h.queues
  unfold cA
  simp only [hr,zb,dH]
  split
  ·rename_i hc
   rw [Bool.and_eq_true] at hc
   rw [aD (by simp; omega)]
   refine ⟨_,rfl,fun a' e=>?_,fun r e=>by cases e⟩
   injection e with e
   subst e
   refine ⟨by simp; omega,fun y hy=>?_⟩
   simp only [List.mem_append,List.mem_singleton] at hy
   rcases hy with hy | rfl
   ·exact h2 y hy
   ·exact ⟨⟨x,hm,rfl⟩,by rw [hr,rQ hc.2],qw hc.1⟩
  ·refine ⟨_,rfl,fun a' e=>?_,fun r e=>by cases e⟩
   injection e with e
   subst e
   exact ⟨by omega,h2⟩) (fun a ⟨h1,h2⟩=>h2) ⟨by simp,by simp⟩
 rw [h1] at hl
 injection hl with hl
 subst hl
 exact h2
def yE (self:aa→ByteArray→Int→Option (List ByteArray)) (s:aa) (k:Int) (out:List ByteArray) (x:ByteArray) : Option (List ByteArray⊕(List ByteArray×Int)) :=
 (self s x k).bind fun c=>(aU out c).bind fun b=>some (.inl b)
theorem LR (self:aa→ByteArray→Int→Option (List ByteArray)) (l:List ByteArray) (s:aa) (k:Int) (hl:l.length≤1000000) : ah (jA self l s k) ab ([],0)=bk (yE self s k) (fun a=>(a,(l.length:Int))) [] l :=
 ay l (S:=List ByteArray×Int) (fun a k=>(a,k)) (yE self s k) (fun a=>(a,(l.length:Int))) (an hl) (fun i a x hx=>by
  have hk:=(zg.1 hx).1
  unfold jA yE
  simp only [bJ hx,if_true,aC hx,zb,a6 hk hl,HF,Option.map_some])
  (fun a=>by unfold jA; exact cF) []
theorem wG {B:Nat} {s:aa} (h:SzS B s) (hD:Deep s.bN) (hB:B≤1000000) (k:Int) : ∀ (d n:Nat) (p:ByteArray),4 - dv 6 p≤d→d < n→d≤4→∃ r,jb n s p k=some r∧r.length≤16 ^ d
 | d,0,p,_,hn,_=>absurd hn (Nat.not_lt_zero _)
 | d,n + 1,p,hp,hn,hd=>by
  obtain ⟨l,m,h1,h2,h3,h4⟩:=NH h hB p k
  obtain ⟨l',e1,e2,_⟩:=tc s.bN p h.conf.sz
  rw [h1] at e1
  injection e1 with e1
  subst e1
  have hq:=hD.few
  unfold jb
  simp only [h2,zb]
  split
  ·exact ⟨_,rfl,by show 1≤16 ^ d; exact Nat.one_le_pow _ _ (by omega)⟩
  ·rename_i hne
   have hm : 0 < m.length:=by
    rcases Nat.eq_zero_or_pos m.length with h0 | h0
    ·rw [h0] at hne; exact absurd rfl hne
    ·exact h0
   have kid:=Cg s.bN p h.conf.sz h1
   have kd:∀ x∈m,dv 6 p + 1=dv 6 x∧dv 6 x≤4:=fun x hx=>by
    obtain ⟨⟨q,hq1,hq2⟩,a1,a2⟩:=kid x (h4 x hx)
    subst hq2
    exact ⟨Ir a1 a2 (h.conf.sz.paths q hq1) (hD.deep q hq1),hD.deep q hq1⟩
   have hd0 : 0 < d:=by
    obtain ⟨a1,a2⟩:=kd m[0] (List.getElem_mem hm)
    omega
   obtain ⟨d',rfl⟩ : ∃ d',d=d' + 1:=⟨d - 1,by omega⟩
   have hpow : 16 ^ d'≤16 ^ 3:=Nat.pow_le_pow_right (by omega) (by omega)
   rw [LR _ m s k (by omega)]
   obtain ⟨r,r1,r2⟩:=aR (g:=yE (jb n) s k) (fin:=fun a=>(a,(m.length:Int))) (fun j a=>a.length≤j * 16 ^ d') (fun r=>r.1.length≤m.length * 16 ^ d') m 0 [] (fun j a x hx ha=>by
    have hj:=(zg.1 hx).1
    obtain ⟨a1,a2⟩:=kd x (List.mem_of_getElem? hx)
    obtain ⟨c,c1,c2⟩:=wG h hD hB k d' n x (by omega) (by omega) (by omega)
    have hj2:(0 + j) * 16 ^ d'≤16 * 16 ^ 3:=Nat.mul_le_mul (by omega) hpow
    unfold yE
    rw [c1]
    simp only [zb]
    rw [aD (by omega)]
    refine ⟨_,rfl,fun a' e=>?_,fun r e=>by cases e⟩
    injection e with e
    subst e
    rw [List.length_append,Nat.succ_mul]
    omega) (fun a ha=>by simpa using ha) (by simp)
   rw [r1]
   refine ⟨_,rfl,Nat.le_trans r2 ?_⟩
   rw [Nat.pow_succ,Nat.mul_comm]
   exact Nat.mul_le_mul_left _ (by omega)
theorem Ha {B:Nat} {s:aa} (h:SzS B s) (hD:Deep s.bN) (hB:B≤1000000) (k:Int) : ∃ r,tm s k=some r∧r.length≤65536:=by
 obtain ⟨r,h1,h2⟩:=wG h hD hB k 4 ab ⟨#[114,111,111,116]⟩ (by omega) (by unfold ab; omega) (by omega)
 unfold tm
 rw [h1]
 exact ⟨_,rfl,h2⟩
def Ok {α : Type} (o:Option α) (P : α→Prop) : Prop:=∃ r,o=some r∧P r
theorem Ok.bind {α β : Type} {o:Option α} {f : α→Option β} {P : α→Prop} {Q : β→Prop} (h1:Ok o P) (h2:∀ r,P r→Ok (f r) Q) : Ok (Option.bind o f) Q:=by
 obtain ⟨r,e,hr⟩:=h1
 rw [e]
 exact h2 r hr
theorem Ok.ite {α : Type} {c:Prop} [Decidable c] {a b:Option α} {Q : α→Prop} (h1:c→Ok a Q) (h2 : ¬c→Ok b Q) : Ok (if c then a else b) Q:=by
 by_cases h:c
 ·rw [if_pos h]; exact h1 h
 ·rw [if_neg h]; exact h2 h
theorem Ok.pure {α : Type} {a : α} {Q : α→Prop} (h:Q a) : Ok (some a) Q:=⟨a,rfl,h⟩
theorem Ok.weak {α : Type} {o:Option α} {P Q : α→Prop} (h:Ok o P) (hq:∀ r,P r→Q r) : Ok o Q:=by
 obtain ⟨r,e,hr⟩:=h
 exact ⟨r,e,hq r hr⟩
theorem D0 {σ α τ : Type} {g : σ→α→Option (σ⊕τ)} {fin : σ→τ} (I:Nat→σ→Prop) (l:List α) (a : σ) (h:∀ (j:Nat) (a : σ) (x : α),l[j]? = some x→I j a→Ok (g a x) (fun o=>∃ a',o = .inl a'∧I (j + 1) a')) (hI:I 0 a) : Ok (bk g fin a l) (fun r=>∃ a',r=fin a'∧I l.length a'):=by
 refine aR I _ l 0 a (fun j a x hx ha=>?_) (fun a ha=>⟨a,rfl,by simpa using ha⟩) hI
 obtain ⟨o,e,a',h1,h2⟩:=h j a x hx (by simpa using ha)
 subst h1
 exact ⟨_,e,fun a'' e=>(by injection e with e; subst e; simpa using h2),fun r e=>(by cases e)⟩
theorem ub {σ α τ : Type} {g : σ→Int→α→Option (σ⊕τ)} {fin : σ→τ} (I:Nat→σ→Prop) (l:List α) (a : σ) (h:∀ (j:Nat) (a : σ) (x : α),l[j]? = some x→I j a→Ok (g a (j:Int) x) (fun o=>∃ a',o = .inl a'∧I (j + 1) a')) (hI:I 0 a) : Ok (ny g fin a 0 l) (fun r=>∃ a',r=fin a'∧I l.length a'):=by
 refine mu I _ l 0 a (fun j a x hx ha=>?_) (fun a ha=>⟨a,rfl,by simpa using ha⟩) hI
 obtain ⟨o,e,a',h1,h2⟩:=h j a x hx (by simpa using ha)
 subst h1
 exact ⟨_,by simpa using e,fun a'' e=>(by injection e with e; subst e; simpa using h2),fun r e=>(by cases e)⟩
theorem jl {α : Type} {l:List α} {i:Int} (h0 : 0≤i) (h1:i < (l.length:Int)) : Ok (av l i) (fun x=>x∈l):=by
 obtain ⟨x,h⟩:=JH h0 h1
 exact ⟨x,h.1,h.2⟩
theorem De {a n:Int} (hn : 0 < n) : -n < a.tmod n∧a.tmod n < n:=by
 constructor
 ·have:=Int.lt_tmod_of_pos a hn; omega
 ·exact Int.tmod_lt_of_pos a hn
def eF (v_s:aa) (ct:Int) (st:(List bt)) (x_:bt) : Option (((List bt))⊕(((List bt)×Int))) :=
 let v_l:=st
 if (x_.bG != ct)=true then
 (aU v_l [x_]).bind fun b4=>let v_l:(List bt):=b4
 some (.inl v_l)
 else
 some (.inl v_l)
theorem wj (v_s:aa) (ct:Int) (a_:(List bt)) (hl:v_s.aQ.length≤1000000) : ah (jz v_s ct) ab (a_,(0))=bk (eF v_s ct) (fun a_=>(a_,((v_s.aQ.length:Int)))) a_ v_s.aQ :=
 ay v_s.aQ (S:=(List bt)×Int) (fun a_ k_=>(a_,(k_))) (eF v_s ct) (fun a_=>(a_,((v_s.aQ.length:Int)))) (an hl) (fun k a x hx=>by
  unfold jz eF; exact bH)
  (fun a=>by unfold jz; exact cF) a_
def jy (v_s:aa) (ct:Int) (st:Unit) (x_:bt) : Option ((Unit)⊕((Int)⊕(bt×Bool))) :=
 if (x_.bG==ct)=true then
 some (.inr (.inr (x_,true)))
 else
 some (.inl ())
theorem zJ (v_s:aa) (ct:Int) (a_:Unit) (hl:v_s.aQ.length≤1000000) : ah (lL v_s ct) ab (0)=bk (jy v_s ct) (fun a_=>(.inl ((v_s.aQ.length:Int)))) a_ v_s.aQ :=
 ay v_s.aQ (S:=Int) (fun a_ k_=>(k_)) (jy v_s ct) (fun a_=>(.inl ((v_s.aQ.length:Int)))) (an hl) (fun k a x hx=>by
  unfold lL jy; exact bH)
  (fun a=>by unfold lL; exact cF) a_
def fo (v_s:aa) (eW:Int) (cH:Int) (st:Unit) (x_:bt) : Option ((Unit)⊕((Int)⊕(Bool))) :=
 (if (x_.bC==eW)=true then some (x_.bu==cH) else some false).bind fun q4=>if q4=true then
 some (.inr (.inr true))
 else
 some (.inl ())
theorem xP (v_s:aa) (eW:Int) (cH:Int) (a_:Unit) (hl:v_s.aQ.length≤1000000) : ah (ke v_s eW cH) ab (0)=bk (fo v_s eW cH) (fun a_=>(.inl ((v_s.aQ.length:Int)))) a_ v_s.aQ :=
 ay v_s.aQ (S:=Int) (fun a_ k_=>(k_)) (fo v_s eW cH) (fun a_=>(.inl ((v_s.aQ.length:Int)))) (an hl) (fun k a x hx=>by
  unfold ke fo; exact bH)
  (fun a=>by unfold ke; exact cF) a_
theorem uh {α : Type} (key : α→Int) (x : α) (l:List α) (a : α) : cM key (x::l) a=if key x < key a then x::cM key l a else if key x=key a then a::l else a::x::l:=by
 unfold cM
 by_cases h:key x < key a
 ·rw [if_pos h]
  have hd:decide (key x < key a)=true:=by simpa using h
  simp only [List.takeWhile_cons,hd,if_true,List.length_cons,List.take_succ_cons,List.getElem?_cons_succ,List.cons_append]
  generalize (l.takeWhile fun x=>decide (key x < key a)).length=K
  cases l[K]? with
  | none=>rfl
  | some y =>
   dsimp only
   split <;> rfl
 ·rw [if_neg h]
  have hd:decide (key x < key a)=false:=by simpa using h
  simp only [List.takeWhile_cons,hd,zf,if_false,List.length_nil,List.take_zero,List.nil_append,List.getElem?_cons_zero,Nat.zero_add]
  by_cases he:key x=key a
  ·rw [if_pos he]
   have hb:(key x==key a)=true:=by simpa using he
   simp [hb]
  ·rw [if_neg he]
   have hb:(key x==key a)=false:=by simpa using he
   simp [hb]
theorem qM {α : Type} (key : α→Int) (a : α) : ∀ l:List α,jK key l→(∃ x∈l,key x=key a)→(cM key l a).length=l.length
 | [],_,⟨x,hx,_⟩=>by cases hx
 | y::l,hs,⟨x,hx,he⟩=>by
  have hs':=List.pairwise_cons.1 hs
  rw [uh]
  split
  ·rename_i h
   rcases List.mem_cons.1 hx with rfl | hx
   ·omega
   ·rw [List.length_cons,List.length_cons,qM key a l hs'.2 ⟨x,hx,he⟩]
  ·split
   ·rfl
   ·rename_i h1 h2
    rcases List.mem_cons.1 hx with rfl | hx
    ·exact absurd he h2
    ·have:=hs'.1 x hx
     omega
theorem iR {α : Type} (key : α→Int) (a : α) : ∀ l:List α,jK key l→jK key (cM key l a)
 | [],_=>List.pairwise_singleton _ _
 | y::l,hs=>by
  have hs':=List.pairwise_cons.1 hs
  rw [uh]
  split
  ·rename_i h
   refine List.pairwise_cons.2 ⟨fun x hx=>?_,iR key a l hs'.2⟩
   rcases mB hx with rfl | hx
   ·exact h
   ·exact hs'.1 x hx
  ·split
   ·rename_i h1 h2
    exact List.pairwise_cons.2 ⟨fun x hx=>by have:=hs'.1 x hx; omega,hs'.2⟩
   ·rename_i h1 h2
    refine List.pairwise_cons.2 ⟨fun x hx=>?_,hs⟩
    rcases List.mem_cons.1 hx with rfl | hx
    ·omega
    ·have:=hs'.1 x hx; omega
theorem D6 {α : Type} (key : α→Int) (a : α) (i:Int) : ∀ l:List α,(∃ x∈l,key x=i)→∃ x∈cM key l a,key x=i
 | [],⟨x,hx,_⟩=>by cases hx
 | y::l,⟨x,hx,he⟩=>by
  rw [uh]
  split
  ·rcases List.mem_cons.1 hx with rfl | hx
   ·exact ⟨x,List.mem_cons_self,he⟩
   ·obtain ⟨z,hz,hz2⟩:=D6 key a i l ⟨x,hx,he⟩
    exact ⟨z,List.mem_cons_of_mem _ hz,hz2⟩
  ·split
   ·rename_i h1 h2
    rcases List.mem_cons.1 hx with rfl | hx
    ·exact ⟨a,List.mem_cons_self,by omega⟩
    ·exact ⟨x,List.mem_cons_of_mem _ hx,he⟩
   ·exact ⟨x,List.mem_cons_of_mem _ hx,he⟩
theorem SzS.putIn {B:Nat} {s:aa} (h:SzS B s) (hs:jK aq.fId s.ai) {a:aq} (hi:∃ x∈s.ai,x.fId=a.fId) (ha:SzA B a) : SzS B { s with ai:=cM aq.fId s.ai a } :=
 ⟨h.conf,h.nodes,by show (cM _ _ _).length≤B; rw [qM _ _ _ hs hi]; exact h.apps,h.conts,h.slots,h.plans,fun x hx=>by
  rcases mB hx with rfl | hx
  ·exact ha
  ·exact h.app x hx⟩
def VF (a:aL) (n:aX) : Int:=(mP a n).getD 0
theorem zP (a:aL) (n:aX) : mP a n=some (VF a n):=by
 have:∃ r,mP a n=some r:=by
  unfold mP
  simp only [dH,orB,zb]
  repeat' split
  all_goals exact ⟨_,rfl⟩
 obtain ⟨r,e⟩:=this
 unfold VF
 rw [e]
 rfl
def ZR (a:aL) (n:aX) : Bool:=(tj a n).getD false
theorem F8 (a:aL) (n:aX) : tj a n=some (ZR a n):=by
 have:∃ r,tj a n=some r:=by
  unfold tj
  simp only [zP,zb]
  repeat' split
  all_goals exact ⟨_,rfl⟩
 obtain ⟨r,e⟩:=this
 unfold ZR
 rw [e]
 rfl
theorem F6 {B:Nat} {s:aa} (h:SzS B s) (hB:B≤1000000) (q:ByteArray) (a:aL) : ∃ r,zN s q a=some r:=by
 obtain ⟨u,hu⟩:=fp h hB q a.aY
 have k2:=h.nodes.1
 unfold zN
 simp only [hu,eu,nL s _ _ h.conf (Nat.le_trans k2 hB),kx,zb]
 exact ⟨_,rfl⟩
theorem Cn {B:Nat} {s:aa} (h:SzS B s) (hB:B≤1000000) (q:ByteArray) (k u:Int) : ∃ r,u5 s q k u=some r:=by
 obtain ⟨v,hv⟩:=CP h hB q k u
 have k2:=h.nodes.1
 unfold u5
 simp only [hv,Pt s _ _ h.conf (Nat.le_trans k2 hB),kx,zb]
 exact ⟨_,rfl⟩
theorem SzS.slot {B:Nat} {s:aa} (h:SzS B s) {l:List bt} (hl:l.length≤B) : SzS B { s with aQ:=l } := ⟨h.conf,h.nodes,h.apps,h.conts,hl,h.plans,h.app⟩
theorem SzS.cont {B:Nat} {s:aa} (h:SzS B s) {l:List am} (hl:l.length≤B) : SzS B { s with ac:=l } := ⟨h.conf,h.nodes,h.apps,hl,h.slots,h.plans,h.app⟩
theorem SzS.seq {B:Nat} {s:aa} (h:SzS B s) (n:Int) : SzS B { s with rM:=n } := ⟨h.conf,h.nodes,h.apps,h.conts,h.slots,h.plans,h.app⟩
theorem wF (s:aa) (n:Int) (hl:s.aQ.length≤1000000) : fF s n=some { s with aQ:=s.aQ.filter fun c=>c.bG != n } := by
 unfold fF
 dsimp only
 have e:eF s n=fun acc x=>if (x.bG != n)=true then (aU acc [id' x]).map (fun a=>(.inl a:List bt⊕(List bt×Int))) else some (.inl acc):=by
  funext acc x
  unfold eF
  dsimp only [id']
  split
  ·cases aU acc [x] <;> rfl
  ·rfl
 rw [wj s n [] hl,e,cr (fun c:bt=>c.bG != n) id' _ s.aQ [] (by simpa using hl)]
 simp only [zb,List.nil_append,yB]
theorem Nu (s:aa) (n:Int) (hl:s.aQ.length≤1000000) : ∃ r,zK s n=some r:=by
 unfold zK
 dsimp only
 rw [zJ s n () hl,show jy s n=fun (_:Unit) x=>if (x.bG==n)=true then some (.inr (.inr (x,true))) else some (.inl ()) from rfl,
  kA (fun x:bt=>x.bG==n) (fun x=>(Sum.inr (x,true) : Int⊕bt×Bool)) (.inl (s.aQ.length:Int)) s.aQ]
 simp only [zb]
 cases s.aQ.find? fun x=>x.bG==n <;> exact ⟨_,rfl⟩
theorem KG (s:aa) (a p:Int) (hl:s.aQ.length≤1000000) : ∃ r,vQ s a p=some r:=by
 unfold vQ
 dsimp only
 rw [xP s a p () hl]
 obtain ⟨r,e1,_⟩:=aR (g:=fo s a p) (fin:=fun _=>(.inl (s.aQ.length:Int))) (fun _ _=>True) (fun _=>True) s.aQ 0 () (fun j b x hx _=>by
  unfold fo
  simp only [dH,zb]
  split <;> exact ⟨_,rfl,fun _ _=>trivial,fun _ _=>trivial⟩) (fun _ _=>trivial) trivial
 rw [e1]
 simp only [zb]
 cases r <;> exact ⟨_,rfl⟩
theorem NA {B:Nat} {s:aa} (h:SzS B s) (hB:B + 1≤1000000) (x:bt) : ∃ r,si s x=some r∧SzS (B + 1) r∧r.ai=s.ai:=by
 have k1:=h.slots
 obtain ⟨K,hK1,hK2⟩:=nB s.aQ (by omega) (f:=lM s x) (fun i y hy=>by
  have hi:=(zg.1 hy).1
  refine ⟨decide (y.bG < x.bG),?_⟩
  unfold lM
  simp only [bJ hy,if_true,aC hy,zb,a6 hi (show s.aQ.length≤1000000 by omega)]) (by unfold lM; simp only [bz,zf,if_false,zb])
 unfold si
 dsimp only
 rw [hK1]
 simp only [zb]
 rw [nZ hK2]
 simp only [zb]
 rw [aD (by simp; omega)]
 simp only [zb]
 rw [aD (by simp; omega)]
 simp only [zb]
 rw [ko hK2]
 simp only [zb]
 rw [aD (by simp; omega)]
 exact ⟨_,rfl,(h.mono (Nat.le_succ _)).slot (by simp; omega),rfl⟩
theorem zM {B:Nat} {s:aa} (h:SzS B s) (hB:B + 2≤1000000) (n:aX) {a:aq} (ha:SzA B a) (x:aL) : ∃ r,mO s n a x=some r∧SzS (B + 2) r.1∧(jK aq.fId s.ai→jK aq.fId r.1.ai):=by
 have k1:=h.conts; have k2:=h.apps; have k3:=ha.asks; have k4:=ha.grants
 obtain ⟨t,t1,t2⟩:=Pi a.bE x.bu (by omega)
 unfold mO
 simp only [t1,zb]
 generalize hc:(⟨_,a.fId,n.fId,x.cC,x.bu,n.aY,(a.cw==1),0⟩ : am)=c
 have hs:SzS B { s with rM:=i64.wrap (s.rM + 1) } := h.seq _
 generalize hS:({ s with rM:=i64.wrap (s.rM + 1) } : aa)=S at hs ⊢
 have hcl:S.ac=s.ac:=by rw [← hS]
 have hal:S.ai=s.ai:=by rw [← hS]
 have fin:∀ b:aq,SzA (B + 1) b→∃ r,(Option.bind (ah (ik S c) ab 0) fun r11=>Option.bind (hiO s.ac r11) fun b12=>Option.bind (aU ([] : List am) b12) fun b13=>Option.bind (aU b13 [c]) fun b14=>Option.bind (loO s.ac r11) fun b15=>Option.bind (aU b14 b15) fun b16=>Option.bind (eb { s with ac:=b16,rM:=i64.wrap (s.rM + 1) } b) fun c17=>some (c17,c))=some r∧SzS (B + 2) r.1∧(jK aq.fId s.ai→jK aq.fId r.1.ai):=by
  intro b hb
  obtain ⟨K,hK1,hK2⟩:=nB s.ac (by omega) (f:=ik S c) (fun i y hy=>by
   have hi:=(zg.1 hy).1
   refine ⟨decide (y.fId < c.fId),?_⟩
   unfold ik
   simp only [hcl,bJ hy,if_true,aC hy,zb,a6 hi (show s.ac.length≤1000000 by omega)]) (by unfold ik; simp only [hcl,bz,zf,if_false,zb])
  rw [hK1]
  simp only [zb]
  rw [nZ hK2]
  simp only [zb]
  rw [aD (by simp; omega)]
  simp only [zb]
  rw [aD (by simp; omega)]
  simp only [zb]
  rw [ko hK2]
  simp only [zb]
  rw [aD (by simp; omega)]
  simp only [zb]
  rw [jf _ _ (by show s.ai.length + 1≤_; omega)]
  refine ⟨_,rfl,?_⟩
  have hlen:(([] ++ s.ac.take K ++ [c])++s.ac.drop K).length≤B + 1:=by simp; omega
  have h2:SzS (B + 1) { s with ac:=([] ++ s.ac.take K ++ [c])++s.ac.drop K,rM:=i64.wrap (s.rM + 1) } := by
   have hm:=h.mono (Nat.le_succ B)
   exact ⟨hm.conf,hm.nodes,hm.apps,hlen,hm.slots,hm.plans,hm.app⟩
  exact ⟨h2.put (hb.mono (Nat.le_succ _)),fun hs=>iR _ _ _ hs⟩
 have ha1:=ha.mono (Nat.le_succ B)
 split
 ·simp only [zb]
  refine fin _ ?_
  exact ⟨⟨ha1.queue.1,h.nodes.2.2.1⟩,Nat.zero_le _,ha1.grants,ha1.kills,ha1.told,ha1.lost⟩
 ·rw [aD (by simp; omega)]
  simp only [zb]
  rw [aD (by simp; omega)]
  simp only [zb]
  refine fin _ ?_
  exact ⟨ha1.queue,by show t.1.length≤_; omega,by simp; omega,ha1.kills,ha1.told,ha1.lost⟩
def Ap (B:Nat) (s t:aa) : Prop:=SzS B t∧jK aq.fId t.ai∧∀ i,(∃ x∈s.ai,x.fId=i)→∃ x∈t.ai,x.fId=i
theorem Qx {B:Nat} {s:aa} (h:SzS B s) (hs:jK aq.fId s.ai) (hB:B + 2≤1000000) (n:aX) {a:aq} (hi:∃ x∈s.ai,x.fId=a.fId) (ha:SzA B a) (x:aL) (first:Bool) : ∃ r,vR s n a x first=some r∧SzS (B + 2) r.1∧jK aq.fId r.1.ai∧(r.2.1=0→Ap B s r.1):=by
 have k1:=h.apps; have k2:=h.slots; have k3:=ha.asks; have k4:=h.conts; have k5:=h.nodes.1
 have stay:Ap B s s:=⟨h,hs,fun _ e=>e⟩
 have h2:=h.mono (show B≤B + 2 by omega)
 obtain ⟨d,hd⟩:=F6 h (by omega) a.bF x
 obtain ⟨m,hm,hm2⟩:=Pj a.bE x.bu (by omega)
 obtain ⟨o,ho⟩:=Cs h (by omega) a.bF ha.queue.1 n.aY x.cC
 obtain ⟨g,hg,hg2,hg3⟩:=zM h hB n ha x
 obtain ⟨p,hp⟩:=KG s a.fId x.bu (by omega)
 obtain ⟨q,hq,hq2,hq3⟩:=NA h (by omega) (⟨n.fId,a.fId,x.bu⟩ : bt)
 have hput:∃ t,eb s { a with bE:=m } = some t∧Ap B s t:=by
  refine ⟨_,jf s _ (by omega),h.putIn hs hi ⟨ha.queue,by show m.length≤B; omega,ha.grants,ha.kills,ha.told,ha.lost⟩,iR _ _ _ hs,fun i e=>D6 _ _ i _ e⟩
 obtain ⟨t,ht,ht2⟩:=hput
 unfold vR
 simp only [hd,zP,F8,kx,orB,dH,zb,hm,ht,ho,hg,hp,hq,FH s n.fId (show s.aB.length≤1000000 by omega) (show s.ac.length≤1000000 by omega)]
 split
 ·exact ⟨_,rfl,h2,hs,fun _=>stay⟩
 split
 ·split
  ·exact ⟨_,rfl,ht2.1.mono (by omega),ht2.2.1,fun _=>ht2⟩
  ·exact ⟨_,rfl,h2,hs,fun _=>stay⟩
 split
 ·exact ⟨_,rfl,h2,hs,fun _=>stay⟩
 split
 ·exact ⟨_,rfl,hg2,hg3 hs,fun e=>absurd (show (1:Int)=0 from e) (by decide)⟩
 split
 ·exact ⟨_,rfl,hq2.mono (by omega),by show jK _ q.ai; rw [hq3]; exact hs,fun e=>absurd (show (2:Int)=0 from e) (by decide)⟩
 ·exact ⟨_,rfl,h2,hs,fun _=>stay⟩
theorem VS {s:aa} {id:Int} (h:∃ x∈s.ai,x.fId=id) : bQ s id∈s.ai∧(bQ s id).fId=id:=by
 obtain ⟨x,hx,e⟩:=h
 unfold bQ
 cases hf:s.ai.find? fun c=>c.fId==id with
 | none =>
  have:=List.find?_eq_none.1 hf x hx
  simp [e] at this
 | some a =>
  have h2:=List.find?_some hf
  exact ⟨List.mem_of_find?_eq_some hf,by simpa using h2⟩
def Au (B:Nat) (t:aa) : Prop:=SzS (B + 2) t∧jK aq.fId t.ai
theorem Sz {B:Nat} {s:aa} (h:SzS B s) (hs:jK aq.fId s.ai) (hB:B + 2≤1000000) (n:aX) (l:List aL) (a:aq) (hl:a.bE=l) (hl2:l.length≤B) (ids:List Int) (hI:∀ i∈ids,∃ x∈s.ai,x.fId=i) (j:Nat) (id:Int) (hj:ids[j]? = some id) (first:Bool) : ∃ r,ah (ic a (j:Int) ids n first) ab (s,0)=some r∧(match r with | .inl m=>Ap B s m.1 | .inr m=>Au B m.1):=by
 refine aM (fun st=>Ap B s st.1∧∃ k:Nat,st.2=(k:Int)∧k≤l.length) (fun st=>l.length - st.2.toNat) _ (fun st ⟨⟨q1,q2,q3⟩,k,h1,h2⟩=>?_) ab (s,0) ⟨⟨h,hs,fun _ e=>e⟩,0,rfl,Nat.zero_le _⟩ (by have:=an (show l.length≤1000000 by omega); omega)
 have k1:=q1.apps
 unfold ic
 simp only [h1,hl]
 by_cases hlt:k < l.length
 ·have g1:l[k]? = some l[k]:=zq hlt
  have g2:=VS (q3 id (hI id (List.mem_of_getElem? hj)))
  obtain ⟨r,r1,r2,r3,r4⟩:=Qx q1 q2 hB n (a:=bQ st.1 id) ⟨_,g2.1,rfl⟩ (q1.get id) l[k] first
  simp only [bJ g1,if_true,aC g1,aC hj,dy st.1 id (by omega),r1,zb,a6 hlt (show l.length≤1000000 by omega)]
  split
  ·exact .inr ⟨_,rfl,r2,r3⟩
  ·rename_i hne
   have h0:r.2.1=0:=by simpa using hne
   obtain ⟨t1,t2,t3⟩:=r4 h0
   exact .inl ⟨_,rfl,⟨⟨t1,t2,fun i e=>t3 i (q3 i e)⟩,k + 1,rfl,hlt⟩,by simp only [zt]; omega⟩
 ·have:k=l.length:=by omega
  subst this
  simp only [bz,zf,if_false]
  exact .inr ⟨_,rfl,q1,q2,q3⟩
theorem SA {B:Nat} {s:aa} (h:SzS B s) (hs:jK aq.fId s.ai) (hB:B + 2≤1000000) (n:aX) (ids:List Int) (hI:∀ i∈ids,∃ x∈s.ai,x.fId=i) (hI2:ids.length≤1000000) (lv:List ByteArray) (i:Nat) (q:ByteArray) (hi:lv[i]? = some q) (first:Bool) : ∃ r,ah (ig ids (i:Int) lv n first) ab (s,0)=some r∧(match r with | .inl m=>Ap B s m.1 | .inr m=>Au B m.1):=by
 refine aM (fun st=>Ap B s st.1∧∃ k:Nat,st.2=(k:Int)∧k≤ids.length) (fun st=>ids.length - st.2.toNat) _ (fun st ⟨⟨q1,q2,q3⟩,k,h1,h2⟩=>?_) ab (s,0) ⟨⟨h,hs,fun _ e=>e⟩,0,rfl,Nat.zero_le _⟩ (by have:=an hI2; omega)
 have k1:=q1.apps
 unfold ig
 simp only [h1]
 by_cases hlt:k < ids.length
 ·have g1:ids[k]? = some ids[k]:=zq hlt
  obtain ⟨m,hm⟩:=Cn q1 (by omega) q n.aY (bQ st.1 ids[k]).cW
  simp only [bJ g1,if_true,aC g1,aC hi,dy st.1 _ (show st.1.ai.length≤1000000 by omega),hm,zb,a6 hlt hI2]
  split
  ·exact .inl ⟨_,rfl,⟨⟨q1,q2,q3⟩,k + 1,rfl,hlt⟩,by simp only [zt]; omega⟩
  ·have ha:=(q1.get ids[k]).asks
   obtain ⟨r,r1,r2⟩:=Sz q1 q2 hB n _ (bQ st.1 ids[k]) rfl ha ids (fun i hi=>q3 i (hI i hi)) k _ g1 first
   rw [r1]
   simp only [zb]
   cases r with
   | inr m=>exact .inr ⟨_,rfl,r2⟩
   | inl m =>
    obtain ⟨t1,t2,t3⟩:=r2
    exact .inl ⟨_,rfl,⟨⟨t1,t2,fun i e=>t3 i (q3 i e)⟩,k + 1,rfl,hlt⟩,by simp only [zt]; omega⟩
 ·have:k=ids.length:=by omega
  subst this
  simp only [bz,zf,if_false]
  exact .inr ⟨_,rfl,q1,q2,q3⟩
theorem zL {B:Nat} {s:aa} (h:SzS B s) (hs:jK aq.fId s.ai) (hB:B + 2≤1000000) (n:aX) (first:Bool) : ∃ r,eh s n first=some r∧Au B r.1∧(r.2.1=0→SzS B r.1∨Au B r.1):=by
 obtain ⟨lv,h1,h2⟩:=Ha h h.conf.deep (by omega) n.aY
 have hl:lv.length≤1000000:=by omega
 unfold eh
 simp only [h1,zb]
 obtain ⟨r,r1,r2⟩:=aM (f:=ij lv n first) (fun st=>Ap B s st.1∧∃ k:Nat,st.2=(k:Int)∧k≤lv.length) (fun st=>lv.length - st.2.toNat) (fun r=>match r with | .inl m=>Ap B s m.1 | .inr m=>Au B m.1) (fun st ⟨⟨q1,q2,q3⟩,k,h1,h2⟩=>by
  have k1:=q1.apps
  unfold ij
  simp only [h1]
  by_cases hlt:k < lv.length
  ·have g1:lv[k]? = some lv[k]:=zq hlt
   obtain ⟨ids,a1,a2,a3⟩:=NI q1 (by omega) lv[k]
   obtain ⟨r,r1,r2⟩:=SA q1 q2 hB n ids a3 (by omega) lv k _ g1 first
   simp only [bJ g1,if_true,aC g1,a1,r1,zb,a6 hlt hl]
   cases r with
   | inr m=>exact .inr ⟨_,rfl,r2⟩
   | inl m =>
    obtain ⟨t1,t2,t3⟩:=r2
    exact .inl ⟨_,rfl,⟨⟨t1,t2,fun i e=>t3 i (q3 i e)⟩,k + 1,rfl,hlt⟩,by simp only [zt]; omega⟩
  ·have:k=lv.length:=by omega
   subst this
   simp only [bz,zf,if_false]
   exact .inr ⟨_,rfl,q1,q2,q3⟩) ab (s,0) ⟨⟨h,hs,fun _ e=>e⟩,0,rfl,Nat.zero_le _⟩ (by have:=an hl; omega)
 rw [r1]
 simp only [zb]
 cases r with
 | inr m=>exact ⟨_,rfl,r2,fun _=>.inr r2⟩
 | inl m=>exact ⟨_,rfl,⟨r2.1.mono (by omega),r2.2.1⟩,fun _=>.inl r2.1⟩
theorem Au.mono {B C:Nat} {t:aa} (h:Au B t) (hc:B≤C) : Au C t:=⟨h.1.mono (by omega),h.2⟩
theorem Nx {B:Nat} {s:aa} (h:SzS B s) (hs:jK aq.fId s.ai) (hB:B + 2≤1000000) (n:aX) (x:bt) : ∃ r,sg s n x=some r∧Au B r.1∧(r.2.2.2=false→SzS B r.1):=by
 have k1:=h.apps; have k2:=h.slots; have k4:=h.conts; have k5:=h.nodes.1
 have ha:=h.get x.bC
 have k3:=ha.asks
 have h2:=h.mono (show B≤B + 2 by omega)
 have hn:SzS B { s with aQ:=s.aQ.filter fun c=>c.bG != n.fId } := h.slot (Nat.le_trans (List.length_filter_le _ _) k2)
 obtain ⟨d,hd⟩:=F6 h (by omega) (bQ s x.bC).bF (VT (bQ s x.bC).bE x.bu)
 obtain ⟨m,hm⟩:=Cn h (by omega) (bQ s x.bC).bF n.aY (bQ s x.bC).cW
 obtain ⟨o,ho⟩:=Cs h (by omega) (bQ s x.bC).bF ha.queue.1 n.aY (VT (bQ s x.bC).bE x.bu).cC
 obtain ⟨g,hg,hg2,hg3⟩:=zM hn hB n ha (VT (bQ s x.bC).bE x.bu)
 unfold sg
 simp only [dy s x.bC (show s.ai.length≤1000000 by omega),TK (bQ s x.bC).bE x.bu (show (bQ s x.bC).bE.length≤1000000 by omega),ec,hd,hm,ho,F8,kx,wF s n.fId (show s.aQ.length≤1000000 by omega),FH s n.fId (show s.aB.length≤1000000 by omega) (show s.ac.length≤1000000 by omega),orB,dH,zb]
 split
 ·exact ⟨_,rfl,⟨hn.mono (by omega),hs⟩,fun _=>hn⟩
 split
 ·exact ⟨_,rfl,⟨h2,hs⟩,fun _=>h⟩
 ·rw [hg]
  exact ⟨_,rfl,⟨hg2,hg3 hs⟩,fun e=>by cases e⟩
theorem Qy {B:Nat} {s:aa} (h:SzS B s) (hs:jK aq.fId s.ai) (hB:B + 6≤1000000) (id:Int) : ∃ r,vS s id=some r∧Au (B + 4) r.1:=by
 have k1:=h.nodes.1; have k2:=h.slots
 have two:∀ (t:aa),Au B t→∃ r,(Option.bind (eh t (eP s id) true) fun c7=>if (c7.2.1 != 0)=true then some (c7.1,c7.2.1,c7.2.2) else Option.bind (eh c7.1 (eP s id) false) fun c8=>some c8)=some r∧Au (B + 4) r.1:=fun t ⟨t1,t2⟩=>by
  obtain ⟨u,u1,⟨u2,u3⟩,_⟩:=zL t1 t2 (by omega) (eP s id) true
  rw [u1]
  simp only [zb]
  split
  ·exact ⟨_,rfl,u2.mono (by omega),u3⟩
  ·obtain ⟨v,v1,⟨v2,v3⟩,_⟩:=zL u2 u3 (by omega) (eP s id) false
   rw [v1]
   exact ⟨_,rfl,v2.mono (by omega),v3⟩
 obtain ⟨c,hc⟩:=Nu s id (by omega)
 unfold vS
 simp only [mJ s id (show s.aB.length≤1000000 by omega),orB,hc,zb]
 split
 ·exact ⟨_,rfl,h.mono (by omega),hs⟩
 split
 ·obtain ⟨k,k1,k2,_⟩:=Nx h hs (by omega) (eP s id) c.1
  rw [k1]
  simp only [zb]
  split
  ·exact ⟨_,rfl,k2.mono (by omega)⟩
  ·exact two _ k2
 ·exact two _ ⟨h.mono (by omega),hs⟩
theorem NC {B:Nat} {s:aa} (h:SzS B s) (hs:jK aq.fId s.ai) (hB:B + 100≤1000000) (id:Int) : ∃ r,p8 s id=some r∧Au (B + 24) r.1∧r.2.length≤3:=by
 unfold p8
 dsimp only
 obtain ⟨r,r1,r2⟩:=aM (f:=ja id) (fun st=>∃ k:Nat,st.2.2=(k:Int)∧k≤3∧st.2.1.length=k∧SzS (B + 6 * k) st.1∧jK aq.fId st.1.ai) (fun st=>3 - st.2.2.toNat) (fun r=>Au (B + 24) r.1∧r.2.1.length≤3) (fun st ⟨k,h1,h2,h3,h4,h5⟩=>by
  unfold ja
  simp only [h1]
  by_cases hlt:k < 3
  ·have hd:decide ((k:Int) < 3)=true:=by simp; omega
   obtain ⟨c,c1,c2,c3⟩:=Qy h4 h5 (by omega) id
   simp only [hd,if_true,c1,zb]
   split
   ·exact .inr ⟨_,rfl,⟨c2.mono (by omega),c3⟩,by show st.2.1.length≤3; omega⟩
   ·rw [aD (by simp; omega)]
    simp only [zb,a6 hlt (show 3≤1000000 by omega)]
    exact .inl ⟨_,rfl,⟨k + 1,rfl,hlt,by simp; omega,c2.mono (by omega),c3⟩,by simp only [zt]; omega⟩
  ·have hd:decide ((k:Int) < 3)=false:=by simp; omega
   simp only [hd,zf,if_false]
   exact .inr ⟨_,rfl,⟨h4.mono (by omega),h5⟩,by show st.2.1.length≤3; omega⟩) ab (s,[],0) ⟨0,rfl,by omega,rfl,h.mono (by omega),hs⟩ (by show 3 - (0:Int).toNat < ab; unfold ab; omega)
 rw [r1]
 exact ⟨_,rfl,r2⟩
theorem mC {σ τ : Type} {f : σ→Option (σ⊕τ)} (I : σ→Prop) (Q : τ→Prop) (step:∀ s r,I s→f s=some r→match r with | .inl s'=>I s' | .inr t=>Q t) : ∀ (n:Nat) (s : σ) (t : τ),I s→ah f n s=some t→Q t
 | 0,s,t,_,h=>by cases h
 | n + 1,s,t,hi,h=>by
  simp only [ah] at h
  cases hf:f s with
  | none=>rw [hf] at h; cases h
  | some r =>
   have:=step s r hi hf
   rw [hf] at h
   cases r with
   | inl s'=>exact mC I Q step n s' t this h
   | inr t'=>injection h with h; subst h; exact this
theorem yU {α : Type} {l m z:List α} (h:aU l m=some z) : z.length=l.length + m.length∧z=l++m:=by
 unfold aU at h
 split at h
 ·injection h with h; subst h; simp
 ·cases h
theorem wL {s t:aa} {a:aq} (h:eb s a=some t) : t.ac=s.ac:=by
 unfold eb at h
 dsimp only at h
 obtain ⟨_,_,h⟩:=bq h
 obtain ⟨_,_,h⟩:=bq h
 obtain ⟨_,_,h⟩:=bq h
 obtain ⟨_,_,h⟩:=bq h
 obtain ⟨_,_,h⟩:=bq h
 obtain ⟨_,_,h⟩:=bq h
 obtain ⟨_,_,h⟩:=bq h
 obtain ⟨_,_,h⟩:=bq h
 injection h with h
 subst h
 rfl
theorem sj {s t:aa} {n:Int} (h:fF s n=some t) : t.ac=s.ac:=by
 unfold fF at h
 dsimp only at h
 obtain ⟨_,_,h⟩:=bq h
 injection h with h
 subst h
 rfl
theorem F5 {s t:aa} {x:bt} (h:si s x=some t) : t.ac=s.ac:=by
 unfold si at h
 dsimp only at h
 obtain ⟨_,_,h⟩:=bq h
 obtain ⟨_,_,h⟩:=bq h
 obtain ⟨_,_,h⟩:=bq h
 obtain ⟨_,_,h⟩:=bq h
 obtain ⟨_,_,h⟩:=bq h
 obtain ⟨_,_,h⟩:=bq h
 injection h with h
 subst h
 rfl
theorem L2 {α : Type} {l a b:List α} {k:Int} (h1:hiO l k=some a) (h2:loO l k=some b) : a.length + b.length=l.length:=by
 unfold hiO at h1
 unfold loO at h2
 by_cases hc : 0≤k∧k.toNat≤l.length
 ·rw [if_pos hc] at h1 h2
  injection h1 with h1
  injection h2 with h2
  subst h1 h2
  rw [List.length_take,List.length_drop]
  omega
 ·rw [if_neg hc] at h1
  cases h1
theorem tE {s:aa} {n:aX} {a:aq} {x:aL} {r:aa×am} (h:mO s n a x=some r) : r.1.ac.length≤s.ac.length + 1:=by
 unfold mO at h
 dsimp only at h
 obtain ⟨_,_,h⟩:=bq h
 obtain ⟨_,_,h⟩:=bq h
 obtain ⟨_,_,h⟩:=bq h
 obtain ⟨b12,h12,h⟩:=bq h
 obtain ⟨b13,h13,h⟩:=bq h
 obtain ⟨b14,h14,h⟩:=bq h
 obtain ⟨b15,h15,h⟩:=bq h
 obtain ⟨b16,h16,h⟩:=bq h
 obtain ⟨c17,h17,h⟩:=bq h
 injection h with h
 subst h
 have e:=wL h17
 have k1:=L2 h12 h15
 have k2:=(yU h13).1
 have k3:=(yU h14).1
 have k4:=(yU h16).1
 show c17.ac.length≤_
 rw [e]
 show b16.length≤_
 simp only [List.length_nil,List.length_singleton] at k2 k3
 omega
theorem G8 {s:aa} {n:aX} {a:aq} {x:aL} {f:Bool} {r:aa×Int×am} (h:vR s n a x f=some r) : r.1.ac.length≤s.ac.length + 1∧(r.2.1=0→r.1.ac.length≤s.ac.length):=by
 unfold vR at h
 dsimp only at h
 obtain ⟨_,_,h⟩:=bq h
 obtain ⟨_,_,h⟩:=bq h
 obtain ⟨_,_,h⟩:=bq h
 obtain ⟨_,_,h⟩:=bq h
 split at h
 ·injection h with h; subst h; exact ⟨Nat.le_succ _,fun _=>Nat.le_refl _⟩
 obtain ⟨_,_,h⟩:=bq h
 split at h
 ·obtain ⟨⟨a2,s2⟩,h1,h⟩:=bq h
  injection h with h
  subst h
  have:s2.ac=s.ac:=by
   split at h1
   ·obtain ⟨_,_,h1⟩:=bq h1
    obtain ⟨c,h2,h1⟩:=bq h1
    injection h1 with h1
    injection h1 with _ h1
    subst h1
    exact wL h2
   ·injection h1 with h1
    injection h1 with _ h1
    subst h1
    rfl
  show s2.ac.length≤_∧(_→s2.ac.length≤_)
  rw [this]
  exact ⟨Nat.le_succ _,fun _=>Nat.le_refl _⟩
 obtain ⟨_,_,h⟩:=bq h
 split at h
 ·injection h with h; subst h; exact ⟨Nat.le_succ _,fun _=>Nat.le_refl _⟩
 obtain ⟨_,_,h⟩:=bq h
 obtain ⟨_,_,h⟩:=bq h
 split at h
 ·obtain ⟨g,h1,h⟩:=bq h
  injection h with h
  subst h
  exact ⟨tE h1,fun e=>absurd (show (1:Int)=0 from e) (by decide)⟩
 obtain ⟨_,_,h⟩:=bq h
 split at h
 ·obtain ⟨g,h1,h⟩:=bq h
  injection h with h
  subst h
  show g.ac.length≤_∧(_→g.ac.length≤_)
  rw [F5 h1]
  exact ⟨Nat.le_succ _,fun _=>Nat.le_refl _⟩
 ·injection h with h; subst h; exact ⟨Nat.le_succ _,fun _=>Nat.le_refl _⟩
def Gr (s:aa) (r:(aa×Int)⊕(aa×Int×am)) : Prop:=match r with | .inl m=>m.1.ac.length≤s.ac.length | .inr m=>m.1.ac.length≤s.ac.length + 1
theorem Jn {s0:aa} {a:aq} {j:Int} {ids:List Int} {n:aX} {f:Bool} {k:Nat} {st:aa×Int} {r:(aa×Int)⊕(aa×Int×am)} (hst:st.1.ac.length≤s0.ac.length) (h:ah (ic a j ids n f) k st=some r) : Gr s0 r:=by
 refine mC (fun st=>st.1.ac.length≤s0.ac.length) (Gr s0) (fun st r hi h=>?_) k st r hst h
 unfold ic at h
 dsimp only at h
 split at h
 ·obtain ⟨_,_,h⟩:=bq h
  obtain ⟨_,_,h⟩:=bq h
  obtain ⟨_,_,h⟩:=bq h
  obtain ⟨c,hc,h⟩:=bq h
  have hk:=G8 hc
  split at h
  ·injection h with h
   subst h
   exact Nat.le_trans hk.1 (Nat.succ_le_succ hi)
  ·rename_i hz
   injection h with h
   subst h
   exact Nat.le_trans (hk.2 (by simpa using hz)) hi
 ·injection h with h
  subst h
  exact hi
theorem Jo {s0:aa} {ids:List Int} {i:Int} {lv:List ByteArray} {n:aX} {f:Bool} {k:Nat} {st:aa×Int} {r:(aa×Int)⊕(aa×Int×am)} (hst:st.1.ac.length≤s0.ac.length) (h:ah (ig ids i lv n f) k st=some r) : Gr s0 r:=by
 refine mC (fun st=>st.1.ac.length≤s0.ac.length) (Gr s0) (fun st r hi h=>?_) k st r hst h
 unfold ig at h
 dsimp only at h
 split at h
 ·obtain ⟨_,_,h⟩:=bq h
  obtain ⟨_,_,h⟩:=bq h
  obtain ⟨_,_,h⟩:=bq h
  obtain ⟨_,_,h⟩:=bq h
  split at h
  ·injection h with h
   subst h
   exact hi
  ·obtain ⟨m,hm,h⟩:=bq h
   have hg:=Jn (s0:=s0) (st:=(st.1,0)) hi hm
   cases m with
   | inr m=>injection h with h; subst h; exact hg
   | inl m=>injection h with h; subst h; exact hg
 ·injection h with h
  subst h
  exact hi
theorem tD {s:aa} {n:aX} {f:Bool} {r:aa×Int×am} (h:eh s n f=some r) : r.1.ac.length≤s.ac.length + 1:=by
 unfold eh at h
 dsimp only at h
 obtain ⟨lv,_,h⟩:=bq h
 obtain ⟨m,hm,h⟩:=bq h
 have hg:Gr s m:=by
  refine mC (f:=ij lv n f) (fun st=>st.1.ac.length≤s.ac.length) (Gr s) (fun st r hi h=>?_) _ (s,0) m (Nat.le_refl _) hm
  unfold ij at h
  dsimp only at h
  split at h
  ·obtain ⟨_,_,h⟩:=bq h
   obtain ⟨_,_,h⟩:=bq h
   obtain ⟨m,hm,h⟩:=bq h
   have hg:=Jo (s0:=s) (st:=(st.1,0)) hi hm
   cases m with
   | inr m=>injection h with h; subst h; exact hg
   | inl m=>injection h with h; subst h; exact hg
  ·injection h with h
   subst h
   exact hi
 cases m with
 | inr m=>injection h with h; subst h; exact hg
 | inl m=>injection h with h; subst h; exact Nat.le_succ_of_le hg
theorem F4 {s:aa} {n:aX} {x:bt} {r:aa×Int×am×Bool} (h:sg s n x=some r) : r.1.ac.length≤s.ac.length + 1:=by
 unfold sg at h
 dsimp only at h
 obtain ⟨_,_,h⟩:=bq h
 obtain ⟨_,_,h⟩:=bq h
 obtain ⟨_,_,h⟩:=bq h
 obtain ⟨_,_,h⟩:=bq h
 obtain ⟨_,_,h⟩:=bq h
 obtain ⟨_,_,h⟩:=bq h
 obtain ⟨_,_,h⟩:=bq h
 obtain ⟨_,_,h⟩:=bq h
 split at h
 ·obtain ⟨c,hc,h⟩:=bq h
  injection h with h
  subst h
  show c.ac.length≤_
  rw [sj hc]
  exact Nat.le_succ _
 ·obtain ⟨_,_,h⟩:=bq h
  obtain ⟨_,_,h⟩:=bq h
  obtain ⟨_,_,h⟩:=bq h
  split at h
  ·injection h with h
   subst h
   exact Nat.le_succ _
  ·obtain ⟨c,hc,h⟩:=bq h
   obtain ⟨g,hg,h⟩:=bq h
   injection h with h
   subst h
   have:=tE hg
   rw [sj hc] at this
   exact this
theorem G9 {s:aa} {id:Int} {r:aa×Int×am} (h:vS s id=some r) : r.1.ac.length≤s.ac.length + 3:=by
 unfold vS at h
 dsimp only at h
 obtain ⟨nd,_,h⟩:=bq h
 obtain ⟨_,_,h⟩:=bq h
 obtain ⟨_,_,h⟩:=bq h
 obtain ⟨_,_,h⟩:=bq h
 have two:∀ {t:aa} {n:aX},(Option.bind (eh t n true) fun c7=>if (c7.2.1 != 0)=true then some (c7.1,c7.2.1,c7.2.2) else Option.bind (eh c7.1 n false) fun c8=>some c8)=some r→r.1.ac.length≤t.ac.length + 2:=by
  intro t n h
  obtain ⟨c,hc,h⟩:=bq h
  have k1:=tD hc
  split at h
  ·injection h with h
   subst h
   exact Nat.le_succ_of_le k1
  ·obtain ⟨d,hd,h⟩:=bq h
   injection h with h
   subst h
   have k2:=tD hd
   omega
 split at h
 ·injection h with h
  subst h
  exact Nat.le_add_right _ _
 obtain ⟨c,hc,h⟩:=bq h
 split at h
 ·obtain ⟨k,hk,h⟩:=bq h
  have k1:=F4 hk
  split at h
  ·injection h with h
   subst h
   exact Nat.le_trans k1 (by omega)
  ·have:=two h
   omega
 ·have:=two h
  omega
theorem F7 {s:aa} {id:Int} {r:aa×List am} (h:p8 s id=some r) : r.1.ac.length≤s.ac.length + 9:=by
 unfold p8 at h
 dsimp only at h
 obtain ⟨m,hm,h⟩:=bq h
 injection h with h
 subst h
 refine mC (f:=ja id) (fun st=>∃ k:Nat,st.2.2=(k:Int)∧k≤3∧st.1.ac.length≤s.ac.length + 3 * k) (fun q=>q.1.ac.length≤s.ac.length + 9) (fun st r ⟨k,h1,h2,h3⟩ h=>?_) _ (s,[],0) m ⟨0,rfl,by omega,by simp⟩ hm
 unfold ja at h
 dsimp only at h
 split at h
 ·rename_i hlt
  rw [h1] at hlt
  have hlt:k < 3:=by have:=zd hlt; omega
  obtain ⟨c,hc,h⟩:=bq h
  have k1:=G9 hc
  split at h
  ·injection h with h
   subst h
   show c.1.ac.length≤_
   omega
  ·obtain ⟨l,hl,h⟩:=bq h
   injection h with h
   subst h
   refine ⟨k + 1,?_,hlt,?_⟩
   ·show i64.wrap (st.2.2 + 1) = _
    rw [h1,a6 hlt (show 3≤1000000 by omega)]
   ·show c.1.ac.length≤_
    omega
 ·injection h with h
  subst h
  show st.1.ac.length≤_
  omega
def SzM (M:Nat) (s:aa) : Prop:=∃ B,SzS B s∧B + s.ac.length≤M
theorem SzM.mono {M N:Nat} {s:aa} (h:SzM M s) (hn:M≤N) : SzM N s:=by
 obtain ⟨B,h1,h2⟩:=h
 exact ⟨B,h1,by omega⟩
theorem SzM.sz {M:Nat} {s:aa} (h:SzM M s) : SzS M s:=by
 obtain ⟨B,h1,h2⟩:=h
 exact h1.mono (by omega)
theorem Zz {s:aa} {id:Int} (h:LY s id=true) : mf s id∈s.ac∧(mf s id).fId=id:=by
 unfold LY at h
 rw [List.any_eq_true] at h
 obtain ⟨x,hx,e⟩:=h
 unfold mf
 cases hf:s.ac.find? fun c=>c.fId==id with
 | none=>have:=List.find?_eq_none.1 hf x hx; exact absurd e (by simpa using this)
 | some a=>exact ⟨List.mem_of_find?_eq_some hf,by simpa using List.find?_some hf⟩
theorem B8 {α : Type} {p : α→Bool} {l:List α} {x : α} (hx:x∈l) (hp:p x=false) : (l.filter p).length < l.length :=
 List.length_filter_lt_length_iff_exists.2 ⟨x,hx,by rw [hp]; simp⟩
theorem SzS.putE {B:Nat} {s:aa} (h:SzS B s) {a:aq} (ha:SzA (B + 1) a) {c:List am} {l:List bt} (hc:c.length≤B + 1) (hl:l.length≤B + 1) : SzS (B + 1) { s with ai:=cM aq.fId s.ai a,ac:=c,aQ:=l } := by
 have k:=h.put ha
 exact ⟨k.conf,k.nodes,k.apps,hc,hl,k.plans,k.app⟩
theorem Gi {M:Nat} {s:aa} (h:SzM M s) (hs:jK aq.fId s.ai) (ids:List Int) (hI:ids.length≤1000000) (hM:M + 1≤1000000) : ∃ r,jg s ids=some r∧SzM M r∧jK aq.fId r.ai∧r.ac.length≤s.ac.length:=by
 unfold jg
 dsimp only
 rw [Af ids s hI]
 obtain ⟨r,h1,h2⟩:=aR (g:=gF ids) (fin:=fun b=>(b,(ids.length:Int))) (fun _ b=>SzM M b∧jK aq.fId b.ai∧b.ac.length≤s.ac.length) (fun r=>SzM M r.1∧jK aq.fId r.1.ai∧r.1.ac.length≤s.ac.length) ids 0 s (fun j t x hx ⟨ht,hsr,hle⟩=>by
  obtain ⟨B,ht0,hB⟩:=ht
  have k1:=ht0.apps; have k2:=ht0.conts; have k3:=ht0.slots
  have stay:SzM M t∧jK aq.fId t.ai∧t.ac.length≤s.ac.length:=⟨⟨B,ht0,hB⟩,hsr,hle⟩
  unfold gF
  dsimp only
  rw [kH t x (by omega)]
  simp only [zb]
  split
  ·exact ⟨_,rfl,fun a' e=>by injection e with e; subst e; exact stay,fun r e=>by cases e⟩
  rename_i hnot
  have hct:LY t x=true:=by simpa using hnot
  obtain ⟨hm,hid⟩:=Zz hct
  rw [dy t _ (by omega)]
  simp only [zb]
  have hB1:B + 1≤1000000:=by omega
  have ha:=(ht0.get (mf t x).bC).mono (Nat.le_succ _)
  split
  ·rw [Ab]
   simp only [zb]
   rw [jf t _ (by omega)]
   simp only [zb]
   rw [Ct _ _ (by show t.ac.length≤_; omega) (by show t.aQ.length≤_; omega)]
   simp only [zb]
   refine ⟨_,rfl,fun a' e=>?_,fun r e=>by cases e⟩
   injection e with e
   subst e
   have hlt:=B8 (p:=fun c:am=>!(c.bC==(mf t x).bC)) hm (by simp)
   refine ⟨⟨B + 1,ht0.putE ?_ (Nat.le_trans (List.length_filter_le _ _) (by show t.ac.length≤_; omega)) (Nat.le_trans (List.length_filter_le _ _) (by show t.aQ.length≤_; omega)),?_⟩,iR _ _ _ hsr,?_⟩
   ·exact ⟨⟨ha.queue.1,ht0.nodes.2.2.1⟩,by simp,Nat.zero_le _,Nat.zero_le _,Nat.zero_le _,Nat.zero_le _⟩
   ·show B + 1 + (List.filter _ t.ac).length≤M
    omega
   ·show (List.filter _ t.ac).length≤_
    omega
  ·rw [Cv t _ (by omega)]
   have hg:=ht0.get (mf t x).bC
   have h5:=hg.grants; have h6:=hg.kills
   simp only [zb]
   rw [ve _ _ (by omega)]
   simp only [zb]
   have hlt:=B8 (p:=fun c:am=>c.fId != (mf t x).fId) hm (by simp)
   have hf:=List.length_filter_le (fun c=>c != (mf t x).fId) (bQ t (mf t x).bC).bM
   have fin:∀ a:aq,SzA (B + 1) a→∃ r,Option.bind (eb { t with ac:=t.ac.filter fun c=>c.fId != (mf t x).fId } a) (fun c=>some (Sum.inl c:aa⊕(aa×Int)))=some r∧(∀ a',r = .inl a'→SzM M a'∧jK aq.fId a'.ai∧a'.ac.length≤s.ac.length)∧∀ q,r = .inr q→SzM M q.1∧jK aq.fId q.1.ai∧q.1.ac.length≤s.ac.length:=by
    intro a hsa
    rw [jf _ _ (by show t.ai.length + 1≤_; omega)]
    refine ⟨_,rfl,fun a' e=>?_,fun r e=>by cases e⟩
    injection e with e
    subst e
    refine ⟨⟨B + 1,ht0.putE (c:=t.ac.filter fun c=>c.fId != (mf t x).fId) (l:=t.aQ) hsa (Nat.le_trans (List.length_filter_le _ _) (by omega)) (by omega),?_⟩,iR _ _ _ hsr,?_⟩
    ·show B + 1 + (List.filter _ t.ac).length≤M
     omega
    ·show (List.filter _ t.ac).length≤_
     omega
   split
   ·rw [aD (by simp; omega)]
    simp only [zb,List.nil_append]
    rw [aD (by simp; omega)]
    simp only [zb]
    refine fin _ ?_
    exact ⟨ha.queue,ha.asks,by show (List.filter _ _).length≤_; omega,by show (_ ++ [_]).length≤_; simp; omega,ha.told,ha.lost⟩
   ·simp only [zb]
    refine fin _ ?_
    exact ⟨ha.queue,ha.asks,by show (List.filter _ _).length≤_; omega,ha.kills,ha.told,ha.lost⟩) (fun b hb=>hb) ⟨h,hs,Nat.le_refl _⟩
 rw [h1]
 exact ⟨_,rfl,h2⟩
def fj (v_s:aa) (au:ByteArray) (af:Int) (bV:Int) (ml:Int) (st:Unit) (x_:aq) : Option ((Unit)⊕((Int)⊕(Int))) :=
 let v_a:aq:=x_
 let v_k:Int:=0
 (ah (jY v_a au v_s af bV ml) ab v_k).bind fun r15=>match r15 with
 | .inr m16=>some (.inr (.inr m16))
 | .inl m16 =>
 let v_k:=m16
 some (.inl ())
theorem xL (v_s:aa) (au:ByteArray) (af:Int) (bV:Int) (ml:Int) (a_:Unit) (hl:v_s.ai.length≤1000000) : ah (jZ v_s au af bV ml) ab (0)=bk (fj v_s au af bV ml) (fun a_=>(.inl ((v_s.ai.length:Int)))) a_ v_s.ai :=
 ay v_s.ai (S:=Int) (fun a_ k_=>(k_)) (fj v_s au af bV ml) (fun a_=>(.inl ((v_s.ai.length:Int)))) (an hl) (fun k a x hx=>by
  unfold jZ fj; exact bH)
  (fun a=>by unfold jZ; exact cF) a_
def lB (v_l:(List Int)) (v_n:Int) (st:Unit) (x_:Int) : Option ((Unit)⊕((Int)⊕(Bool))) :=
 if (x_ == v_n)=true then
 some (.inr (.inr true))
 else
 some (.inl ())
theorem CN (v_l:(List Int)) (v_n:Int) (a_:Unit) (hl:v_l.length≤1000000) : ah (oT v_l v_n) ab (0)=bk (lB v_l v_n) (fun a_=>(.inl ((v_l.length:Int)))) a_ v_l :=
 ay v_l (S:=Int) (fun a_ k_=>(k_)) (lB v_l v_n) (fun a_=>(.inl ((v_l.length:Int)))) (an hl) (fun k a x hx=>by
  unfold oT lB; exact bH)
  (fun a=>by unfold oT; exact cF) a_
def eD (v_s:aa) (af:Int) (au:ByteArray) (v_l:(List Int)) (st:Int) (x_:am) : Option ((Int)⊕((Int×Int))) :=
 let v_n:=st
 let v_c:am:=x_
 (if (v_c.aY==af)=true then (if (au.toList==(⟨#[]⟩ : ByteArray).toList)=true then some true else (i7 v_s v_c).bind fun c8=>some (c8.toList==au.toList)).bind fun q9=>some q9 else some false).bind fun q10=>(if q10=true then (if (v_c.jm != 0)=true then some true else (xN v_l v_c.fId).bind fun c11=>some c11).bind fun q12=>some q12 else some false).bind fun q13=>if q13=true then
 let v_n:Int:=(i64.wrap (v_n + v_c.cC.bD))
 some (.inl v_n)
 else
 some (.inl v_n)
theorem wh (v_s:aa) (af:Int) (au:ByteArray) (v_l:(List Int)) (a_:Int) (hl:v_s.ac.length≤1000000) : ah (jw v_s af au v_l) ab (a_,(0))=bk (eD v_s af au v_l) (fun a_=>(a_,((v_s.ac.length:Int)))) a_ v_s.ac :=
 ay v_s.ac (S:=Int×Int) (fun a_ k_=>(a_,(k_))) (eD v_s af au v_l) (fun a_=>(a_,((v_s.ac.length:Int)))) (an hl) (fun k a x hx=>by
  unfold jw eD; exact bH)
  (fun a=>by unfold jw; exact cF) a_
def eB (v_s:aa) (af:Int) (au:ByteArray) (v_l:(List Int)) (st:am×Bool) (x_:am) : Option ((am×Bool)⊕((am×Bool×Int))) :=
 let cL:=st.1
 let bS:=st.2
 let v_c:am:=x_
 (if (v_c.aY != af)=true then some true else (i7 v_s v_c).bind fun c15=>some (!(c15.toList==au.toList))).bind fun q16=>(if q16=true then some true else some (v_c.jm != 0)).bind fun q17=>(if q17=true then some true else (xN v_l v_c.fId).bind fun c18=>some c18).bind fun q19=>if q19=true then
 some (.inl (cL,bS))
 else
 (if (!bS)=true then some true else (if cL.bB=true then some (!v_c.bB) else some false).bind fun q20=>some q20).bind fun q21=>(if q21=true then some true else (if (cL.bB==v_c.bB)=true then some (decide (v_c.fId > cL.fId)) else some false).bind fun q22=>some q22).bind fun q23=>if q23=true then
 let t24:am:=v_c
 let t25:Bool:=true
 let cL:am:=t24
 let bS:Bool:=t25
 some (.inl (cL,bS))
 else
 some (.inl (cL,bS))
theorem wg (v_s:aa) (af:Int) (au:ByteArray) (v_l:(List Int)) (a_:am×Bool) (hl:v_s.ac.length≤1000000) : ah (jv v_s af au v_l) ab (a_.1,a_.2,(0))=bk (eB v_s af au v_l) (fun a_=>(a_.1,a_.2,((v_s.ac.length:Int)))) a_ v_s.ac :=
 ay v_s.ac (S:=am×Bool×Int) (fun a_ k_=>(a_.1,a_.2,(k_))) (eB v_s af au v_l) (fun a_=>(a_.1,a_.2,((v_s.ac.length:Int)))) (an hl) (fun k a x hx=>by
  unfold jv eB; exact bH)
  (fun a=>by unfold jv; exact cF) a_
def gm (bP:(List aj)) (v_s:aa) (af:Int) (st:Int) (x_:aj) : Option ((Int)⊕((Int×Int))) :=
 let kP:=st
 (se v_s x_.aF af).bind fun c6=>let kP:Int:=(i64.wrap (kP + c6))
 some (.inl kP)
theorem zB (bP:(List aj)) (v_s:aa) (af:Int) (a_:Int) (hl:bP.length≤1000000) : ah (lD bP v_s af) ab (a_,(0))=bk (gm bP v_s af) (fun a_=>(a_,((bP.length:Int)))) a_ bP :=
 ay bP (S:=Int×Int) (fun a_ k_=>(a_,(k_))) (gm bP v_s af) (fun a_=>(a_,((bP.length:Int)))) (an hl) (fun k a x hx=>by
  unfold lD gm; exact bH)
  (fun a=>by unfold lD; exact cF) a_
def gj (bP:(List aj)) (v_s:aa) (af:Int) (v_l:(List Int)) (st:Int×am) (x_:aj) : Option ((Int×am)⊕((Int×am×Int))) :=
 let cm:=st.1
 let v_x:=st.2
 let v_p:ByteArray:=x_.aF
 (eG v_s v_p af).bind fun c18=>(mN v_s v_p af v_l).bind fun c19=>let DI:Int:=(i64.wrap ((i64.wrap (c18.bD - x_.bD)) - c19))
 (pX v_s v_p af v_l).bind fun c20=>let v_c:am:=c20.1
 let bS:Bool:=c20.2
 (if bS=true then some (decide (DI > cm)) else some false).bind fun q21=>if q21=true then
 let t22:Int:=DI
 let t23:am:=v_c
 let cm:Int:=t22
 let v_x:am:=t23
 some (.inl (cm,v_x))
 else
 some (.inl (cm,v_x))
theorem zA (bP:(List aj)) (v_s:aa) (af:Int) (v_l:(List Int)) (a_:Int×am) (hl:bP.length≤1000000) : ah (lC bP v_s af v_l) ab (a_.1,a_.2,(0))=bk (gj bP v_s af v_l) (fun a_=>(a_.1,a_.2,((bP.length:Int)))) a_ bP :=
 ay bP (S:=Int×am×Int) (fun a_ k_=>(a_.1,a_.2,(k_))) (gj bP v_s af v_l) (fun a_=>(a_.1,a_.2,((bP.length:Int)))) (an hl) (fun k a x hx=>by
  unfold lC gj; exact bH)
  (fun a=>by unfold lC; exact cF) a_
def gp (kO:aa) (ye:aa) (st:(List Int)) (x_:am) : Option (((List Int))⊕(((List Int)×Int))) :=
 let v_l:=st
 (eL ye x_.fId).bind fun c5=>let bS:Bool:=c5.2
 if (!bS)=true then
 (aU v_l [x_.fId]).bind fun b6=>let v_l:(List Int):=b6
 some (.inl v_l)
 else
 some (.inl v_l)
theorem zD (kO:aa) (ye:aa) (a_:(List Int)) (hl:kO.ac.length≤1000000) : ah (lG kO ye) ab (a_,(0))=bk (gp kO ye) (fun a_=>(a_,((kO.ac.length:Int)))) a_ kO.ac :=
 ay kO.ac (S:=(List Int)×Int) (fun a_ k_=>(a_,(k_))) (gp kO ye) (fun a_=>(a_,((kO.ac.length:Int)))) (an hl) (fun k a x hx=>by
  unfold lG gp; exact bH)
  (fun a=>by unfold lG; exact cF) a_
def gh (v_l:(List am)) (af:Int) (st:aa) (x_:am) : Option ((aa)⊕((aa×Int))) :=
 let v_s:=st
 (eL v_s x_.fId).bind fun c15=>let wV:am:=c15.1
 let bS:Bool:=c15.2
 if (!bS)=true then
 some (.inl v_s)
 else
 (i7 v_s wV).bind fun c16=>(eG v_s c16 af).bind fun c17=>(pV v_s wV).bind fun c18=>(i7 v_s wV).bind fun c19=>(zE v_s af c19).bind fun c20=>if (decide ((i64.wrap (c17.bD - c18)) > c20))=true then
 (jg v_s ([wV.fId] : (List Int))).bind fun c21=>let v_s:aa:=c21
 some (.inl v_s)
 else
 (nQ v_s wV.fId 0).bind fun c22=>let v_s:aa:=c22
 some (.inl v_s)
theorem zx (v_l:(List am)) (af:Int) (a_:aa) (hl:v_l.length≤1000000) : ah (lA v_l af) ab (a_,(0))=bk (gh v_l af) (fun a_=>(a_,((v_l.length:Int)))) a_ v_l :=
 ay v_l (S:=aa×Int) (fun a_ k_=>(a_,(k_))) (gh v_l af) (fun a_=>(a_,((v_l.length:Int)))) (an hl) (fun k a x hx=>by
  unfold lA gh; exact bH)
  (fun a=>by unfold lA; exact cF) a_
def fm (v_l:(List Int)) (st:aa) (x_:Int) : Option ((aa)⊕((aa×Int))) :=
 let v_s:=st
 (nQ v_s x_ (if 1 > v_s.bW then 1 else v_s.bW)).bind fun c5=>let v_s:aa:=c5
 some (.inl v_s)
theorem xO (v_l:(List Int)) (a_:aa) (hl:v_l.length≤1000000) : ah (j7 v_l) ab (a_,(0))=bk (fm v_l) (fun a_=>(a_,((v_l.length:Int)))) a_ v_l :=
 ay v_l (S:=aa×Int) (fun a_ k_=>(a_,(k_))) (fm v_l) (fun a_=>(a_,((v_l.length:Int)))) (an hl) (fun k a x hx=>by
  unfold j7 fm; exact bH)
  (fun a=>by unfold j7; exact cF) a_
def eE (v_l:(List aj)) (st:(List aj)) (v_i:Int) (x_:aj) : Option (((List aj))⊕(((List aj)×Int))) :=
 let al:=st
 let v_k:Int:=0
 (ah (gr al v_i v_l) ab v_k).bind fun r13 =>
 let v_k:=r13
 (hiO al v_k).bind fun b14=>(aU ([] : (List aj)) b14).bind fun b15=>let v_x:(List aj):=b15
 (aU v_x [x_]).bind fun b16=>let v_x:(List aj):=b16
 (loO al v_k).bind fun b17=>(aU v_x b17).bind fun b18=>let al:(List aj):=b18
 some (.inl al)
theorem wi (v_l:(List aj)) (a_:(List aj)) (hl:v_l.length≤1000000) : ah (jx v_l) ab (a_,(0))=ny (eE v_l) (fun a_=>(a_,((v_l.length:Int)))) a_ 0 v_l :=
 fa v_l (S:=(List aj)×Int) (fun a_ k_=>(a_,(k_))) (eE v_l) (fun a_=>(a_,((v_l.length:Int)))) (an hl) (fun k a x hx=>by
  unfold jx eE; exact bH)
  (fun a=>by unfold jx; exact cF) a_
def ka (v_l:(List aj)) (au:ByteArray) (st:Unit) (x_:aj) : Option ((Unit)⊕((Int)⊕(Int))) :=
 if (x_.aF.toList==au.toList)=true then
 some (.inr (.inr x_.bD))
 else
 some (.inl ())
theorem BA (v_l:(List aj)) (au:ByteArray) (a_:Unit) (hl:v_l.length≤1000000) : ah (nn v_l au) ab (0)=bk (ka v_l au) (fun a_=>(.inl ((v_l.length:Int)))) a_ v_l :=
 ay v_l (S:=Int) (fun a_ k_=>(k_)) (ka v_l au) (fun a_=>(.inl ((v_l.length:Int)))) (an hl) (fun k a x hx=>by
  unfold nn ka; exact bH)
  (fun a=>by unfold nn; exact cF) a_
def VR (n:Int) : Int:=if (decide (n < 0)||decide (n > 1125899906842624))=true then 0 else n
theorem uX (n:Int) : lH n=some (VR n):=by
 unfold lH VR
 simp only [orB,zb]
 split <;> rfl
theorem KD (t:Int) (a b c:List Int) (hN:a.length≤1000) (hb:b.length=a.length) (hc:c.length=a.length) : ∃ r,vO t a b c=some r∧r.length=a.length:=by
 have hn:(if (c.length:Int) < (if (b.length:Int) < (a.length:Int) then (b.length:Int) else (a.length:Int)) then (c.length:Int) else (if (b.length:Int) < (a.length:Int) then (b.length:Int) else (a.length:Int)))=(a.length:Int):=by
  rw [hb,hc]
  simp
 unfold vO
 simp only [hn,uX,zb]
 obtain ⟨r,e1,e2⟩:=aM (f:=od (a.length:Int) a b c) (fun st=>∃ k:Nat,st.2.2=(k:Int)∧k≤a.length∧st.1.length=k) (fun st=>a.length - st.2.2.toNat) (fun r=>r.1.length=a.length) (fun st ⟨k,h1,h2,h3⟩=>by
  unfold od
  simp only [h1]
  by_cases hlt:k < a.length
  ·have g1:a[k]? = some a[k]:=zq hlt
   have g2:b[k]? = some (b[k]'(by omega)):=zq (by omega)
   have g3:c[k]? = some (c[k]'(by omega)):=zq (by omega)
   simp only [bJ g1,if_true,aC g1,aC g2,aC g3,uX,zb,a6 hlt (show a.length≤1000000 by omega)]
   rw [aD (by simp; omega)]
   exact .inl ⟨_,rfl,⟨k + 1,rfl,hlt,by simp; omega⟩,by simp only [zt]; omega⟩
  ·have:k=a.length:=by omega
   subst this
   simp only [bz,zf,if_false]
   exact .inr ⟨_,rfl,h3⟩) ab ([],VR t,0) ⟨0,rfl,Nat.zero_le _,rfl⟩ (by have:=an (show a.length≤1000000 by omega); omega)
 rw [e1]
 simp only [zb]
 obtain ⟨q,f1,f2⟩:=aM (f:=ob (a.length:Int) b c) (fun st=>∃ k:Nat,st.2.2=(k:Int)∧k≤a.length∧st.1.length=a.length) (fun st=>a.length - st.2.2.toNat) (fun r=>r.1.length=a.length) (fun st ⟨k,h1,h2,h3⟩=>by
  unfold ob
  simp only [h1]
  by_cases hlt:k < a.length
  ·have g1:a[k]? = some a[k]:=zq hlt
   have g2:b[k]? = some (b[k]'(by omega)):=zq (by omega)
   have g3:c[k]? = some (c[k]'(by omega)):=zq (by omega)
   have g4:st.1[k]? = some (st.1[k]'(by omega)):=zq (by omega)
   simp only [bJ g1,if_true,aC g2,aC g3,aC g4,uX,zb,a6 hlt (show a.length≤1000000 by omega),zt]
   exact .inl ⟨_,rfl,⟨k + 1,rfl,hlt,by simp; omega⟩,by simp only [zt]; omega⟩
  ·have:k=a.length:=by omega
   subst this
   simp only [bz,zf,if_false]
   exact .inr ⟨_,rfl,h3⟩) ab (r.1,r.2.1,0) ⟨0,rfl,Nat.zero_le _,e2⟩ (by have:=an (show a.length≤1000000 by omega); omega)
 rw [f1]
 exact ⟨_,rfl,f2⟩
theorem Cl {B:Nat} {s:aa} (h:SzS B s) (hD:Deep s.bN) (hB:B≤1000000) (k:Int) : ∀ (d n:Nat) (p:ByteArray) (v:Int),4 - dv 6 p≤d→d < n→d≤4→∃ r,lI n s p k v=some r∧r.length≤16 ^ d
 | d,0,p,_,_,hn,_=>absurd hn (Nat.not_lt_zero _)
 | d,n + 1,p,v,hp,hn,hd=>by
  obtain ⟨m,h2,h3,h4⟩:=tc s.bN p h.conf.sz
  have hq:=hD.few
  have k2:=h.nodes.1
  unfold lI
  simp only [h2,zb]
  split
  ·exact ⟨_,rfl,by show 1≤16 ^ d; exact Nat.one_le_pow _ _ (by omega)⟩
  ·rename_i hne
   have hm : 0 < m.length:=by
    rcases Nat.eq_zero_or_pos m.length with h0 | h0
    ·rw [h0] at hne; exact absurd rfl hne
    ·exact h0
   have kid:=Cg s.bN p h.conf.sz h2
   have kd:∀ x∈m,dv 6 p + 1=dv 6 x∧dv 6 x≤4:=fun x hx=>by
    obtain ⟨⟨q,hq1,hq2⟩,a1,a2⟩:=kid x hx
    subst hq2
    exact ⟨Ir a1 a2 (h.conf.sz.paths q hq1) (hD.deep q hq1),hD.deep q hq1⟩
   have hd0 : 0 < d:=by
    obtain ⟨a1,a2⟩:=kd m[0] (List.getElem_mem hm)
    omega
   obtain ⟨d',rfl⟩ : ∃ d',d=d' + 1:=⟨d - 1,by omega⟩
   have hpow : 16 ^ d'≤16 ^ 3:=Nat.pow_le_pow_right (by omega) (by omega)
   have hm1:m.length≤1000000:=by omega
   obtain ⟨r,e1,e2⟩:=aM (f:=p6 (lI n) m s k) (fun st=>∃ i:Nat,st.2.2.2=(i:Int)∧i≤m.length∧st.1.length=i∧st.2.1.length=i∧st.2.2.1.length=i) (fun st=>m.length - st.2.2.2.toNat) (fun r=>r.1.length=m.length∧r.2.1.length=m.length∧r.2.2.1.length=m.length) (fun st ⟨i,i1,i2,i3,i4,i5⟩=>by
    unfold p6
    simp only [i1]
    by_cases hlt:i < m.length
    ·have g1:m[i]? = some m[i]:=zq hlt
     obtain ⟨u,hu⟩:=fp h hB m[i] k
     obtain ⟨w,hw⟩:=u9 h hB m[i] k
     simp only [bJ g1,if_true,aC g1,nL s _ k h.conf (Nat.le_trans k2 hB),FJ s _ k h.conf (Nat.le_trans k2 hB),hu,hw,zb,a6 hlt hm1]
     rw [aD (by simp; omega)]
     simp only [zb]
     rw [aD (by simp; omega)]
     simp only [zb]
     rw [aD (by simp; omega)]
     exact .inl ⟨_,rfl,⟨i + 1,rfl,hlt,by simp; omega,by simp; omega,by simp; omega⟩,by simp only [zt]; omega⟩
    ·have:i=m.length:=by omega
     subst this
     simp only [bz,zf,if_false]
     exact .inr ⟨_,rfl,i3,i4,i5⟩) ab ([],[],[],0) ⟨0,rfl,Nat.zero_le _,rfl,rfl,rfl⟩ (by have:=an hm1; omega)
   rw [e1]
   simp only [zb]
   obtain ⟨x,x1,x2⟩:=KD v r.1 r.2.2.1 r.2.1 (by omega) (by omega) (by omega)
   rw [x1]
   simp only [zb]
   obtain ⟨q,f1,f2⟩:=aM (f:=p5 (lI n) m s k x) (fun st=>∃ i:Nat,st.2=(i:Int)∧i≤m.length∧st.1.length≤i * 16 ^ d') (fun st=>m.length - st.2.toNat) (fun r=>r.1.length≤m.length * 16 ^ d') (fun st ⟨i,i1,i2,i3⟩=>by
    unfold p5
    simp only [i1]
    by_cases hlt:i < m.length
    ·have g1:m[i]? = some m[i]:=zq hlt
     have g2:x[i]? = some (x[i]'(by omega)):=zq (by omega)
     obtain ⟨a1,a2⟩:=kd m[i] (List.getElem_mem hlt)
     obtain ⟨c,c1,c2⟩:=Cl h hD hB k d' n m[i] (x[i]'(by omega)) (by omega) (by omega) (by omega)
     have hj2:i * 16 ^ d'≤16 * 16 ^ 3:=Nat.mul_le_mul (by omega) hpow
     simp only [bJ g1,if_true,aC g1,aC g2,c1,zb,a6 hlt hm1]
     rw [aD (by omega)]
     refine .inl ⟨_,rfl,⟨i + 1,rfl,hlt,?_⟩,by simp only [zt]; omega⟩
     show (st.1++c).length≤_
     rw [List.length_append,Nat.succ_mul]
     omega
    ·have:i=m.length:=by omega
     subst this
     simp only [bz,zf,if_false]
     exact .inr ⟨_,rfl,i3⟩) ab ([],0) ⟨0,rfl,Nat.zero_le _,by simp⟩ (by have:=an hm1; omega)
   rw [f1]
   refine ⟨_,rfl,Nat.le_trans f2 ?_⟩
   rw [Nat.pow_succ,Nat.mul_comm]
   exact Nat.mul_le_mul_left _ (by omega)
theorem wE {B:Nat} {s:aa} (h:SzS B s) (hD:Deep s.bN) (hB:B≤1000000) (k:Int) : ∃ r,p7 s k=some r∧r.length≤65536:=by
 obtain ⟨l,h1,h2⟩:=Cl h hD hB k 4 ab ⟨#[114,111,111,116]⟩ (uM s k).bD (by omega) (by unfold ab; omega) (by omega)
 have h2:l.length≤65536:=h2
 have k2:=h.nodes.1
 unfold p7
 simp only [nK s k (Nat.le_trans k2 hB),h1,zb]
 rw [wi l [] (by omega)]
 obtain ⟨r,e1,e2⟩:=mu (g:=eE l) (fin:=fun b=>(b,(l.length:Int))) (fun j b=>b.length≤j) (fun r=>r.1.length≤l.length) l 0 [] (fun j out x hx ho=>by
  have hj:=(zg.1 hx).1
  obtain ⟨K,hK1,hK2⟩:=nB out (by omega) (f:=gr out ((0 + j:Nat) : Int) l) (fun i y hy=>by
   have hi:=(zg.1 hy).1
   refine ⟨Op.bytesLess y.aF.toList x.aF.toList,?_⟩
   unfold gr
   simp only [bJ hy,if_true,aC hy,aC (show l[0 + j]? = some x by rwa [Nat.zero_add]),zb,a6 hi (show out.length≤1000000 by omega)]) (by unfold gr; simp only [bz,zf,if_false,zb])
  unfold eE
  dsimp only
  rw [hK1]
  simp only [zb]
  rw [nZ hK2]
  simp only [zb]
  rw [aD (by simp; omega)]
  simp only [zb]
  rw [aD (by simp; omega)]
  simp only [zb]
  rw [ko hK2]
  simp only [zb]
  rw [aD (by simp; omega)]
  refine ⟨_,rfl,fun a' e=>?_,fun r e=>by cases e⟩
  injection e with e
  subst e
  simp; omega) (fun b hb=>by simpa using hb) (by simp)
 rw [e1]
 exact ⟨_,rfl,by show r.1.length≤_; omega⟩
theorem Qh {B:Nat} {s:aa} (h:SzS B s) (hD:Deep s.bN) (hB:B≤1000000) (k:Int) (p:ByteArray) : ∃ r,zE s k p=some r:=by
 obtain ⟨l,h1,h2⟩:=wE h hD hB k
 unfold zE
 rw [h1]
 dsimp only [zb]
 rw [BA l p () (by omega),show ka l p=fun (_:Unit) x=>if (x.aF.toList==p.toList)=true then some (.inr (.inr x.bD)) else some (.inl ()) from rfl,
  kA (fun x:aj=>x.aF.toList==p.toList) (fun x=>(Sum.inr x.bD:Int⊕Int)) (.inl (l.length:Int)) l]
 simp only [zb]
 cases l.find? fun x=>x.aF.toList==p.toList <;> exact ⟨_,rfl⟩
theorem uV (s:aa) (c:am) (hl:s.ai.length≤1000000) : i7 s c=some (bQ s c.bC).bF:=by
 unfold i7
 simp only [dy s c.bC hl,zb]
def inL (l:List Int) (n:Int) : Bool:=l.any fun x=>x==n
theorem IZ (l:List Int) (n:Int) (hl:l.length≤1000000) : xN l n=some (inL l n):=by
 unfold xN inL
 dsimp only
 rw [CN l n () hl,show lB l n=fun (_:Unit) x=>if (x==n)=true then some (.inr (.inr true)) else some (.inl ()) from rfl,
  kA (fun x:Int=>x==n) (fun _=>(Sum.inr true:Int⊕Bool)) (.inl (l.length:Int)) l]
 simp only [zb]
 cases hf:l.find? fun x=>x==n with
 | none =>
  have:(l.any fun x=>x==n)=false:=by
   rw [List.any_eq_false]; intro x hx; have:=List.find?_eq_none.1 hf x hx; simpa using this
  rw [this]
 | some q =>
  have:(l.any fun x=>x==n)=true:=by rw [List.any_eq_true]; exact ⟨q,List.mem_of_find?_eq_some hf,List.find?_some (p:=fun x:Int=>x==n) hf⟩
  rw [this]
theorem Ib {α : Type} {p q : α→Bool} (hpq:∀ x,q x=true→p x=true) : ∀ l:List α,(∃ x∈l,p x=true∧q x=false)→(l.filter q).length < (l.filter p).length
 | [],⟨x,hx,_⟩=>by cases hx
 | y::l,⟨x,hx,h1,h2⟩=>by
  have le:∀ l:List α,(l.filter q).length≤(l.filter p).length:=fun l=>by
   induction l with
   | nil=>exact Nat.le_refl _
   | cons z l ih =>
    simp only [List.filter_cons]
    cases hq:q z with
    | true=>rw [hpq z hq]; simpa using ih
    | false =>
     cases p z with
     | true=>simp; omega
     | false=>simpa using ih
  simp only [List.filter_cons]
  rcases List.mem_cons.1 hx with rfl | hx
  ·rw [h1,h2]
   have:=le l
   simp; omega
  ·have ih:=Ib hpq l ⟨x,hx,h1,h2⟩
   cases hq:q y with
   | true=>rw [hpq y hq]; simpa using ih
   | false =>
    cases p y with
    | true=>simp; omega
    | false=>simpa using ih
theorem Kz {B:Nat} {s:aa} (h:SzS B s) (hB:B≤1000000) (p:ByteArray) (k:Int) : ∃ r,se s p k=some r:=by
 obtain ⟨u,hu⟩:=fp h hB p k
 obtain ⟨v,hv⟩:=u9 h hB p k
 have k1:=h.apps; have k2:=h.nodes.1
 unfold se
 simp only [hu,nL s p k h.conf (Nat.le_trans k2 hB),zb]
 rw [xL s p k (BG s p k).bD u.bD () (by omega)]
 obtain ⟨r,e1,_⟩:=aR (g:=fj s p k (BG s p k).bD u.bD) (fin:=fun _=>(.inl (s.ai.length:Int))) (fun _ _=>True) (fun _=>True) s.ai 0 () (fun j b x hx _=>by
  have hm:=h.app x (List.mem_of_getElem? hx)
  have ha:=hm.asks
  have ha2:x.bE.length≤1000000:=by omega
  obtain ⟨r,r1,_⟩:=aM (f:=jY x p s k (BG s p k).bD u.bD) (fun st=>∃ i:Nat,st=(i:Int)∧i≤x.bE.length) (fun st=>x.bE.length - st.toNat) (fun _=>True) (fun st ⟨i,h1,h2⟩=>by
   subst h1
   unfold jY
   by_cases hlt:i < x.bE.length
   ·have g1:x.bE[i]? = some x.bE[i]:=zq hlt
    simp only [bJ g1,if_true,aC g1,ec,hv,dH,zb,a6 hlt ha2]
    split
    ·split
     ·exact .inr ⟨_,rfl,trivial⟩
     ·exact .inl ⟨_,rfl,⟨i + 1,rfl,hlt⟩,by simp only [zt]; omega⟩
    ·exact .inr ⟨_,rfl,trivial⟩
   ·have:i=x.bE.length:=by omega
    subst this
    simp only [bz,zf,if_false,zb]
    exact .inr ⟨_,rfl,trivial⟩) ab 0 ⟨0,rfl,Nat.zero_le _⟩ (by have:=an ha2; omega)
  unfold fj
  dsimp only
  rw [r1]
  simp only [zb]
  cases r <;> exact ⟨_,rfl,fun _ _=>trivial,fun _ _=>trivial⟩) (fun _ _=>trivial) trivial
 rw [e1]
 simp only [zb]
 cases r <;> exact ⟨_,rfl⟩
theorem wD {B:Nat} {s:aa} (h:SzS B s) (hB:B≤1000000) (p:ByteArray) (k:Int) (l:List Int) (hl:l.length≤1000000) : ∃ r,mN s p k l=some r:=by
 have k1:=h.apps; have k2:=h.conts
 unfold mN
 dsimp only
 rw [wh s k p l 0 (by omega)]
 obtain ⟨r,e1,_⟩:=aR (g:=eD s k p l) (fin:=fun b=>(b,(s.ac.length:Int))) (fun _ _=>True) (fun _=>True) s.ac 0 0 (fun j b x hx _=>by
  unfold eD
  simp only [uV s x (show s.ai.length≤1000000 by omega),IZ l x.fId hl,dH,orB,zb]
  split <;> exact ⟨_,rfl,fun _ _=>trivial,fun _ _=>trivial⟩) (fun _ _=>trivial) trivial
 rw [e1]
 exact ⟨_,rfl⟩
theorem G7 {B:Nat} {s:aa} (h:SzS B s) (hB:B≤1000000) (p:ByteArray) (k:Int) (l:List Int) (hl:l.length≤1000000) : ∃ r,pX s p k l=some r∧(r.2=true→r.1∈s.ac∧inL l r.1.fId=false):=by
 have k1:=h.apps; have k2:=h.conts
 unfold pX
 dsimp only
 rw [wg s k p l ((⟨0,0,0,ax.zero,0,0,false,0⟩ : am),false) (by omega)]
 obtain ⟨r,e1,e2⟩:=aR (g:=eB s k p l) (fin:=fun b=>(b.1,b.2,(s.ac.length:Int))) (fun _ b=>b.2=true→b.1∈s.ac∧inL l b.1.fId=false) (fun r=>r.2.1=true→r.1∈s.ac∧inL l r.1.fId=false) s.ac 0 ((⟨0,0,0,ax.zero,0,0,false,0⟩ : am),false) (fun j b x hx hb=>by
  unfold eB
  simp only [uV s x (show s.ai.length≤1000000 by omega),IZ l x.fId hl,dH,orB,zb]
  split
  ·exact ⟨_,rfl,fun a e=>(by injection e with e; subst e; exact hb),fun r e=>(by cases e)⟩
  ·rename_i hn
   split
   ·refine ⟨_,rfl,fun a e=>?_,fun r e=>(by cases e)⟩
    injection e with e
    subst e
    refine fun _=>⟨List.mem_of_getElem? hx,?_⟩
    simp only [Bool.or_eq_true,not_or,Bool.not_eq_true] at hn
    exact hn.2
   ·exact ⟨_,rfl,fun a e=>(by injection e with e; subst e; exact hb),fun r e=>(by cases e)⟩) (fun b hb=>hb) (fun e=>by cases e)
 rw [e1]
 exact ⟨_,rfl,e2⟩
def XM (s:aa) (l:List Int) : Nat:=(s.ac.filter fun c=>!inL l c.fId).length
theorem Nm {B:Nat} {s:aa} (h:SzS B s) (hB:B≤1000000) (k:Int) : ∃ r,zC s k=some r∧r.length≤s.ac.length:=by
 have k1:=h.apps; have k2:=h.conts; have k3:=h.nodes.1
 obtain ⟨sh,h1,h2⟩:=wE h h.conf.deep hB k
 obtain ⟨u,hu⟩:=fp h hB ⟨#[114,111,111,116]⟩ k
 unfold zC
 simp only [h1,nK s k (Nat.le_trans k3 hB),hu,zb]
 rw [zB sh s k _ (by omega)]
 obtain ⟨r,e1,_⟩:=aR (g:=gm sh s k) (fin:=fun b=>(b,(sh.length:Int))) (fun _ _=>True) (fun _=>True) sh 0 (i64.wrap (0 - (if 0 > (i64.wrap ((uM s k).bD - u.bD)) then 0 else (i64.wrap ((uM s k).bD - u.bD))))) (fun j b x hx _=>by
  obtain ⟨n,hn⟩:=Kz h hB x.aF k
  unfold gm
  simp only [hn,zb]
  exact ⟨_,rfl,fun _ _=>trivial,fun _ _=>trivial⟩) (fun _ _=>trivial) trivial
 rw [e1]
 simp only [zb]
 obtain ⟨q,f1,f2⟩:=aM (f:=pZ s k r.1 sh) (fun l=>l.length + XM s l≤s.ac.length) (fun l=>XM s l) (fun r=>match r with | .inl m=>m.length≤s.ac.length | .inr m=>m.length≤s.ac.length) (fun l hl=>by
  have hl2:l.length≤s.ac.length:=by omega
  obtain ⟨m,hm⟩:=wD h hB ⟨#[]⟩ k l (by omega)
  unfold pZ
  simp only [hm,zb]
  split
  ·rw [zA sh s k l (0,(⟨0,0,0,ax.zero,0,0,false,0⟩ : am)) (by omega)]
   obtain ⟨t,t1,t2⟩:=aR (g:=gj sh s k l) (fin:=fun b=>(b.1,b.2,(sh.length:Int))) (fun _ b=>b.1≠0→b.2∈s.ac∧inL l b.2.fId=false) (fun r=>r.1≠0→r.2.1∈s.ac∧inL l r.2.1.fId=false) sh 0 (0,(⟨0,0,0,ax.zero,0,0,false,0⟩ : am)) (fun j b x hx hb=>by
    obtain ⟨u,hu⟩:=fp h hB x.aF k
    obtain ⟨m,hm⟩:=wD h hB x.aF k l (by omega)
    obtain ⟨n,hn,hn2⟩:=G7 h hB x.aF k l (by omega)
    unfold gj
    simp only [hu,hm,hn,dH,zb]
    split
    ·rename_i hc
     rw [Bool.and_eq_true] at hc
     exact ⟨_,rfl,fun a e=>(by injection e with e; subst e; exact fun _=>hn2 hc.1),fun r e=>(by cases e)⟩
    ·exact ⟨_,rfl,fun a e=>(by injection e with e; subst e; exact hb),fun r e=>(by cases e)⟩) (fun b hb=>hb) (fun e=>absurd rfl e)
   rw [t1]
   simp only [zb]
   split
   ·exact .inr ⟨_,rfl,hl2⟩
   ·rename_i hne
    obtain ⟨c1,c2⟩:=t2 (by simpa using hne)
    have hlt:XM s (l ++ [t.2.1.fId]) < XM s l:=Ib (fun x hx=>by
     unfold inL at hx ⊢
     simp only [List.any_append,Bool.not_or,Bool.and_eq_true] at hx
     exact hx.1) s.ac ⟨t.2.1,c1,by rw [c2]; rfl,by unfold inL; simp⟩
    rw [aD (by simp; omega)]
    exact .inl ⟨_,rfl,by rw [List.length_append,List.length_singleton]; omega,hlt⟩
  ·exact .inr ⟨_,rfl,hl2⟩) ab [] (by show 0 + (List.filter _ _).length≤_; rw [Nat.zero_add]; exact List.length_filter_le _ _) (by have:=List.length_filter_le (fun c:am=>!inL [] c.fId) s.ac; have h3:=an (show s.ac.length≤1000000 by omega); show (s.ac.filter fun c=>!inL [] c.fId).length < ab; omega)
 rw [f1]
 simp only [zb]
 cases q with
 | inl m=>exact ⟨_,rfl,f2⟩
 | inr m=>exact ⟨_,rfl,f2⟩
theorem Ck (s t:aa) (hl:s.ac.length≤1000000) (ht:t.ac.length≤1000000) : uW s t=some ((s.ac.filter fun c=>!LY t c.fId).map am.fId):=by
 unfold uW
 dsimp only
 have e:gp s t=fun acc x=>if (!LY t x.fId)=true then (aU acc [x.fId]).map (fun a=>(.inl a:List Int⊕(List Int×Int))) else some (.inl acc):=by
  funext acc x
  unfold gp
  simp only [kH t x.fId ht,zb]
  split
  ·cases aU acc [x.fId] <;> rfl
  ·rfl
 rw [zD s t [] hl,e,cr (fun c:am=>!LY t c.fId) am.fId _ s.ac [] (by simpa using hl)]
 simp
theorem Nf {B:Nat} {s:aa} (h:SzS B s) (hB:B≤1000000) (id t:Int) : ∃ r,nQ s id t=some r∧SzS B r∧r.ai=s.ai∧r.ac.length=s.ac.length:=by
 have k2:=h.conts
 have hl:s.ac.length≤1000000:=by omega
 unfold nQ
 rw [aD (by simp; omega)]
 simp only [zb,List.nil_append]
 obtain ⟨r,r1,r2⟩:=aM (f:=pW t id) (fun st=>∃ i:Nat,st.2=(i:Int)∧i≤s.ac.length∧st.1.length=s.ac.length) (fun st=>s.ac.length - st.2.toNat) (fun r=>r.1.length=s.ac.length) (fun st ⟨i,h1,h2,h3⟩=>by
  unfold pW
  simp only [h1]
  by_cases hlt:i < st.1.length
  ·have g1:st.1[i]? = some st.1[i]:=zq hlt
   simp only [bJ g1,if_true,aC g1,zt,zb,a6 hlt (show st.1.length≤1000000 by omega)]
   split
   ·exact .inl ⟨_,rfl,⟨i + 1,rfl,by omega,by simp; omega⟩,by simp only [zt]; omega⟩
   ·exact .inl ⟨_,rfl,⟨i + 1,rfl,by omega,h3⟩,by simp only [zt]; omega⟩
  ·have:i=st.1.length:=by omega
   subst this
   simp only [bz,zf,if_false]
   exact .inr ⟨_,rfl,h3⟩) ab (s.ac,0) ⟨0,rfl,Nat.zero_le _,rfl⟩ (by have:=an hl; omega)
 rw [r1]
 exact ⟨_,rfl,h.cont (by omega),rfl,r2⟩
structure OkS (M:Nat) (s:aa) : Prop where
 m:SzM M s
 srt:jK aq.fId s.ai
theorem OkS.mono {M N:Nat} {s:aa} (h:OkS M s) (hn:M≤N) : OkS N s:=⟨h.m.mono hn,h.srt⟩
theorem OkS.sz {M:Nat} {s:aa} (h:OkS M s) : SzS M s:=h.m.sz
theorem G6 (s:aa) (c:am) (hl:s.ac.length≤1000000) : ∃ r,pV s c=some r:=by
 unfold pV
 dsimp only
 obtain ⟨r,r1,_⟩:=aM (f:=mM s c) (fun st=>∃ i:Nat,st.2=(i:Int)∧i≤s.ac.length) (fun st=>s.ac.length - st.2.toNat) (fun _=>True) (fun st ⟨i,h1,h2⟩=>by
  unfold mM
  simp only [h1]
  by_cases hlt:i < s.ac.length
  ·have g1:s.ac[i]? = some s.ac[i]:=zq hlt
   simp only [bJ g1,if_true,aC g1,dH,zb,a6 hlt hl]
   split
   ·split
    ·exact .inl ⟨_,rfl,⟨i + 1,rfl,hlt⟩,by simp only [zt]; omega⟩
    ·exact .inl ⟨_,rfl,⟨i + 1,rfl,hlt⟩,by simp only [zt]; omega⟩
   ·exact .inr ⟨_,rfl,trivial⟩
  ·have:i=s.ac.length:=by omega
   subst this
   simp only [bz,zf,if_false,zb]
   exact .inr ⟨_,rfl,trivial⟩) ab (0,0) ⟨0,rfl,Nat.zero_le _⟩ (by have:=an hl; show s.ac.length - (0:Int).toNat < ab; omega)
 rw [r1]
 exact ⟨_,rfl⟩
theorem I7 {k:Nat} (hk:k≤1000000) : i64.wrap ((k:Int) - 1)=(k:Int) - 1:=by rw [IntKind.wrap_i64]; omega
theorem OkS.note {M:Nat} {s:aa} (h:OkS M s) (hM:M≤1000000) (id t:Int) : ∃ r,nQ s id t=some r∧OkS M r∧r.ac.length=s.ac.length:=by
 obtain ⟨⟨B,h1,h2⟩,h3⟩:=h
 obtain ⟨r,r1,r2,r3,r4⟩:=Nf h1 (by omega) id t
 exact ⟨r,r1,⟨⟨B,r2,by rw [r4]; exact h2⟩,by rw [r3]; exact h3⟩,r4⟩
theorem Ni {M:Nat} {s:aa} (h:OkS M s) (hM:M + 1≤1000000) (k:Int) : ∃ r,zy s k=some r∧OkS M r∧r.ac.length≤s.ac.length:=by
 have hc:=h.sz.conts
 have hl:s.ac.length≤1000000:=by omega
 unfold zy
 dsimp only
 rw [I7 hl]
 obtain ⟨r,r1,r2⟩:=aM (f:=pY s k) (fun st=>∃ i:Nat,st.2=(i:Int) - 1∧i≤s.ac.length∧st.1.length + i≤s.ac.length) (fun st=>(st.2 + 1).toNat) (fun r=>r.1.length≤s.ac.length) (fun st ⟨i,h1,h2,h3⟩=>by
  unfold pY
  simp only [h1]
  by_cases hlt : 0 < i
  ·obtain ⟨j,rfl⟩ : ∃ j,i=j + 1:=⟨i - 1,by omega⟩
   have hj:((j + 1:Nat) : Int) - 1=(j:Int):=by omega
   have g1:s.ac[j]? = some s.ac[j]:=zq (by omega)
   have hd:decide ((j:Int)≥0)=true:=by simp
   simp only [hj,hd,if_true,aC g1,dH,zb,I7 (show j≤1000000 by omega)]
   split
   ·rw [aD (by simp; omega)]
    exact .inl ⟨_,rfl,⟨j,rfl,by omega,by simp; omega⟩,by show ((j:Int) - 1 + 1).toNat < ((j:Int) + 1).toNat; omega⟩
   ·exact .inl ⟨_,rfl,⟨j,rfl,by omega,by show st.1.length + j≤_; omega⟩,by show ((j:Int) - 1 + 1).toNat < ((j:Int) + 1).toNat; omega⟩
  ·have:i=0:=by omega
   subst this
   have hd:decide (((0:Nat) : Int) - 1≥0)=false:=by simp
   simp only [hd,zf,if_false]
   exact .inr ⟨_,rfl,by show st.1.length≤_; omega⟩) ab ([],(s.ac.length:Int) - 1) ⟨s.ac.length,rfl,Nat.le_refl _,by simp⟩ (by have:=an hl; show ((s.ac.length:Int) - 1 + 1).toNat < ab; omega)
 rw [r1]
 simp only [zb]
 rw [zx r.1 k s (by omega)]
 obtain ⟨q,q1,q2⟩:=aR (g:=gh r.1 k) (fin:=fun b=>(b,(r.1.length:Int))) (fun _ b=>OkS M b∧b.ac.length≤s.ac.length) (fun r=>OkS M r.1∧r.1.ac.length≤s.ac.length) r.1 0 s (fun j t x hx ⟨ht,hle⟩=>by
  have hz:=ht.sz
  have k1:=hz.apps; have k2:=hz.conts
  unfold gh
  dsimp only
  rw [kH t _ (by omega)]
  simp only [zb]
  split
  ·exact ⟨_,rfl,fun a' e=>(by injection e with e; subst e; exact ⟨ht,hle⟩),fun r e=>(by cases e)⟩
  obtain ⟨u,hu⟩:=fp hz (by omega) (bQ t (mf t x.fId).bC).bF k
  obtain ⟨o,ho⟩:=G6 t (mf t x.fId) (by omega)
  obtain ⟨mm,hmm⟩:=Qh hz hz.conf.deep (by omega) k (bQ t (mf t x.fId).bC).bF
  obtain ⟨ls,l1,l2,l3,l4⟩:=Gi ht.m ht.srt [(mf t x.fId).fId] (by simp) (by omega)
  obtain ⟨nt,n1,n2,n3⟩:=ht.note (by omega) (mf t x.fId).fId 0
  simp only [uV t _ (show t.ai.length≤1000000 by omega),hu,ho,hmm,l1,n1,zb]
  split
  ·exact ⟨_,rfl,fun a' e=>(by injection e with e; subst e; exact ⟨⟨l2,l3⟩,by omega⟩),fun r e=>(by cases e)⟩
  ·exact ⟨_,rfl,fun a' e=>(by injection e with e; subst e; exact ⟨n2,by omega⟩),fun r e=>(by cases e)⟩) (fun b hb=>hb) ⟨h,Nat.le_refl _⟩
 rw [q1]
 exact ⟨_,rfl,q2⟩
theorem KC {M:Nat} {s:aa} (h:OkS M s) (hM:M + 1≤1000000) : ∃ r,vN s=some r∧OkS M r.1∧r.1.ac.length≤s.ac.length:=by
 have hc:=h.sz.conts
 unfold vN
 dsimp only
 obtain ⟨r,r1,r2⟩:=aM (f:=oa) (fun st=>∃ i:Nat,st.2=(i:Int)∧i≤1000∧OkS M st.1∧st.1.ac.length≤s.ac.length) (fun st=>1000 - st.2.toNat) (fun r=>OkS M r.1∧r.1.ac.length≤s.ac.length) (fun st ⟨i,h1,h2,h3,h4⟩=>by
  unfold oa
  simp only [h1]
  split
  ·rename_i hlt
   have hlab:=h3.sz.conf.sz.labels
   have hlt:i < st.1.bN.ak.length:=by have:=zd hlt; omega
   obtain ⟨a,a1,a2,a3⟩:=Ni h3 hM (i:Int)
   have hac:=a2.sz.conts
   obtain ⟨p,p1,p2⟩:=Nm a2.sz (by omega) (i:Int)
   have hp:p.length≤1000000:=by omega
   simp only [a1,p1,zb]
   rw [xO p a hp]
   obtain ⟨q,q1,q2⟩:=aR (g:=fm p) (fin:=fun b=>(b,(p.length:Int))) (fun _ b=>OkS M b∧b.ac.length≤s.ac.length) (fun r=>OkS M r.1∧r.1.ac.length≤s.ac.length) p 0 a (fun j t x hx ⟨ht,hle⟩=>by
    obtain ⟨nt,n1,n2,n3⟩:=ht.note (by omega) x (if 1 > t.bW then 1 else t.bW)
    unfold fm
    simp only [n1,zb]
    exact ⟨_,rfl,fun a' e=>(by injection e with e; subst e; exact ⟨n2,by omega⟩),fun r e=>(by cases e)⟩) (fun b hb=>hb) ⟨a2,by omega⟩
   rw [q1]
   simp only [zb,a6 (show i < 1000 by omega) (show 1000≤1000000 by omega)]
   exact .inl ⟨_,rfl,⟨i + 1,rfl,by omega,q2.1,q2.2⟩,by simp only [zt]; omega⟩
  ·exact .inr ⟨_,rfl,h3,h4⟩) ab (s,0) ⟨0,rfl,by omega,h,Nat.le_refl _⟩ (by show 1000 - (0:Int).toNat < ab; unfold ab; omega)
 rw [r1]
 simp only [zb]
 have hrc:=r2.1.sz.conts
 rw [Ck s r.1 (by omega) (by omega)]
 exact ⟨_,rfl,r2⟩
theorem Q4 {s:ByteArray} {a b:Nat} (h1:a≤b) (h2:b≤s.size) : Jk s (a:Int) (b:Int)=some (s.extract a b):=by
 unfold Jk
 rw [if_pos ⟨by omega,by omega,by simpa using h1,by simpa using h2⟩]
 simp
theorem Q3 {s:ByteArray} {a:Nat} (h1:a≤s.size) : Ss s (a:Int)=some (s.extract a s.size):=by
 unfold Ss
 rw [if_pos ⟨by omega,by simpa using h1⟩]
 simp
theorem Q5 {s:ByteArray} {a:Nat} (h1:a≤s.size) : Od s (a:Int)=some (s.extract 0 a):=by
 unfold Od
 rw [if_pos ⟨by omega,by simpa using h1⟩]
 simp
theorem yK (s:ByteArray) (a b:Nat) : (s.extract a b).size≤s.size:=by simp only [ByteArray.size_extract]; omega
theorem wo {k:Nat} (hk:k≤1000000) : i64.wrap ((k:Int) + 1)=((k + 1:Nat) : Int):=by rw [IntKind.wrap_i64]; omega
theorem ltS {k n:Nat} (h:k < n) : decide ((k:Int) < (n:Int))=true:=by simpa using h
theorem geS {k:Nat} : decide ((k:Int) < (k:Int))=false:=by simp
theorem IV (s:ByteArray) (c:Int) (hs:s.size≤100000) : ∃ r,FO s c=some r∧r.length≤s.size + 1∧∀ x∈r,x.size≤s.size:=by
 unfold FO
 dsimp only
 obtain ⟨r,r1,r2⟩:=aM (f:=te s c) (fun st=>∃ i a:Nat,st.2.2=(i:Int)∧st.2.1=(a:Int)∧i≤s.size∧a≤i∧st.1.length≤i∧∀ x∈st.1,x.size≤s.size) (fun st=>s.size - st.2.2.toNat) (fun r=>∃ a:Nat,r.2.1=(a:Int)∧a≤s.size∧r.1.length≤s.size∧∀ x∈r.1,x.size≤s.size) (fun st ⟨i,a,h1,h2,h3,h4,h5,h6⟩=>by
  unfold te
  simp only [h1,h2]
  by_cases hlt:i < s.size
  ·obtain ⟨b,hb⟩:=pg (s:=s) (k:=(i:Int)) (by omega) (by simpa using hlt)
   simp only [ltS hlt,if_true,hb,zb,wo (show i≤1000000 by omega)]
   split
   ·rw [Q4 h4 h3]
    simp only [zb]
    rw [aD (by simp; omega)]
    refine .inl ⟨_,rfl,⟨i + 1,i + 1,rfl,rfl,hlt,Nat.le_refl _,by simp; omega,fun x hx=>?_⟩,by simp only [zt]; omega⟩
    simp only [List.mem_append,List.mem_singleton] at hx
    rcases hx with hx | rfl
    ·exact h6 x hx
    ·exact yK _ _ _
   ·exact .inl ⟨_,rfl,⟨i + 1,a,rfl,rfl,hlt,by omega,by show st.1.length≤i + 1; omega,h6⟩,by simp only [zt]; omega⟩
  ·have:i=s.size:=by omega
   subst this
   simp only [geS,zf,if_false]
   exact .inr ⟨_,rfl,a,rfl,h4,h5,h6⟩) ab ([],0,0) ⟨0,0,rfl,rfl,Nat.zero_le _,Nat.le_refl _,Nat.le_refl _,fun x hx=>by cases hx⟩ (by show s.size - (0:Int).toNat < ab; unfold ab; omega)
 rw [r1]
 obtain ⟨a,k1,k2,k3,k4⟩:=r2
 simp only [zb,k1]
 split
 ·rw [Q3 k2]
  simp only [zb]
  rw [aD (by simp; omega)]
  refine ⟨_,rfl,by simp; omega,fun x hx=>?_⟩
  simp only [List.mem_append,List.mem_singleton] at hx
  rcases hx with hx | rfl
  ·exact k4 x hx
  ·exact yK _ _ _
 ·exact ⟨_,rfl,by show r.1.length≤_; omega,k4⟩
theorem M0 (s:ByteArray) (hs:s.size≤100000) : ∃ r,y6 s=some r∧r.length≤s.size + 1∧∀ x∈r,x.size≤s.size:=by
 obtain ⟨l,l1,l2,l3⟩:=IV s 32 hs
 have hl:l.length≤1000000:=by omega
 unfold y6
 simp only [l1,zb]
 obtain ⟨r,r1,r2⟩:=aM (f:=pG l) (fun st=>∃ i:Nat,st.2=(i:Int)∧i≤l.length∧st.1.length≤i∧∀ x∈st.1,x.size≤s.size) (fun st=>l.length - st.2.toNat) (fun r=>r.1.length≤s.size + 1∧∀ x∈r.1,x.size≤s.size) (fun st ⟨i,h1,h2,h3,h4⟩=>by
  unfold pG
  simp only [h1]
  by_cases hlt:i < l.length
  ·have g1:l[i]? = some l[i]:=zq hlt
   simp only [bJ g1,if_true,aC g1,zb,a6 hlt hl]
   split
   ·rw [aD (by simp; omega)]
    refine .inl ⟨_,rfl,⟨i + 1,rfl,hlt,by simp; omega,fun x hx=>?_⟩,by simp only [zt]; omega⟩
    simp only [List.mem_append,List.mem_singleton] at hx
    rcases hx with hx | rfl
    ·exact h4 x hx
    ·exact l3 _ (List.getElem_mem _)
   ·exact .inl ⟨_,rfl,⟨i + 1,rfl,hlt,by show st.1.length≤i + 1; omega,h4⟩,by simp only [zt]; omega⟩
  ·have:i=l.length:=by omega
   subst this
   simp only [bz,zf,if_false]
   exact .inr ⟨_,rfl,by show st.1.length≤_; omega,h4⟩) ab ([],0) ⟨0,rfl,Nat.zero_le _,Nat.le_refl _,fun x hx=>by cases hx⟩ (by have:=an hl; show l.length - (0:Int).toNat < ab; omega)
 rw [r1]
 exact ⟨_,rfl,r2⟩
theorem td (s:ByteArray) (hs:s.size≤100000) : ∃ r,o7 s=some r:=by
 unfold o7
 simp only [orB,zb]
 by_cases h0:s.size < 1∨s.size > 7
 ·have:(decide ((s.size:Int) < 1)||decide ((s.size:Int) > 7))=true:=by
   rcases h0 with h | h
   ·have:decide ((s.size:Int) < 1)=true:=by simp; omega
    rw [this]; rfl
   ·have:decide ((s.size:Int) > 7)=true:=by simp; omega
    rw [this]; simp
  simp only [this,if_true,zb]
  exact ⟨_,rfl⟩
 ·have:(decide ((s.size:Int) < 1)||decide ((s.size:Int) > 7))=false:=by
   have h1:decide ((s.size:Int) < 1)=false:=by simp; omega
   have h2:decide ((s.size:Int) > 7)=false:=by simp; omega
   rw [h1,h2]; rfl
  obtain ⟨b,hb⟩:=pg (s:=s) (k:=0) (by omega) (by simp; omega)
  simp only [this,zf,if_false,hb,dH,zb]
  split
  ·exact ⟨_,rfl⟩
  ·obtain ⟨r,r1,_⟩:=aM (f:=n9 s) (fun st=>∃ i:Nat,st.2=(i:Int)∧i≤s.size) (fun st=>s.size - st.2.toNat) (fun _=>True) (fun st ⟨i,h1,h2⟩=>by
    unfold n9
    simp only [h1]
    by_cases hlt:i < s.size
    ·obtain ⟨b,hb⟩:=pg (s:=s) (k:=(i:Int)) (by omega) (by simpa using hlt)
     simp only [ltS hlt,if_true,hb,orB,zb,wo (show i≤1000000 by omega)]
     split
     ·exact .inr ⟨_,rfl,trivial⟩
     ·exact .inl ⟨_,rfl,⟨i + 1,rfl,hlt⟩,by simp only [zt]; omega⟩
    ·have:i=s.size:=by omega
     subst this
     simp only [geS,zf,if_false]
     exact .inr ⟨_,rfl,trivial⟩) ab (0,0) ⟨0,rfl,Nat.zero_le _⟩ (by show s.size - (0:Int).toNat < ab; unfold ab; omega)
   rw [r1]
   simp only [zb]
   cases r <;> exact ⟨_,rfl⟩
theorem M1 (s:ByteArray) (hs:s.size≤100000) : ∃ r,y7 s=some r:=by
 unfold y7
 dsimp only
 obtain ⟨r,r1,i,r2,r3⟩:=aM (f:=pH s) (fun st=>∃ i:Nat,st=(i:Int)∧i≤s.size) (fun st=>s.size - st.toNat) (fun st=>∃ i:Nat,st=(i:Int)∧i≤s.size) (fun st ⟨i,h1,h2⟩=>by
  unfold pH
  simp only [h1]
  by_cases hlt:i < s.size
  ·obtain ⟨b,hb⟩:=pg (s:=s) (k:=(i:Int)) (by omega) (by simpa using hlt)
   simp only [ltS hlt,if_true,hb,zb,wo (show i≤1000000 by omega)]
   split
   ·exact .inl ⟨_,rfl,⟨i + 1,rfl,hlt⟩,by simp only [zt]; omega⟩
   ·exact .inr ⟨_,rfl,i,rfl,h2⟩
  ·have:i=s.size:=by omega
   subst this
   simp only [geS,zf,if_false,zb]
   exact .inr ⟨_,rfl,_,rfl,Nat.le_refl _⟩) ab 0 ⟨0,rfl,Nat.zero_le _⟩ (by show s.size - (0:Int).toNat < ab; unfold ab; omega)
 rw [r1]
 subst r2
 simp only [zb]
 split
 ·exact ⟨_,rfl⟩
 ·rename_i hne
  have hlt:i < s.size:=by
   have:i≠s.size:=fun e=>hne (by rw [e]; simp)
   omega
  obtain ⟨a,ha⟩:=td (s.extract 0 i) (Nat.le_trans (yK _ _ _) hs)
  obtain ⟨b,hb⟩:=td (s.extract (i + 1) s.size) (Nat.le_trans (yK _ _ _) hs)
  rw [Q5 (Nat.le_of_lt hlt)]
  simp only [zb,ha,wo (show i≤1000000 by omega)]
  rw [Q3 hlt]
  simp only [zb,hb,dH]
  exact ⟨_,rfl⟩
theorem M2 (w:List ByteArray) (n:Nat) (hn:n≤1000) (hw:w.length≤100001) (hs:∀ x∈w,x.size≤100000) : ∃ r,y8 w (n:Int)=some r∧r.1.bl.length≤100001∧r.1.aF.size≤100000:=by
 have hwr:i64.wrap (3 + (n:Int))=((3 + n:Nat) : Int):=by rw [IntKind.wrap_i64]; omega
 unfold y8
 simp only [hwr]
 by_cases hl:w.length=3 + n
 ·have hl':((w.length:Int) != ((3 + n:Nat) : Int))=false:=by rw [hl]; simp
  have g0:w[0]? = some w[0]:=zq (by omega)
  have g1:w[1]? = some w[1]:=zq (by omega)
  have g2:w[2]? = some w[2]:=zq (by omega)
  have i0:=aC g0
  have i1:=aC g1
  have i2:=aC g2
  obtain ⟨m,hm⟩:=td w[2] (hs _ (List.getElem_mem _))
  have i0':av w 0=some w[0]:=i0
  have i1':av w 1=some w[1]:=i1
  have i2':av w 2=some w[2]:=i2
  simp only [hl',zf,if_false,i0',zb]
  split
  ·exact ⟨_,rfl,by simp,Nat.zero_le _⟩
  ·simp only [i2',hm,i1',zb]
   obtain ⟨r,r1,r2⟩:=aM (f:=pI w) (fun st=>∃ i:Nat,st.2.2=(i:Int)∧i≤w.length∧st.2.1.bl.length≤i∧st.2.1.aF.size≤100000) (fun st=>w.length - st.2.2.toNat) (fun r=>r.2.1.bl.length≤100001∧r.2.1.aF.size≤100000) (fun st ⟨i,h1,h2,h3,h4⟩=>by
    unfold pI
    simp only [h1]
    by_cases hlt:i < w.length
    ·have g1:w[i]? = some w[i]:=zq hlt
     obtain ⟨c,hc⟩:=M1 w[i] (hs _ (List.getElem_mem _))
     simp only [bJ g1,if_true,aC g1,hc,zb,a6 hlt (show w.length≤1000000 by omega)]
     split
     ·rw [aD (by simp; omega)]
      exact .inl ⟨_,rfl,⟨i + 1,rfl,hlt,by simp; omega,h4⟩,by simp only [zt]; omega⟩
     ·exact .inr ⟨_,rfl,by show st.2.1.bl.length≤_; omega,h4⟩
    ·have:i=w.length:=by omega
     subst this
     simp only [bz,zf,if_false,zb]
     exact .inr ⟨_,rfl,by show st.2.1.bl.length≤_; omega,h4⟩) ab (m.2,(⟨w[1],[],m.1⟩ : az),3) ⟨3,rfl,by omega,by simp,hs _ (List.getElem_mem _)⟩ (by show w.length - (3:Int).toNat < ab; unfold ab; omega)
   rw [r1]
   exact ⟨_,rfl,r2⟩
 ·have hl':((w.length:Int) != ((3 + n:Nat) : Int))=true:=by simp; omega
  simp only [hl',if_true,zb]
  exact ⟨_,rfl,by simp,Nat.zero_le _⟩
structure mU (c:aw) : Prop where
 labels:c.ak.length≤3
 label:∀ x∈c.ak,x.size≤100000
 queues:c.ae.length≤2001
 paths:∀ q∈c.ae,q.aF.size≤100000
 caps:∀ q∈c.ae,q.bl.length≤100001
theorem mU.nil:mU ⟨[],[]⟩:=⟨by simp,fun x hx=>(by cases hx),by simp,fun x hx=>(by cases hx),fun x hx=>(by cases hx)⟩
theorem M5 (s:ByteArray) : ∃ r,za s=some r∧mU r.1:=by
 unfold za
 by_cases h0:s.size > 2000
 ·have:decide ((s.size:Int) > 2000)=true:=by simp; omega
  simp only [this,if_true]
  exact ⟨_,rfl,.nil⟩
 have hd:decide ((s.size:Int) > 2000)=false:=by simp; omega
 simp only [hd,zf,if_false]
 obtain ⟨l,l1,l2,l3⟩:=IV s 10 (by omega)
 have hl:l.length≤1000000:=by omega
 simp only [l1,zb]
 obtain ⟨r,r1,r2⟩:=aM (f:=pK l) (fun st=>∃ i:Nat,st.2.2=(i:Int)∧i≤l.length∧st.1.ae.length≤i∧mU st.1) (fun st=>l.length - st.2.2.toNat) (fun r=>match r with | .inl m=>mU m.1 | .inr m=>mU m.1) (fun st ⟨i,h1,h2,hq,hp⟩=>by
  unfold pK
  simp only [h1]
  by_cases hlt:i < l.length
  ·have g1:l[i]? = some l[i]:=zq hlt
   have hls:=l3 _ (List.getElem_mem hlt)
   obtain ⟨w,w1,w2,w3⟩:=M0 l[i] (by omega)
   simp only [bJ g1,if_true,aC g1,w1,zb,a6 hlt hl]
   split
   ·exact .inl ⟨_,rfl,⟨i + 1,rfl,hlt,by show st.1.ae.length≤i + 1; omega,hp⟩,by simp only [zt]; omega⟩
   rename_i hw0
   have hw : 0 < w.length:=by
    rcases Nat.eq_zero_or_pos w.length with e | e
    ·rw [e] at hw0; simp at hw0
    ·exact e
   have i0':av w 0=some w[0]:=aC (zq hw)
   split
   ·simp only [i0',zb]
    split
    ·exact .inr ⟨_,rfl,.nil⟩
    split
    ·exact .inr ⟨_,rfl,.nil⟩
    rename_i h3
    have h3:w.length≤3:=by have : ¬ ((w.length:Int) > 3):=fun e=>h3 (by simpa using e); omega
    have hlo:loO w 1=some (w.drop 1):=ko (l:=w) (k:=1) hw
    simp only [hlo,zb]
    rw [aD (by simp; omega)]
    simp only [zb]
    refine .inl ⟨_,rfl,⟨i + 1,rfl,hlt,by show st.1.ae.length≤i + 1; omega,⟨by simp; omega,fun x hx=>?_,hp.queues,hp.paths,hp.caps⟩⟩,by simp only [zt]; omega⟩
    simp only [List.singleton_append,List.mem_cons] at hx
    rcases hx with rfl | hx
    ·exact Nat.zero_le _
    ·have:=w3 x (List.mem_of_mem_drop hx); omega
   ·simp only [i0',dH,zb]
    split
    ·exact .inr ⟨_,rfl,.nil⟩
    obtain ⟨q,q1,q2,q3⟩:=M2 w st.1.ak.length (by have:=hp.labels; omega) (by omega) (fun x hx=>by have:=w3 x hx; omega)
    simp only [q1,zb]
    split
    ·exact .inr ⟨_,rfl,.nil⟩
    obtain ⟨K,k1,k2,k3,k4⟩:=aM (f:=pJ st.1 q.1) (fun st2=>∃ j:Nat,st2=(j:Int)∧j≤st.1.ae.length) (fun st2=>st.1.ae.length - st2.toNat) (fun st2=>∃ j:Nat,st2=(j:Int)∧j≤st.1.ae.length) (fun st2 ⟨j,e1,e2⟩=>by
     unfold pJ
     simp only [e1]
     by_cases hj:j < st.1.ae.length
     ·have g2:st.1.ae[j]? = some st.1.ae[j]:=zq hj
      simp only [bJ g2,if_true,aC g2,zb,a6 hj (show st.1.ae.length≤1000000 by omega)]
      split
      ·exact .inl ⟨_,rfl,⟨j + 1,rfl,hj⟩,by simp only [zt]; omega⟩
      ·exact .inr ⟨_,rfl,j,rfl,e2⟩
     ·have:j=st.1.ae.length:=by omega
      subst this
      simp only [bz,zf,if_false,zb]
      exact .inr ⟨_,rfl,_,rfl,Nat.le_refl _⟩) ab 0 ⟨0,rfl,Nat.zero_le _⟩ (by have:=an (show st.1.ae.length≤1000000 by omega); show st.1.ae.length - (0:Int).toNat < ab; omega)
    subst k3
    have fin:∀ tw:Bool,(∃ s',(Option.bind (hiO st.1.ae ((k2:Nat) : Int)) fun b16=>Option.bind (aU ([] : (List az)) b16) fun b17=>Option.bind (aU b17 [q.1]) fun b18=>Option.bind (loO st.1.ae ((k2:Nat) : Int)) fun b19=>Option.bind (aU b18 b19) fun b20=>some (Sum.inl ({ st.1 with ae:=b20 },tw,((i + 1:Nat) : Int)) : (aw×Bool×Int)⊕((aw×Bool×Int)⊕(aw×Int))))=some (.inl s')∧(∃ i:Nat,s'.2.2=(i:Int)∧i≤l.length∧s'.1.ae.length≤i∧mU s'.1)∧l.length - s'.2.2.toNat < l.length - ((i:Nat) : Int).toNat):=by
     intro tw
     rw [nZ k4]
     simp only [zb]
     rw [aD (by simp; omega)]
     simp only [zb]
     rw [aD (by simp; omega)]
     simp only [zb]
     rw [ko k4]
     simp only [zb]
     rw [aD (by simp; omega)]
     simp only [zb]
     have mem:∀ x∈([] ++ st.1.ae.take k2 ++ [q.1])++st.1.ae.drop k2,x∈st.1.ae∨x=q.1:=by
      intro x hx
      simp only [List.nil_append,List.mem_append,List.mem_singleton] at hx
      rcases hx with (hx | hx) | hx
      ·exact .inl (List.mem_of_mem_take hx)
      ·exact .inr hx
      ·exact .inl (List.mem_of_mem_drop hx)
     refine ⟨_,rfl,⟨i + 1,rfl,hlt,by simp; omega,⟨hp.labels,hp.label,by simp; omega,fun x hx=>?_,fun x hx=>?_⟩⟩,by simp only [zt]; omega⟩
     ·rcases mem x hx with hx | rfl
      ·exact hp.paths x hx
      ·exact q3
     ·rcases mem x hx with hx | rfl
      ·exact hp.caps x hx
      ·exact q2
    simp only [k1,orB,zb]
    by_cases hj:k2 < st.1.ae.length
    ·have g2:st.1.ae[k2]? = some st.1.ae[k2]:=zq hj
     simp only [bJ g2,if_true,aC g2,zb]
     by_cases ht:st.2.1=true
     ·simp only [ht,if_true,zb]
      exact .inl (fin _)
     ·simp only [ht,zf,if_false,zb]
      exact .inl (fin _)
    ·have:k2=st.1.ae.length:=by omega
     subst this
     simp only [bz,zf,if_false,zb]
     by_cases ht:st.2.1=true
     ·simp only [ht,if_true,zb]
      exact .inl (fin _)
     ·simp only [ht,zf,if_false,zb]
      exact .inl (fin _)
  ·have:i=l.length:=by omega
   subst this
   simp only [bz,zf,if_false]
   exact .inr ⟨_,rfl,hp⟩) ab ((⟨[],[]⟩ : aw),false,0) ⟨0,rfl,Nat.zero_le _,by simp,.nil⟩ (by have:=an hl; show l.length - (0:Int).toNat < ab; omega)
 rw [r1]
 simp only [zb]
 cases r with
 | inr m=>exact ⟨_,rfl,r2⟩
 | inl m =>
  dsimp only
  split
  ·exact ⟨_,rfl,.nil⟩
  split
  ·exact ⟨_,rfl,.nil⟩
  ·exact ⟨_,rfl,r2⟩
def inI (n:Int) : Prop:=-9223372036854775808≤n∧n≤9223372036854775807
theorem eX {s t:ByteArray} (h:s.size + t.size≤9223372036854775807) : me s t=some (s++t):=by unfold me; rw [if_pos h]
theorem U9 (n:Int) : ∃ r,Xx [n] = some r∧r.size=1:=⟨_,rfl,by simp [ByteArray.size_push]⟩
theorem O4:∀ (d:Nat) (n:Int),0≤n→n < 10 ^ (d + 1)→d≤30→n≤9223372036854775807→∀ f,d < f→∃ r,dn f n=some r∧r.size≤d + 1
 | d,n,h0,h1,hd,h2,0,hf=>by omega
 | d,n,h0,h1,hd,h2,f + 1,hf=>by
  unfold dn
  have e1:decide (n < 0)=false:=by simp; omega
  simp only [e1,zf,if_false]
  by_cases hn:n≥10
  ·have e2:decide (n≥10)=true:=by simpa using hn
   match d,h1,hd,hf with
   | 0,h1,_,_=>simp at h1; omega
   | d + 1,h1,hd,hf =>
   have hq:n.tdiv 10=n / 10:=Int.tdiv_eq_ediv_of_nonneg h0
   have hm:n.tmod 10=n % 10:=Int.tmod_eq_emod_of_nonneg h0
   have hw:i64.wrap (n / 10)=n / 10:=by rw [IntKind.wrap_i64]; omega
   have hlt:n / 10 < 10 ^ (d + 1):=by
    have e:(10:Int) ^ (d + 1 + 1)=10 ^ (d + 1) * 10:=by rw [Int.pow_succ]
    rw [e] at h1
    generalize (10:Int) ^ (d + 1)=P at h1 ⊢
    omega
   obtain ⟨a,a1,a2⟩:=O4 d (n / 10) (by omega) hlt (by omega) (by omega) f (by omega)
   obtain ⟨b,b1,b2⟩:=O4 0 (n % 10) (by omega) (by simp; omega) (by omega) (by omega) f (by omega)
   simp only [e2,if_true,hq,hm,hw,a1,b1,zb]
   rw [eX (by omega)]
   exact ⟨_,rfl,by simp only [ByteArray.size_append]; omega⟩
  ·have e2:decide (n≥10)=false:=by simp; omega
   obtain ⟨r,r1,r2⟩:=U9 (IntKind.u8.wrap (i64.wrap (48 + n)))
   simp only [e2,zf,if_false,r1,zb]
   exact ⟨_,rfl,by omega⟩
theorem RX {n:Int} (h0 : 0≤n) (h:n≤9223372036854775807) {f:Nat} (hf : 18 < f) : ∃ r,dn f n=some r∧r.size≤19:=O4 18 n h0 (Int.lt_of_le_of_lt h (by decide)) (by omega) h f hf
theorem qY {n:Int} (h:inI n) : ∃ r,dn ab n=some r∧r.size≤30:=by
 by_cases h0 : 0≤n
 ·obtain ⟨r,r1,r2⟩:=RX h0 h.2 (f:=ab) (by unfold ab; omega)
  exact ⟨r,r1,by omega⟩
 ·have hr:ab=999999999 + 1:=rfl
  rw [hr]
  have hneg:∀ f,18 < f→∃ r,dn (f + 1) n=some r∧r.size≤30:=fun f hf=>by
   unfold dn
   have e1:decide (n < 0)=true:=by simp; omega
   simp only [e1,if_true]
   split
   ·exact ⟨_,rfl,by decide⟩
   ·rename_i hne
    have hne:n≠-9223372036854775808:=by simpa using hne
    have hw:i64.wrap (0 - n)=0 - n:=by rw [IntKind.wrap_i64]; have:=h.1; omega
    obtain ⟨a,a1,a2⟩:=RX (n:=0 - n) (by omega) (by have:=h.1; omega) (f:=f) hf
    simp only [hw,a1,zb]
    have e3:(⟨#[45]⟩ : ByteArray).size=1:=rfl
    rw [eX (by rw [e3]; omega)]
    exact ⟨_,rfl,by simp only [ByteArray.size_append,e3]; omega⟩
  exact hneg 999999999 (by omega)
structure WG (c:aw) : Prop where
 labels:c.ak.length≤1000
 label:∀ x∈c.ak,x.size≤100000
 queues:c.ae.length≤1000
 paths:∀ q∈c.ae,q.aF.size≤100000
 caps:∀ q∈c.ae,q.bl.length≤1000
 user:∀ q∈c.ae,inI q.cW
 nums:∀ q∈c.ae,∀ x∈q.bl,inI x.kt∧inI x.rN
theorem FP {c:aw} (h:WG c) : ∃ r,y9 c=some r:=by
 have s1:(⟨#[32]⟩ : ByteArray).size=1:=rfl
 have s2:(⟨#[10]⟩ : ByteArray).size=1:=rfl
 have s3:(⟨#[47]⟩ : ByteArray).size=1:=rfl
 have s4:(⟨#[113,117,101,117,101,32]⟩ : ByteArray).size=6:=rfl
 have s5:(⟨#[108,97,98,101,108,115]⟩ : ByteArray).size=6:=rfl
 have hl:=h.labels
 have hq:=h.queues
 unfold y9
 dsimp only
 obtain ⟨r,r1,r2⟩:=aM (f:=qU c) (fun st=>∃ i:Nat,st.2=(i:Int)∧i≤1001∧st.1.size≤10 + i * 200000) (fun st=>c.ak.length - st.2.toNat) (fun r=>r.1.size≤300000000) (fun st ⟨i,h1,h2,h3⟩=>by
  unfold qU
  simp only [h1]
  by_cases hlt:i < c.ak.length
  ·have g1:c.ak[i]? = some c.ak[i]:=zq hlt
   have hs:=h.label _ (List.getElem_mem hlt)
   simp only [bJ g1,if_true,aC g1,zb,a6 hlt (show c.ak.length≤1000000 by omega)]
   rw [eX (by rw [s1]; omega)]
   simp only [zb]
   rw [eX (by simp only [ByteArray.size_append,s1]; omega)]
   exact .inl ⟨_,rfl,⟨i + 1,rfl,by omega,by simp only [ByteArray.size_append,s1]; omega⟩,by simp only [zt]; omega⟩
  ·have:decide ((i:Int) < (c.ak.length:Int))=false:=by simp; omega
   simp only [this,zf,if_false]
   exact .inr ⟨_,rfl,by show st.1.size≤_; omega⟩) ab ((⟨#[108,97,98,101,108,115]⟩ : ByteArray),1) ⟨1,rfl,by omega,by rw [s5]; omega⟩ (by show c.ak.length - (1:Int).toNat < ab; unfold ab; omega)
 rw [r1]
 simp only [zb]
 rw [eX (by rw [s2]; omega)]
 simp only [zb]
 obtain ⟨q,q1,_⟩:=aM (f:=qT c) (fun st=>∃ i:Nat,st.2=(i:Int)∧i≤c.ae.length∧st.1.size≤400000000 + i * 1000000) (fun st=>c.ae.length - st.2.toNat) (fun _=>True) (fun st ⟨i,h1,h2,h3⟩=>by
  unfold qT
  simp only [h1]
  by_cases hlt:i < c.ae.length
  ·have g1:c.ae[i]? = some c.ae[i]:=zq hlt
   have hm:=List.getElem_mem hlt
   generalize c.ae[i] = Q at g1 hm
   have hp:=h.paths _ hm
   have hc:=h.caps _ hm
   have hn:=h.nums _ hm
   obtain ⟨u,u1,u2⟩:=qY (h.user _ hm)
   simp only [bJ g1,if_true,aC g1,u1,zb,a6 hlt (show c.ae.length≤1000000 by omega)]
   rw [eX (by rw [s4]; omega)]
   simp only [zb]
   rw [eX (by simp only [ByteArray.size_append,s4]; omega)]
   simp only [zb]
   rw [eX (by simp only [ByteArray.size_append,s4,s1]; omega)]
   simp only [zb]
   rw [eX (by simp only [ByteArray.size_append,s4,s1]; omega)]
   simp only [zb]
   generalize hX:st.1++(⟨#[113,117,101,117,101,32]⟩ : ByteArray)++Q.aF++(⟨#[32]⟩ : ByteArray)++u=X
   have hXs:X.size≤400000000 + i * 1000000 + 200000:=by rw [← hX]; simp only [ByteArray.size_append,s4,s1]; omega
   obtain ⟨w,w1,w2⟩:=aM (f:=qS Q) (fun st2=>∃ j:Nat,st2.2=(j:Int)∧j≤Q.bl.length∧st2.1.size≤X.size + j * 100) (fun st2=>Q.bl.length - st2.2.toNat) (fun r=>r.1.size≤X.size + 100000) (fun st2 ⟨j,e1,e2,e3⟩=>by
    unfold qS
    simp only [e1]
    by_cases hj:j < Q.bl.length
    ·have g2:Q.bl[j]? = some Q.bl[j]:=zq hj
     obtain ⟨n1,n2⟩:=hn _ (List.getElem_mem hj)
     obtain ⟨a,a1,a2⟩:=qY n1
     obtain ⟨b,b1,b2⟩:=qY n2
     simp only [bJ g2,if_true,aC g2,a1,b1,zb,a6 hj (show Q.bl.length≤1000000 by omega)]
     rw [eX (by rw [s1]; omega)]
     simp only [zb]
     rw [eX (by simp only [ByteArray.size_append,s1]; omega)]
     simp only [zb]
     rw [eX (by simp only [ByteArray.size_append,s1,s3]; omega)]
     simp only [zb]
     rw [eX (by simp only [ByteArray.size_append,s1,s3]; omega)]
     exact .inl ⟨_,rfl,⟨j + 1,rfl,hj,by simp only [ByteArray.size_append,s1,s3]; omega⟩,by simp only [zt]; omega⟩
    ·have:j=Q.bl.length:=by omega
     subst this
     simp only [bz,zf,if_false]
     exact .inr ⟨_,rfl,by show st2.1.size≤_; omega⟩) ab (X,0) ⟨0,rfl,Nat.zero_le _,by simp⟩ (by show Q.bl.length - (0:Int).toNat < ab; unfold ab; omega)
   rw [w1]
   simp only [zb]
   rw [eX (by rw [s2]; omega)]
   exact .inl ⟨_,rfl,⟨i + 1,rfl,hlt,by simp only [ByteArray.size_append,s2]; omega⟩,by simp only [zt]; omega⟩
  ·have:i=c.ae.length:=by omega
   subst this
   simp only [bz,zf,if_false]
   exact .inr ⟨_,rfl,trivial⟩) ab (r.1++(⟨#[10]⟩ : ByteArray),0) ⟨0,rfl,Nat.zero_le _,by simp only [ByteArray.size_append,s2]; omega⟩ (by show c.ae.length - (0:Int).toNat < ab; unfold ab; omega)
 rw [q1]
 exact ⟨_,rfl⟩
def cnt (s:ByteArray) (k:Nat) : Nat:=((s.data.toList.take k).filter (fun c=>c==46)).length
def dots (s:ByteArray) : Nat:=cnt s s.size
theorem Hs {s:ByteArray} {i:Nat} {b:Int} (h:kW s (i:Int)=some b) : ∃ c:UInt8,s.data.toList[i]? = some c∧b=(c.toNat:Int):=by
 unfold kW at h
 rw [if_pos (by omega)] at h
 rw [zt,zm] at h
 obtain ⟨c,h1,h2⟩:=h
 exact ⟨c,h1,h2.symm⟩
theorem Fp {s:ByteArray} {i:Nat} {c:UInt8} (h:s.data.toList[i]? = some c) : cnt s (i + 1)=cnt s i + (if c=46 then 1 else 0):=by
 unfold cnt
 rw [List.take_add_one,h,List.filter_append,List.length_append]
 by_cases hc:c=46
 ·subst hc; simp
 ·have:(c==46)=false:=by simpa using hc
  simp [hc,this]
theorem Wp (s:ByteArray) {i j:Nat} (h:i≤j) : cnt s i≤cnt s j:=by
 unfold cnt
 exact (List.Sublist.filter _ ((List.take_prefix_take_left h).sublist)).length_le
theorem Wf {c:UInt8} (h:((c.toNat:Int) != 46)=false) : c=46:=by
 have h:(c.toNat:Int)=46:=by simpa using h
 have h:c.toNat=46:=by omega
 exact UInt8.toNat_inj.1 (by rw [h]; rfl)
theorem Vv {c:UInt8} (h:((c.toNat:Int) != 46)=true) : c≠46:=by
 intro e
 subst e
 simp at h
theorem We {s:ByteArray} {k:Nat} (hk:k≤s.size) : dots (s.extract 0 k)=cnt s k:=by
 unfold dots cnt
 have e1:(s.extract 0 k).data.toList=s.data.toList.take k:=by
  simp [ByteArray.data_extract]
 have e2:(s.extract 0 k).size=k:=by simp only [ByteArray.size_extract]; omega
 rw [e1,e2,List.take_take,Nat.min_self]
theorem Pf {p r:ByteArray} (hp:p.size≤1000000) (h:dQ p=some r) : r.size=0∨dots r + 1≤dots p:=by
 unfold dQ at h
 dsimp only at h
 obtain ⟨k,hk,h⟩:=bq h
 have hq:k < 0∨kW p k=some 46:=by
  refine mC (f:=iZ p) (fun _=>True) (fun k=>k < 0∨kW p k=some 46) (fun st r _ h=>?_) _ _ k trivial hk
  unfold iZ at h
  dsimp only at h
  obtain ⟨q,hq,h⟩:=bq h
  split at h
  ·injection h with h; subst h; trivial
  ·rename_i hf
   injection h with h
   subst h
   show st < 0∨kW p st=some 46
   split at hq
   ·obtain ⟨b,hb,hq⟩:=bq hq
    injection hq with hq
    have:b=46:=by rw [← hq] at hf; simpa using hf
    exact .inr (by rw [hb,this])
   ·rename_i hge
    exact .inl (by have : ¬ (st≥0):=fun e=>hge (by simpa using e); omega)
 split at h
 ·injection h with h; subst h; exact .inl rfl
 ·rename_i hge
  have hge : ¬ k < 0:=fun e=>hge (by simpa using e)
  obtain ⟨b,hb,h⟩:=bq h
  injection h with h
  subst h
  rcases hq with hq | hq
  ·exact absurd hq hge
  ·obtain ⟨n,rfl⟩ : ∃ n:Nat,k=(n:Int):=⟨k.toNat,by omega⟩
   obtain ⟨c,hc,e⟩:=Hs hq
   have hlt:n < p.size:=by have:=(zg.1 hc).1; simpa using this
   rw [Q5 (Nat.le_of_lt hlt)] at hb
   injection hb with hb
   subst hb
   refine .inr ?_
   rw [We (Nat.le_of_lt hlt)]
   have hc46:c=46:=Wf (by rw [← e]; rfl)
   have h1:=Fp hc
   rw [if_pos hc46] at h1
   have h2:=Wp p (i:=n + 1) (j:=p.size) hlt
   unfold dots
   omega
theorem rV {p:ByteArray} (hp:p.size≤1000000) : dQ p=some (eT p)∧((eT p).size < p.size∨(eT p).size=0):=by
 obtain ⟨r,h1,h2⟩:=nM p hp
 unfold eT
 rw [h1]
 exact ⟨rfl,h2⟩
theorem Fh:∀ (n:Nat) (p:ByteArray),p.size≤1000000→dv n p≤dots p + 1
 | 0,p,_=>Nat.zero_le _
 | n + 1,p,hp=>by
  unfold dv
  split
  ·exact Nat.zero_le _
  ·obtain ⟨h1,h2⟩:=rV hp
   have ih:=Fh n (eT p) (by omega)
   rcases Pf hp h1 with h | h
   ·have:dv n (eT p)=0:=by
     cases n with
     | zero=>rfl
     | succ n=>unfold dv; rw [if_pos h]
    omega
   ·omega
theorem FM (s:ByteArray) : ∃ r,vI s=some r:=by
 unfold vI
 simp only [orB,zb]
 by_cases h0:s.size < 1∨s.size > 12
 ·have:(decide ((s.size:Int) < 1)||decide ((s.size:Int) > 12))=true:=by
   rcases h0 with h | h
   ·have:decide ((s.size:Int) < 1)=true:=by simp; omega
    rw [this]; rfl
   ·have:decide ((s.size:Int) > 12)=true:=by simp; omega
    rw [this]; simp
  simp only [this,if_true]
  exact ⟨_,rfl⟩
 ·have:(decide ((s.size:Int) < 1)||decide ((s.size:Int) > 12))=false:=by
   have h1:decide ((s.size:Int) < 1)=false:=by simp; omega
   have h2:decide ((s.size:Int) > 12)=false:=by simp; omega
   rw [h1,h2]; rfl
  simp only [this,zf,if_false]
  obtain ⟨r,r1,_⟩:=aM (f:=qR s) (fun st=>∃ i:Nat,st=(i:Int)∧i≤s.size) (fun st=>s.size - st.toNat) (fun _=>True) (fun st ⟨i,h1,h2⟩=>by
   unfold qR
   simp only [h1]
   by_cases hlt:i < s.size
   ·obtain ⟨b,hb⟩:=pg (s:=s) (k:=(i:Int)) (by omega) (by simpa using hlt)
    simp only [ltS hlt,if_true,hb,orB,dH,zb,wo (show i≤1000000 by omega)]
    split
    ·exact .inr ⟨_,rfl,trivial⟩
    ·exact .inl ⟨_,rfl,⟨i + 1,rfl,hlt⟩,by simp only [zt]; omega⟩
   ·have:i=s.size:=by omega
    subst this
    simp only [geS,zf,if_false]
    exact .inr ⟨_,rfl,trivial⟩) ab 0 ⟨0,rfl,Nat.zero_le _⟩ (by show s.size - (0:Int).toNat < ab; unfold ab; omega)
  rw [r1]
  simp only [zb]
  cases r <;> exact ⟨_,rfl⟩
theorem Ko (s:ByteArray) (hs:s.size≤100000) : ∃ r,vH s=some r∧(r=true→dots s≤3):=by
 unfold vH
 dsimp only
 have hcn:∀ k,cnt s k≤100000:=fun k=>by
  unfold cnt
  refine Nat.le_trans (List.length_filter_le _ _) (Nat.le_trans (List.length_take_le' _ _) ?_)
  simpa using hs
 obtain ⟨r,r1,r2⟩:=aM (f:=n8 s) (fun st=>∃ i a n:Nat,st.2.2=(i:Int)∧st.1=(a:Int)∧st.2.1=(n:Int)∧a≤i∧((i≤s.size∧n=cnt s i)∨(i=s.size + 1∧n=cnt s s.size + 1))) (fun st=>s.size + 1 - st.2.2.toNat) (fun r=>match r with | .inl m=>m.2.1=((cnt s s.size + 1:Nat) : Int) | .inr b=>b=false) (fun st ⟨i,a,n,h1,h2,h3,h4,h5⟩=>by
  unfold n8
  simp only [h1,h2,h3]
  rcases h5 with ⟨h5,h6⟩ | ⟨h5,h6⟩
  ·have hle:decide ((i:Int)≤(s.size:Int))=true:=by simp; omega
   have hn:n≤100000:=by rw [h6]; exact hcn i
   obtain ⟨nm,hnm⟩:=FM (s.extract a i)
   simp only [hle,if_true]
   have body:∀ n',(n' = n + 1)→(i=s.size∨cnt s (i + 1)=n + 1)→∃ o,(Option.bind (Jk s (a:Int) (i:Int)) fun b5=>Option.bind (vI b5) fun c6=>Option.bind (if (!c6)=true then some true else Option.bind (if ((n:Int)==0)=true then Option.bind (Jk s (a:Int) (i:Int)) fun b7=>some (!(b7.toList==(⟨#[114,111,111,116]⟩ : ByteArray).toList)) else some false) fun q8=>some q8) fun q9=>if q9=true then some (Sum.inr (Sum.inr false) : (Int×Int×Int)⊕((Int×Int×Int)⊕Bool)) else some (.inl (i64.wrap ((i:Int) + 1),i64.wrap ((n:Int) + 1),i64.wrap ((i:Int) + 1))))=some o∧(o = .inr (.inr false)∨o = .inl (((i + 1:Nat) : Int),((n + 1:Nat) : Int),((i + 1:Nat) : Int))):=by
    intro n' _ _
    simp only [Q4 h4 h5,hnm,zb,wo (show i≤1000000 by omega),wo (show n≤1000000 by omega)]
    have:∀ q:Bool,∃ o,(if q=true then some (Sum.inr (Sum.inr false) : (Int×Int×Int)⊕((Int×Int×Int)⊕Bool)) else some (.inl (((i + 1:Nat) : Int),((n + 1:Nat) : Int),((i + 1:Nat) : Int))))=some o∧(o = .inr (.inr false)∨o = .inl (((i + 1:Nat) : Int),((n + 1:Nat) : Int),((i + 1:Nat) : Int))):=fun q=>by
     cases q
     ·exact ⟨_,rfl,.inr rfl⟩
     ·exact ⟨_,rfl,.inl rfl⟩
    cases nm with
    | false=>simp only [Bool.not_false,if_true,zb]; exact ⟨_,rfl,.inl rfl⟩
    | true =>
     simp only [Bool.not_true,zf,if_false]
     split
     ·simp only [zb]; exact this _
     ·simp only [zb]; exact this _
   by_cases hlt:i < s.size
   ·obtain ⟨b,hb⟩:=pg (s:=s) (k:=(i:Int)) (by omega) (by simpa using hlt)
    obtain ⟨c,hc,e⟩:=Hs hb
    simp only [ltS hlt,if_true,hb,zb]
    cases hbd:(b != 46) with
    | true =>
     simp only [if_true,wo (show i≤1000000 by omega)]
     have hnd:=Vv (c:=c) (by rw [← e]; exact hbd)
     exact .inl ⟨_,rfl,⟨i + 1,a,n,rfl,rfl,rfl,by omega,.inl ⟨hlt,by rw [Fp hc,if_neg hnd]; exact h6⟩⟩,by simp only [zt]; omega⟩
    | false =>
     simp only [zf,if_false]
     have hdt:=Wf (c:=c) (by rw [← e]; exact hbd)
     have hcs:cnt s (i + 1)=n + 1:=by rw [Fp hc,if_pos hdt,h6]
     obtain ⟨o,o1,o2⟩:=body (n + 1) rfl (.inr hcs)
     rw [o1]
     rcases o2 with rfl | rfl
     ·exact .inr ⟨_,rfl,rfl⟩
     ·exact .inl ⟨_,rfl,⟨i + 1,i + 1,n + 1,rfl,rfl,rfl,Nat.le_refl _,.inl ⟨hlt,hcs.symm⟩⟩,by simp only [zt]; omega⟩
   ·have hi:i=s.size:=by omega
    subst hi
    simp only [geS,zf,if_false,zb]
    obtain ⟨o,o1,o2⟩:=body (n + 1) rfl (.inl rfl)
    rw [o1]
    rcases o2 with rfl | rfl
    ·exact .inr ⟨_,rfl,rfl⟩
    ·exact .inl ⟨_,rfl,⟨s.size + 1,s.size + 1,n + 1,rfl,rfl,rfl,Nat.le_refl _,.inr ⟨rfl,by rw [h6]⟩⟩,by simp only [zt]; omega⟩
  ·have hle:decide ((i:Int)≤(s.size:Int))=false:=by simp; omega
   simp only [hle,zf,if_false]
   exact .inr ⟨_,rfl,by show (n:Int) = _; rw [h6]⟩) ab (0,0,0) ⟨0,0,0,rfl,rfl,rfl,Nat.le_refl _,.inl ⟨Nat.zero_le _,by simp [cnt]⟩⟩ (by show s.size + 1 - (0:Int).toNat < ab; unfold ab; omega)
 rw [r1]
 simp only [zb]
 cases r with
 | inr m=>exact ⟨_,rfl,fun e=>by rw [show m=false from r2] at e; cases e⟩
 | inl m =>
  refine ⟨_,rfl,fun e=>?_⟩
  have r2:m.2.1=((cnt s s.size + 1:Nat) : Int):=r2
  rw [r2] at e
  have:=zd e
  unfold dots
  omega
theorem Kn {c:aw} (h:mU c) : ∃ r,rX c=some r∧(r=0→1≤c.ak.length∧c.ak.length≤3∧c.ae.length≤16):=by
 have hl:=h.labels
 have hq:=h.queues
 unfold rX
 simp only [orB,zb]
 cases hb:(decide ((c.ak.length:Int) < 1)||decide ((c.ak.length:Int) > 3)||decide ((c.ae.length:Int) > 16)) with
 | true=>simp only [if_true]; exact ⟨_,rfl,fun e=>by cases e⟩
 | false =>
  simp only [Bool.or_eq_false_iff,decide_eq_false_iff_not] at hb
  obtain ⟨⟨b1,b2⟩,b3⟩:=hb
  have good : 1≤c.ak.length∧c.ak.length≤3∧c.ae.length≤16:=⟨by omega,by omega,by omega⟩
  have hpos : 0 < c.ak.length:=by omega
  have i0:av c.ak 0=some c.ak[0]:=aC (zq hpos)
  simp only [zf,if_false,i0,zb]
  split
  ·exact ⟨_,rfl,fun _=>good⟩
  obtain ⟨r,r1,_⟩:=aM (f:=n7 c) (fun st=>∃ i:Nat,st=(i:Int)) (fun st=>c.ak.length - st.toNat) (fun _=>True) (fun st ⟨i,h1⟩=>by
   unfold n7
   simp only [h1]
   by_cases hlt:i < c.ak.length
   ·have g1:c.ak[i]? = some c.ak[i]:=zq hlt
    obtain ⟨n,hn⟩:=FM c.ak[i]
    simp only [bJ g1,if_true,aC g1,hn,zb,a6 hlt (show c.ak.length≤1000000 by omega)]
    split
    ·exact .inr ⟨_,rfl,trivial⟩
    ·exact .inl ⟨_,rfl,⟨i + 1,rfl⟩,by simp only [zt]; omega⟩
   ·have:decide ((i:Int) < (c.ak.length:Int))=false:=by simp; omega
    simp only [this,zf,if_false]
    exact .inr ⟨_,rfl,trivial⟩) ab 1 ⟨1,rfl⟩ (by show c.ak.length - (1:Int).toNat < ab; unfold ab; omega)
  rw [r1]
  simp only [zb]
  cases r with
  | inr m=>exact ⟨_,rfl,fun _=>good⟩
  | inl m =>
   dsimp only
   obtain ⟨q,q1,_⟩:=aM (f:=n6 c) (fun st=>∃ i:Nat,st=(i:Int)) (fun st=>c.ak.length - st.toNat) (fun _=>True) (fun st ⟨i,h1⟩=>by
    unfold n6
    simp only [h1]
    by_cases hlt:i < c.ak.length
    ·have g1:c.ak[i]? = some c.ak[i]:=zq hlt
     obtain ⟨w,w1,_⟩:=aM (f:=n5 (i:Int) c) (fun st=>∃ j:Nat,st=(j:Int)) (fun st=>i - st.toNat) (fun _=>True) (fun st ⟨j,e1⟩=>by
      unfold n5
      simp only [e1]
      by_cases hj:j < i
      ·have g2:c.ak[j]? = some c.ak[j]:=zq (by omega)
       have hd:decide ((j:Int) < (i:Int))=true:=by simpa using hj
       simp only [hd,if_true,aC g1,aC g2,zb,wo (show j≤1000000 by omega)]
       split
       ·exact .inr ⟨_,rfl,trivial⟩
       ·exact .inl ⟨_,rfl,⟨j + 1,rfl⟩,by simp only [zt]; omega⟩
      ·have hd:decide ((j:Int) < (i:Int))=false:=by simp; omega
       simp only [hd,zf,if_false]
       exact .inr ⟨_,rfl,trivial⟩) ab 1 ⟨1,rfl⟩ (by show i - (1:Int).toNat < ab; unfold ab; omega)
     simp only [bJ g1,if_true,w1,zb]
     cases w with
     | inr m=>exact .inr ⟨_,rfl,trivial⟩
     | inl m =>
      simp only [a6 hlt (show c.ak.length≤1000000 by omega)]
      exact .inl ⟨_,rfl,⟨i + 1,rfl⟩,by simp only [zt]; omega⟩
    ·have:decide ((i:Int) < (c.ak.length:Int))=false:=by simp; omega
     simp only [this,zf,if_false]
     exact .inr ⟨_,rfl,trivial⟩) ab 1 ⟨1,rfl⟩ (by show c.ak.length - (1:Int).toNat < ab; unfold ab; omega)
   rw [q1]
   simp only [zb]
   cases q with
   | inr m=>exact ⟨_,rfl,fun _=>good⟩
   | inl m=>exact ⟨_,rfl,fun _=>good⟩
structure vf (c:aw) (i:Nat) (q:az) : Prop where
 dots:dots q.aF≤3
 above : 0 < i→isQ c (eT q.aF)=true
 caps:q.bl.length=c.ak.length
theorem mU.sz {c:aw} (h:mU c) (hc:∀ q∈c.ae,q.bl.length≤1000) (hq:c.ae.length≤16) : SzC c :=
 ⟨Nat.le_trans h.labels (by decide),Nat.le_trans hq (by decide),hc,fun q hq=>Nat.le_trans (h.paths q hq) (by decide)⟩
theorem T5 (c:aw) (p:ByteArray) (hq:c.ae.length≤1000000) (hc:∀ q∈c.ae,q.bl.length≤1000000) : jq c p=some (EH c p,isQ c p):=by
 unfold jq EH isQ
 dsimp only
 rw [rY c p () hq]
 have hg:dI c p=fun (_:Unit) q=>if (q.aF.toList==p.toList)=true then Option.bind (aU [] q.bl) fun b=>some (.inr (.inr ({ q with bl:=b },true))) else some (.inl ()):=rfl
 obtain ⟨r,h1,h2⟩ : ∃ r,bk (dI c p) (fun _=>(.inl (c.ae.length:Int) : Int⊕(az×Bool))) () c.ae=some r∧r=(match c.ae.find? fun q=>q.aF.toList==p.toList with | some q=>.inr (q,true) | none=>.inl (c.ae.length:Int)):=by
  rw [hg]
  have:∀ l:List az,(∀ q∈l,q.bl.length≤1000000)→bk (fun (_:Unit) q=>if (q.aF.toList==p.toList)=true then Option.bind (aU [] q.bl) fun b=>some (.inr (.inr ({ q with bl:=b },true))) else some (.inl ())) (fun _=>(.inl (c.ae.length:Int) : Int⊕(az×Bool))) () l=some (match l.find? fun q=>q.aF.toList==p.toList with | some q=>.inr (q,true) | none=>.inl (c.ae.length:Int)):=by
   intro l
   induction l with
   | nil=>intro _; rfl
   | cons q l ih =>
    intro hl
    simp only [bk,List.find?_cons]
    cases hb:(q.aF.toList==p.toList) with
    | true =>
     simp only [if_true]
     rw [aD (by have:=hl q List.mem_cons_self; simp; omega)]
     simp
    | false =>
     simp only [zf,if_false]
     exact ih (fun x hx=>hl x (List.mem_cons_of_mem _ hx))
  exact ⟨_,this _ hc,rfl⟩
 rw [h1,h2]
 cases hf:c.ae.find? fun q=>q.aF.toList==p.toList with
 | none =>
  have:(c.ae.any fun q=>q.aF.toList==p.toList)=false:=by
   rw [List.any_eq_false]; intro x hx; have:=List.find?_eq_none.1 hf x hx; simpa using this
  rw [this]; rfl
 | some q =>
  have:(c.ae.any fun q=>q.aF.toList==p.toList)=true:=by rw [List.any_eq_true]; exact ⟨q,List.mem_of_find?_eq_some hf,List.find?_some (p:=fun q:az=>q.aF.toList==p.toList) hf⟩
  rw [this]; rfl
theorem MS {c:aw} (h:mU c) (i:Nat) (hi:i < c.ae.length) : ∃ r,uN c (i:Int)=some r∧(r=0→vf c i c.ae[i]):=by
 have hq:=h.queues
 have g1:c.ae[i]? = some c.ae[i]:=zq hi
 have hm:=List.getElem_mem hi
 have hps:=h.paths _ hm
 have hcs:=h.caps _ hm
 obtain ⟨b,b1,b2⟩:=Ko c.ae[i].aF hps
 obtain ⟨a1,a2⟩:=rV (p:=c.ae[i].aF) (by omega)
 have hfind:=T5 c (eT c.ae[i].aF) (by omega) (fun q hq=>Nat.le_trans (h.caps q hq) (by decide))
 unfold uN
 simp only [aC g1,b1,zb]
 cases b with
 | false=>simp only [Bool.not_false,if_true]; exact ⟨_,rfl,fun e=>by cases e⟩
 | true =>
  have hd:=b2 rfl
  simp only [Bool.not_true,zf,if_false]
  have step:∀ q4:Bool,∃ r,(if q4=true then some 7 else Option.bind (dQ c.ae[i].aF) fun c5=>Option.bind (jq c c5) fun c6=>Option.bind (if decide ((i:Int) > 0)=true then some (!c6.2) else some false) fun q7=>if q7=true then some 12 else Option.bind (if decide (c.ae[i].cW < 1)=true then some true else some (decide (c.ae[i].cW > 1000000))) fun q8=>Option.bind (if q8=true then some true else some ((c.ae[i].bl.length:Int) != (c.ak.length:Int))) fun q9=>if q9=true then some 1 else Option.bind (ah (lr c.ae[i]) ab 0) fun r15=>match r15 with | .inr m16=>some m16 | .inl m16=>some (0:Int))=some r∧(r=0→vf c i c.ae[i]):=by
   intro q4
   cases q4 with
   | true=>simp only [if_true]; exact ⟨_,rfl,fun e=>by cases e⟩
   | false =>
    simp only [zf,if_false,a1,hfind,zb,orB,dH]
    split
    ·exact ⟨_,rfl,fun e=>by cases e⟩
    rename_i h7
    split
    ·exact ⟨_,rfl,fun e=>by cases e⟩
    rename_i h9
    have good:vf c i c.ae[i]:=⟨hd,fun h0=>by
     have hdd:decide ((i:Int) > 0)=true:=by simpa using h0
     rw [hdd] at h7
     simpa using h7,by
     have : ¬ ((c.ae[i].bl.length:Int) != (c.ak.length:Int))=true:=fun e=>h9 (by rw [e]; simp)
     have:(c.ae[i].bl.length:Int)=(c.ak.length:Int):=by simpa using this
     omega⟩
    obtain ⟨w,w1,_⟩:=aM (f:=lr c.ae[i]) (fun st=>∃ j:Nat,st=(j:Int)) (fun st=>c.ae[i].bl.length - st.toNat) (fun _=>True) (fun st ⟨j,e1⟩=>by
     unfold lr
     simp only [e1]
     by_cases hj:j < c.ae[i].bl.length
     ·have g2:c.ae[i].bl[j]? = some c.ae[i].bl[j]:=zq hj
      simp only [bJ g2,if_true,aC g2,orB,zb,a6 hj (show c.ae[i].bl.length≤1000000 by omega)]
      split
      ·exact .inr ⟨_,rfl,trivial⟩
      ·exact .inl ⟨_,rfl,⟨j + 1,rfl⟩,by simp only [zt]; omega⟩
     ·have hd:decide ((j:Int) < (c.ae[i].bl.length:Int))=false:=by simp; omega
      simp only [hd,zf,if_false]
      exact .inr ⟨_,rfl,trivial⟩) ab 0 ⟨0,rfl⟩ (by show c.ae[i].bl.length - (0:Int).toNat < ab; unfold ab; omega)
    rw [w1]
    simp only [zb]
    cases w with
    | inr m=>exact ⟨_,rfl,fun _=>good⟩
    | inl m=>exact ⟨_,rfl,fun _=>good⟩
  by_cases h0 : 0 < i
  ·have hdd:decide ((i:Int) > 0)=true:=by simpa using h0
   obtain ⟨k,rfl⟩ : ∃ k,i=k + 1:=⟨i - 1,by omega⟩
   have hk:i64.wrap (((k + 1:Nat) : Int) - 1)=(k:Int):=by rw [I7 (by omega)]; omega
   have g2:c.ae[k]? = some c.ae[k]:=zq (by omega)
   simp only [hdd,if_true,hk,aC g2,zb]
   have:=step (Op.bytesLess c.ae[k + 1].aF.toList c.ae[k].aF.toList||c.ae[k + 1].aF.toList==c.ae[k].aF.toList)
   simp only [hdd,if_true] at this
   exact this
  ·have hdd:decide ((i:Int) > 0)=false:=by simp; omega
   simp only [hdd,zf,if_false,zb]
   have:=step false
   simp only [hdd,zf,if_false] at this
   exact this
theorem uO (c:aw) (p:ByteArray) (h:SzC c) : ∃ r,ff c p=some r∧r.length≤c.ae.length∧∀ x∈r,∃ q∈c.ae,q.aF=x∧(!(p.toList==(⟨#[]⟩ : ByteArray).toList))=true∧eT x=p:=by
 unfold ff
 have hs:=jp c p [] (by have:=h.queues; omega)
 dsimp only
 rw [hs]
 obtain ⟨r,h1,h2⟩:=aR (g:=cA c p) (fin:=fun a=>(a,(c.ae.length:Int))) (fun k a=>a.length≤k∧∀ x∈a,∃ q∈c.ae,q.aF=x∧(!(p.toList==(⟨#[]⟩ : ByteArray).toList))=true∧eT x=p) (fun r=>r.1.length≤c.ae.length∧∀ x∈r.1,∃ q∈c.ae,q.aF=x∧(!(p.toList==(⟨#[]⟩ : ByteArray).toList))=true∧eT x=p) c.ae 0 [] (fun j a x hx ⟨h1,h2⟩=>by
  have hm:=List.mem_of_getElem? hx
  have hj:=(zg.1 hx).1
  obtain ⟨hr,_⟩:=rV (h.paths x hm)
  have hqs:=h.queues
  unfold cA
  simp only [hr,zb,dH]
  split
  ·rename_i hc
   rw [Bool.and_eq_true] at hc
   rw [aD (by simp; omega)]
   refine ⟨_,rfl,fun a' e=>?_,fun r e=>by cases e⟩
   injection e with e
   subst e
   refine ⟨by simp; omega,fun y hy=>?_⟩
   simp only [List.mem_append,List.mem_singleton] at hy
   rcases hy with hy | rfl
   ·exact h2 y hy
   ·exact ⟨x,hm,rfl,hc.1,rQ hc.2⟩
  ·refine ⟨_,rfl,fun a' e=>?_,fun r e=>by cases e⟩
   injection e with e
   subst e
   exact ⟨by omega,h2⟩) (fun a ⟨h1,h2⟩=>⟨by simpa using h1,h2⟩) ⟨by simp,by simp⟩
 rw [h1]
 exact ⟨_,rfl,h2⟩
theorem Dp {c:aw} {q:az} (h:q∈c.ae) : isQ c q.aF=true:=by
 unfold isQ
 rw [List.any_eq_true]
 exact ⟨q,h,by simp⟩
theorem MO:eT ⟨#[114,111,111,116]⟩=⟨#[]⟩:=by kernel_rfl
theorem Pw {c:aw} (h:SzC c) (hc:∀ q∈c.ae,q.bl.length=c.ak.length) : ∃ r,DB c=some r:=by
 have hq:=h.queues
 have hl:=h.labels
 unfold DB
 dsimp only
 rw [Bu c () (by omega)]
 obtain ⟨r,r1,_⟩:=aR (g:=ia c) (fin:=fun _=>(.inl (c.ae.length:Int) : Int⊕Bool)) (fun _ _=>True) (fun _=>True) c.ae 0 () (fun j a x hx _=>by
  obtain ⟨ks,k1,k2,k3⟩:=uO c x.aF h
  have hkl:ks.length≤1000000:=by omega
  unfold ia
  simp only [k1,zb]
  obtain ⟨w,w1,_⟩:=aM (f:=ng c ks) (fun st=>∃ i:Nat,st=(i:Int)) (fun st=>c.ak.length - st.toNat) (fun _=>True) (fun st ⟨i,h1⟩=>by
   unfold ng
   simp only [h1,dH]
   by_cases hlt:i < c.ak.length
   ·obtain ⟨v,v1,_⟩ : ∃ v,ah (jR ks c (i:Int)) ab (0,0)=some v∧True:=by
     rw [Bt ks c (i:Int) 0 hkl]
     exact aR (g:=hZ ks c (i:Int)) (fin:=fun a=>(a,(ks.length:Int))) (fun _ _=>True) (fun _=>True) ks 0 0 (fun j2 a y hy _=>by
      obtain ⟨q,q1,q2,_⟩:=k3 y (List.mem_of_getElem? hy)
      have hqq:isQ c y=true:=by rw [← q2]; exact Dp q1
      have hcl:=hc _ (yI hqq).1
      have g2:(EH c y).bl[i]? = some (EH c y).bl[i]:=zq (by omega)
      unfold hZ
      simp only [mL c y h,zb,aC g2]
      exact ⟨_,rfl,fun _ _=>trivial,fun _ _=>trivial⟩) (fun _ _=>trivial) trivial
    simp only [v1,zb,wo (show i≤1000000 by omega)]
    split
    ·split
     ·exact .inr ⟨_,rfl,trivial⟩
     ·exact .inl ⟨_,rfl,⟨i + 1,rfl⟩,by simp only [zt]; omega⟩
    ·exact .inr ⟨_,rfl,trivial⟩
   ·have hd:decide ((i:Int) < (c.ak.length:Int))=false:=by simp; omega
    simp only [hd,Bool.false_and,zf,if_false]
    exact .inr ⟨_,rfl,trivial⟩) ab 0 ⟨0,rfl⟩ (by show c.ak.length - (0:Int).toNat < ab; unfold ab; omega)
  rw [w1]
  simp only [zb]
  cases w <;> exact ⟨_,rfl,fun _ _=>trivial,fun _ _=>trivial⟩) (fun _ _=>trivial) trivial
 rw [r1]
 simp only [zb]
 cases r <;> exact ⟨_,rfl⟩
structure YW (c:aw) : Prop where
 form:Ar c
 lab1 : 1≤c.ak.length
 lab3:c.ak.length≤3
 leaf:∃ q∈c.ae,BZ c q.aF=true
theorem ET {α : Type} (f : α→Nat) : ∀ (l:List α),l≠[]→∃ x∈l,∀ y∈l,f y≤f x
 | [],h=>absurd rfl h
 | [x],_=>⟨x,List.mem_cons_self,fun y hy=>by simp at hy; subst hy; exact Nat.le_refl _⟩
 | x::z::l,_=>by
  obtain ⟨m,hm,hmax⟩:=ET f (z::l) (by simp)
  by_cases h:f m≤f x
  ·refine ⟨x,List.mem_cons_self,fun y hy=>?_⟩
   rcases List.mem_cons.1 hy with rfl | hy
   ·exact Nat.le_refl _
   ·exact Nat.le_trans (hmax y hy) h
  ·refine ⟨m,List.mem_cons_of_mem _ hm,fun y hy=>?_⟩
   rcases List.mem_cons.1 hy with rfl | hy
   ·omega
   ·exact hmax y hy
theorem Rx {c:aw} (h:SzC c) (hne:c.ae≠[]) : ∃ q∈c.ae,BZ c q.aF=true:=by
 obtain ⟨q,hq,hmax⟩:=ET (fun q:az=>q.aF.size) c.ae hne
 refine ⟨q,hq,?_⟩
 obtain ⟨ks,k1,k2,k3⟩:=uO c q.aF h
 have hnil:ks = []:=by
  cases ks with
  | nil=>rfl
  | cons x ks =>
   exfalso
   obtain ⟨q2,m1,m2,m3,m4⟩:=k3 x List.mem_cons_self
   have h0:=qw m3
   subst m2
   rcases (rV (h.paths q2 m1)).2 with e | e
   ·have:=hmax q2 m1
    rw [m4] at e
    omega
   ·rw [m4] at e; omega
 have:jV c q.aF=some true:=by
  unfold jV
  simp only [mL c _ h,Dp hq,if_true,k1,hnil,zb]
  rfl
 unfold BZ
 rw [this]; rfl
theorem X7 {c:aw} (h:mU c) (hl : 1≤c.ak.length∧c.ak.length≤3∧c.ae.length≤16) (hroot:∃ q,c.ae[0]? = some q∧q.aF=⟨#[114,111,111,116]⟩) (hq:∀ i (hi:i < c.ae.length),vf c i c.ae[i]) : YW c:=by
 have hmem:∀ q∈c.ae,∃ i,vf c i q∧(i=0→q.aF=⟨#[114,111,111,116]⟩):=fun q hm=>by
  obtain ⟨i,hi,rfl⟩:=List.getElem_of_mem hm
  refine ⟨i,hq i hi,fun e=>?_⟩
  subst e
  obtain ⟨q0,e1,e2⟩:=hroot
  rw [zq hi] at e1
  injection e1 with e1
  rw [e1]; exact e2
 have hcap:∀ q∈c.ae,q.bl.length=c.ak.length:=fun q hm=>by
  obtain ⟨i,hp,_⟩:=hmem q hm
  exact hp.caps
 have hsz:SzC c:=h.sz (fun q hm=>by rw [hcap q hm]; omega) hl.2.2
 have hne:c.ae≠[]:=by
  obtain ⟨q0,e1,_⟩:=hroot
  intro e
  rw [e] at e1
  cases e1
 refine ⟨⟨hsz,hcap,fun q hm r hr=>?_,⟨hl.2.2,fun q hm=>?_⟩,hl.1,Rx hsz hne,fun x hx=>Nat.le_trans (h.label x hx) (by decide)⟩,hl.1,hl.2.1,Rx hsz hne⟩
 ·unfold y5 at hr
  dsimp only at hr
  obtain ⟨st,hst,hr⟩:=bq hr
  injection hr with hr
  subst hr
  refine mC (f:=nN) (fun st=>(∀ x∈st.1,isQ c x=true)∧(0 < st.2.size→isQ c st.2=true)) (fun t=>∀ x∈t.1,isQ c x=true) (fun st r ⟨i1,i2⟩ h1=>?_) _ ([],q.aF) st ⟨fun x hx=>(by cases hx),fun _=>Dp hm⟩ hst
  unfold nN at h1
  dsimp only at h1
  split at h1
  ·rename_i hne2
   have h0:=qw hne2
   have hq2:=i2 h0
   obtain ⟨b,hb,h1⟩:=bq h1
   obtain ⟨a,ha,h1⟩:=bq h1
   injection h1 with h1
   subst h1
   obtain ⟨g1,g2⟩:=yI hq2
   have ge:=rQ g2
   obtain ⟨i,hp,hrt⟩:=hmem _ g1
   rw [ge] at hrt
   have hav:a=eT st.2:=by
    unfold eT
    rw [ha]; rfl
   refine ⟨fun x hx=>?_,fun ha0=>?_⟩
   ·have hb2:=(yU hb).2
    subst hb2
    simp only [List.mem_append,List.mem_singleton] at hx
    rcases hx with hx | rfl
    ·exact i1 x hx
    ·exact hq2
   ·show isQ c a=true
    rcases Nat.eq_zero_or_pos i with e | e
    ·have:=hrt e
     exfalso
     have:a=⟨#[]⟩:=by rw [hav,this]; exact MO
     rw [show (((b,a) : List ByteArray×ByteArray).2)=a from rfl,this] at ha0
     exact absurd ha0 (by decide)
    ·have:=hp.above e
     rw [ge] at this
     rw [hav]; exact this
  ·injection h1 with h1
   subst h1
   exact i1
 ·obtain ⟨i,hp,_⟩:=hmem q hm
  have:=Fh 6 q.aF (by have:=h.paths q hm; omega)
  have:=hp.dots
  omega
theorem MZ {c:aw} (h:mU c) : ∃ r,uP c=some r∧(r=0→YW c):=by
 obtain ⟨e,e1,e2⟩:=Kn h
 have hqs:=h.queues
 unfold uP
 simp only [e1,zb]
 by_cases he:e=0
 ·subst he
  have hl:=e2 rfl
  have n0:((0:Int) != 0)=false:=by decide
  simp only [n0,zf,if_false]
  by_cases hq0:c.ae.length=0
  ·have:((c.ae.length:Int)==0)=true:=by simp [hq0]
   simp only [this,if_true,zb]
   exact ⟨_,rfl,fun e=>by cases e⟩
  ·have hb:((c.ae.length:Int)==0)=false:=by simp; intro e; exact hq0 (by rw [e]; rfl)
   have hpos : 0 < c.ae.length:=by omega
   have i0:av c.ae 0=some c.ae[0]:=aC (zq hpos)
   simp only [hb,zf,if_false,i0,zb]
   cases hr:(!(c.ae[0].aF.toList==(⟨#[114,111,111,116]⟩ : ByteArray).toList)) with
   | true=>simp only [if_true]; exact ⟨_,rfl,fun e=>by cases e⟩
   | false =>
    have hrt:c.ae[0].aF=⟨#[114,111,111,116]⟩:=rQ (by simpa using hr)
    simp only [zf,if_false]
    obtain ⟨w,w1,w2⟩:=aM (f:=pF c) (fun st=>∃ i:Nat,st=(i:Int)∧i≤c.ae.length∧∀ j (hj:j < c.ae.length),j < i→vf c j c.ae[j]) (fun st=>c.ae.length - st.toNat) (fun r=>match r with | .inl _=>∀ j (hj:j < c.ae.length),vf c j c.ae[j] | .inr m=>m≠0) (fun st ⟨i,h1,h2,h3⟩=>by
     unfold pF
     simp only [h1]
     by_cases hlt:i < c.ae.length
     ·have g1:c.ae[i]? = some c.ae[i]:=zq hlt
      obtain ⟨b,b1,b2⟩:=MS h i hlt
      simp only [bJ g1,if_true,b1,zb,a6 hlt (show c.ae.length≤1000000 by omega)]
      split
      ·rename_i hne
       exact .inr ⟨_,rfl,by simpa using hne⟩
      ·rename_i hz
       have hz:b=0:=by simpa using hz
       refine .inl ⟨_,rfl,⟨i + 1,rfl,hlt,fun j hj hji=>?_⟩,by simp only [zt]; omega⟩
       rcases Nat.lt_or_ge j i with h4 | h4
       ·exact h3 j hj h4
       ·have:j=i:=by omega
        subst this
        exact b2 hz
     ·have:i=c.ae.length:=by omega
      subst this
      simp only [bz,zf,if_false]
      exact .inr ⟨_,rfl,fun j hj=>h3 j hj hj⟩) ab 0 ⟨0,rfl,Nat.zero_le _,fun j _ hj=>by omega⟩ (by show c.ae.length - (0:Int).toNat < ab; unfold ab; omega)
    rw [w1]
    simp only [zb]
    cases w with
    | inr m=>exact ⟨_,rfl,fun e=>absurd e w2⟩
    | inl m =>
     dsimp only
     have w2:∀ j (hj:j < c.ae.length),vf c j c.ae[j]:=w2
     have hform:=X7 h hl ⟨_,zq hpos,hrt⟩ w2
     have hcap0:=(w2 0 hpos).caps
     obtain ⟨v,v1,v2⟩:=aM (f:=pE c) (fun st=>∃ i:Nat,st=(i:Int)) (fun st=>c.ak.length - st.toNat) (fun _=>True) (fun st ⟨i,h1⟩=>by
      unfold pE
      simp only [h1]
      by_cases hlt:i < c.ak.length
      ·have g1:c.ak[i]? = some c.ak[i]:=zq hlt
       have g2:c.ae[0].bl[i]? = some c.ae[0].bl[i]:=zq (by omega)
       simp only [bJ g1,if_true,i0,aC g2,zb,a6 hlt (show c.ak.length≤1000000 by omega)]
       split
       ·exact .inr ⟨_,rfl,trivial⟩
       ·exact .inl ⟨_,rfl,⟨i + 1,rfl⟩,by simp only [zt]; omega⟩
      ·have hd:decide ((i:Int) < (c.ak.length:Int))=false:=by simp; omega
       simp only [hd,zf,if_false]
       exact .inr ⟨_,rfl,trivial⟩) ab 0 ⟨0,rfl⟩ (by show c.ak.length - (0:Int).toNat < ab; unfold ab; omega)
     rw [v1]
     simp only [zb]
     cases v with
     | inr m=>exact ⟨_,rfl,fun _=>hform⟩
     | inl m =>
      dsimp only
      obtain ⟨s,s1⟩:=Pw hform.form.sz hform.form.each
      rw [s1]
      simp only [zb]
      cases s <;> exact ⟨_,rfl,fun _=>hform⟩
 ·have:(e != 0)=true:=by simpa using he
  simp only [this,if_true]
  exact ⟨_,rfl,fun e0=>absurd e0 he⟩
def da (oC:Int) (v_n:Int) : Option (Int) :=
 (CB oC v_n).bind fun b1=>let v_k:Int:=b1
 (if (decide (v_k < 0))=true then
 let v_k:Int:=(i64.wrap (v_k + v_n))
 some v_k
 else
 some v_k).bind fun j2=>let v_k:=j2
 some v_k
def ki (fI:(List Int)) (v_i:Int) : Option (Int) :=
 if ((fI.length:Int)==0)=true then
 some v_i
 else
 (CB v_i (fI.length:Int)).bind fun b1=>(av fI b1).bind fun b2=>some b2
def ef (v_c:aw) (st:az×Int) : Option ((az×Int)⊕((az×Int))) :=
 let v_q:=st.1
 let v_k:=st.2
 if (decide (v_k < (v_c.ak.length:Int)))=true then
 (aU v_q.bl [(⟨10000,10000⟩ : ei)]).bind fun b11=>let v_q:az:={ v_q with bl:=b11 }
 let v_k:Int:=(i64.wrap (v_k + 1))
 some (.inl (v_q,v_k))
 else
 some (.inr (v_q,v_k))
def du (v_l:(List ByteArray)) (fI:(List Int)) (st:aw×Int) : Option ((aw×Int)⊕((aw×Int))) :=
 let v_c:=st.1
 let v_i:=st.2
 if (decide (v_i < (v_l.length:Int)))=true then
 (av v_l v_i).bind fun b5=>let v_q:az:=(⟨b5,[],1000000⟩ : az)
 (if (decide (v_i < (fI.length:Int)))=true then (av fI v_i).bind fun b6=>some ((Int.tmod b6 3)==0) else some false).bind fun q7=>(if q7=true then
 (av fI v_i).bind fun b9=>(da b9 20000).bind fun c10=>let v_q:az:={ v_q with cW:=(i64.wrap (1 + c10)) }
 some v_q
 else
 some v_q).bind fun j8=>let v_q:=j8
 let v_k:Int:=0
 (ah (ef v_c) ab (v_q,v_k)).bind fun r12 =>
 let v_q:=r12.1
 let v_k:=r12.2
 (aU v_c.ae [v_q]).bind fun b13=>let v_c:aw:={ v_c with ae:=b13 }
 let v_i:Int:=(i64.wrap (v_i + 1))
 some (.inl (v_c,v_i))
 else
 some (.inr (v_c,v_i))
def ed (kR:Int) (v_n:Int) (cm:Int) (v_j:Int) (bw:(List ByteArray)) (st:aw×Int) : Option ((aw×Int)⊕((aw×Int))) :=
 let v_c:=st.1
 let v_m:=st.2
 if (decide (v_m < (v_c.ae.length:Int)))=true then
 (av v_c.ae v_m).bind fun b28=>(av bw v_j).bind fun b29=>if (b28.aF.toList==b29.toList)=true then
 (av v_c.ae v_m).bind fun b30=>(av b30.bl kR).bind fun b31=>(av v_c.ae v_m).bind fun b32=>let v_c:aw:={ v_c with ae:=(List.set v_c.ae (Int.toNat v_m) ({ b32 with bl:=(List.set b30.bl (Int.toNat kR) (⟨v_n,cm⟩ : ei)) })) }
 let v_m:Int:=(i64.wrap (v_m + 1))
 some (.inl (v_c,v_m))
 else
 let v_m:Int:=(i64.wrap (v_m + 1))
 some (.inl (v_c,v_m))
 else
 some (.inr (v_c,v_m))
def cU (bw:(List ByteArray)) (fI:(List Int)) (aI:Int) (kR:Int) (st:Int×aw×Int) : Option ((Int×aw×Int)⊕((Int×aw×Int))) :=
 let cn:=st.1
 let v_c:=st.2.1
 let v_j:=st.2.2
 if (decide (v_j < (bw.length:Int)))=true then
 let v_n:Int:=cn
 (if (decide (v_j < (i64.wrap ((bw.length:Int) - 1))))=true then
 (ki fI (i64.wrap ((i64.wrap (aI + v_j)) + kR))).bind fun c18=>(da c18 (i64.wrap (cn + 1))).bind fun c19=>(ki fI (i64.wrap ((i64.wrap (aI * v_j)) + kR))).bind fun c20=>(da c20 4).bind fun c21=>(av ([0,(i64.wrap (Int.tdiv cn 2)),cn,c19] : (List Int)) c21).bind fun b22=>let v_n:Int:=b22
 some v_n
 else
 some v_n).bind fun j17=>let v_n:=j17
 let cn:Int:=(i64.wrap (cn - v_n))
 (ki fI (i64.wrap (v_j + kR))).bind fun c23=>(da c23 (i64.wrap ((i64.wrap (10000 - v_n)) + 1))).bind fun c24=>(ki fI (i64.wrap (aI + (i64.wrap (2 * v_j))))).bind fun c25=>(da c25 3).bind fun c26=>(av ([10000,v_n,(i64.wrap (v_n + c24))] : (List Int)) c26).bind fun b27=>let cm:Int:=b27
 let v_m:Int:=0
 (ah (ed kR v_n cm v_j bw) ab (v_c,v_m)).bind fun r33 =>
 let v_c:=r33.1
 let v_m:=r33.2
 let v_j:Int:=(i64.wrap (v_j + 1))
 some (.inl (cn,v_c,v_j))
 else
 some (.inr (cn,v_c,v_j))
def dr (fI:(List Int)) (aI:Int) (bw:(List ByteArray)) (st:aw×Int) : Option ((aw×Int)⊕((aw×Int))) :=
 let v_c:=st.1
 let kR:=st.2
 if (decide (kR < (v_c.ak.length:Int)))=true then
 let cn:Int:=10000
 let v_j:Int:=0
 (ah (cU bw fI aI kR) ab (cn,v_c,v_j)).bind fun r34 =>
 let cn:=r34.1
 let v_c:=r34.2.1
 let v_j:=r34.2.2
 let kR:Int:=(i64.wrap (kR + 1))
 some (.inl (v_c,kR))
 else
 some (.inr (v_c,kR))
def cP (v_l:(List ByteArray)) (fI:(List Int)) (st:aw×Int) : Option ((aw×Int)⊕((aw×Int))) :=
 let v_c:=st.1
 let aI:=st.2
 if (decide (aI < (v_l.length:Int)))=true then
 (av v_l aI).bind fun b15=>(ff v_c b15).bind fun c16=>let bw:(List ByteArray):=c16
 let kR:Int:=0
 (ah (dr fI aI bw) ab (v_c,kR)).bind fun r35 =>
 let v_c:=r35.1
 let kR:=r35.2
 let aI:Int:=(i64.wrap (aI + 1))
 some (.inl (v_c,aI))
 else
 some (.inr (v_c,aI))
def fO (Q0:Int) (fI:(List Int)) : Option (aw) :=
 let Xr:(List (List ByteArray)):=([([(⟨#[114,111,111,116]⟩ : ByteArray)] : (List ByteArray)),([(⟨#[114,111,111,116]⟩ : ByteArray),(⟨#[114,111,111,116,46,97]⟩ : ByteArray),(⟨#[114,111,111,116,46,98]⟩ : ByteArray)] : (List ByteArray)),([(⟨#[114,111,111,116]⟩ : ByteArray),(⟨#[114,111,111,116,46,97]⟩ : ByteArray),(⟨#[114,111,111,116,46,97,46,120]⟩ : ByteArray),(⟨#[114,111,111,116,46,97,46,121]⟩ : ByteArray),(⟨#[114,111,111,116,46,98]⟩ : ByteArray)] : (List ByteArray)),([(⟨#[114,111,111,116]⟩ : ByteArray),(⟨#[114,111,111,116,46,97]⟩ : ByteArray),(⟨#[114,111,111,116,46,98]⟩ : ByteArray),(⟨#[114,111,111,116,46,98,46,120]⟩ : ByteArray),(⟨#[114,111,111,116,46,98,46,120,46,112]⟩ : ByteArray),(⟨#[114,111,111,116,46,98,46,120,46,113]⟩ : ByteArray),(⟨#[114,111,111,116,46,99]⟩ : ByteArray)] : (List ByteArray)),([(⟨#[114,111,111,116]⟩ : ByteArray),(⟨#[114,111,111,116,46,97]⟩ : ByteArray)] : (List ByteArray))] : (List (List ByteArray)))
 (da (i64.wrap (Int.tdiv Q0 5)) 2).bind fun c2=>(hiO ([(⟨#[]⟩ : ByteArray),(⟨#[103,112,117]⟩ : ByteArray)] : (List ByteArray)) (i64.wrap (1 + c2))).bind fun b1=>let v_c:aw:=(⟨b1,[]⟩ : aw)
 (da Q0 5).bind fun c3=>(av Xr c3).bind fun b4=>let v_l:(List ByteArray):=b4
 let v_i:Int:=0
 (ah (du v_l fI) ab (v_c,v_i)).bind fun r14 =>
 let v_c:=r14.1
 let v_i:=r14.2
 let aI:Int:=0
 (ah (cP v_l fI) ab (v_c,aI)).bind fun r36 =>
 let v_c:=r36.1
 let aI:=r36.2
 some v_c
def ip (v_c:aw) (st:az) (x_:ByteArray) : Option ((az)⊕((az×Int))) :=
 let v_q:=st
 (aU v_q.bl [(⟨10000,10000⟩ : ei)]).bind fun b12=>let v_q:az:={ v_q with bl:=b12 }
 some (.inl v_q)
theorem sp (v_c:aw) (a_:az) (hl:v_c.ak.length≤1000000) : ah (ef v_c) ab (a_,(0))=bk (ip v_c) (fun a_=>(a_,((v_c.ak.length:Int)))) a_ v_c.ak :=
 ay v_c.ak (S:=az×Int) (fun a_ k_=>(a_,(k_))) (ip v_c) (fun a_=>(a_,((v_c.ak.length:Int)))) (an hl) (fun k a x hx=>by
  unfold ef ip; exact bH)
  (fun a=>by unfold ef; exact cF) a_
def iq (v_l:(List ByteArray)) (fI:(List Int)) (st:aw) (v_i:Int) (x_:ByteArray) : Option ((aw)⊕((aw×Int))) :=
 let v_c:=st
 let v_q:az:=(⟨x_,[],1000000⟩ : az)
 (if (decide (v_i < (fI.length:Int)))=true then (av fI v_i).bind fun b14=>some ((Int.tmod b14 3)==0) else some false).bind fun q15=>(if q15=true then
 (av fI v_i).bind fun b17=>(da b17 20000).bind fun c18=>let v_q:az:={ v_q with cW:=(i64.wrap (1 + c18)) }
 some v_q
 else
 some v_q).bind fun j16=>let v_q:=j16
 let v_k:Int:=0
 (ah (ef v_c) ab (v_q,v_k)).bind fun r19 =>
 let v_q:=r19.1
 let v_k:=r19.2
 (aU v_c.ae [v_q]).bind fun b20=>let v_c:aw:={ v_c with ae:=b20 }
 some (.inl v_c)
theorem BJ (v_l:(List ByteArray)) (fI:(List Int)) (a_:aw) (hl:v_l.length≤1000000) : ah (du v_l fI) ab (a_,(0))=ny (iq v_l fI) (fun a_=>(a_,((v_l.length:Int)))) a_ 0 v_l :=
 fa v_l (S:=aw×Int) (fun a_ k_=>(a_,(k_))) (iq v_l fI) (fun a_=>(a_,((v_l.length:Int)))) (an hl) (fun k a x hx=>by
  unfold du iq; exact bH)
  (fun a=>by unfold du; exact cF) a_
def il (bw:(List ByteArray)) (fI:(List Int)) (aI:Int) (kR:Int) (st:Int×aw) (v_j:Int) (x_:ByteArray) : Option ((Int×aw)⊕((Int×aw×Int))) :=
 let cn:=st.1
 let v_c:=st.2
 let v_n:Int:=cn
 (if (decide (v_j < (i64.wrap ((bw.length:Int) - 1))))=true then
 (ki fI (i64.wrap ((i64.wrap (aI + v_j)) + kR))).bind fun c35=>(da c35 (i64.wrap (cn + 1))).bind fun c36=>(ki fI (i64.wrap ((i64.wrap (aI * v_j)) + kR))).bind fun c37=>(da c37 4).bind fun c38=>(av ([0,(i64.wrap (Int.tdiv cn 2)),cn,c36] : (List Int)) c38).bind fun b39=>let v_n:Int:=b39
 some v_n
 else
 some v_n).bind fun j34=>let v_n:=j34
 let cn:Int:=(i64.wrap (cn - v_n))
 (ki fI (i64.wrap (v_j + kR))).bind fun c40=>(da c40 (i64.wrap ((i64.wrap (10000 - v_n)) + 1))).bind fun c41=>(ki fI (i64.wrap (aI + (i64.wrap (2 * v_j))))).bind fun c42=>(da c42 3).bind fun c43=>(av ([10000,v_n,(i64.wrap (v_n + c41))] : (List Int)) c43).bind fun b44=>let cm:Int:=b44
 let v_m:Int:=0
 (ah (ed kR v_n cm v_j bw) ab (v_c,v_m)).bind fun r45 =>
 let v_c:=r45.1
 let v_m:=r45.2
 some (.inl (cn,v_c))
theorem BH (bw:(List ByteArray)) (fI:(List Int)) (aI:Int) (kR:Int) (a_:Int×aw) (hl:bw.length≤1000000) : ah (cU bw fI aI kR) ab (a_.1,a_.2,(0))=ny (il bw fI aI kR) (fun a_=>(a_.1,a_.2,((bw.length:Int)))) a_ 0 bw :=
 fa bw (S:=Int×aw×Int) (fun a_ k_=>(a_.1,a_.2,(k_))) (il bw fI aI kR) (fun a_=>(a_.1,a_.2,((bw.length:Int)))) (an hl) (fun k a x hx=>by
  unfold cU il; exact bH)
  (fun a=>by unfold cU; exact cF) a_
def im (v_l:(List ByteArray)) (fI:(List Int)) (st:aw) (aI:Int) (x_:ByteArray) : Option ((aw)⊕((aw×Int))) :=
 let v_c:=st
 (ff v_c x_).bind fun c36=>let bw:(List ByteArray):=c36
 let kR:Int:=0
 (ah (dr fI aI bw) ab (v_c,kR)).bind fun r37 =>
 let v_c:=r37.1
 let kR:=r37.2
 some (.inl v_c)
theorem BI (v_l:(List ByteArray)) (fI:(List Int)) (a_:aw) (hl:v_l.length≤1000000) : ah (cP v_l fI) ab (a_,(0))=ny (im v_l fI) (fun a_=>(a_,((v_l.length:Int)))) a_ 0 v_l :=
 fa v_l (S:=aw×Int) (fun a_ k_=>(a_,(k_))) (im v_l fI) (fun a_=>(a_,((v_l.length:Int)))) (an hl) (fun k a x hx=>by
  unfold cP im; exact bH)
  (fun a=>by unfold cP; exact cF) a_
theorem gW (a:Int) {n:Int} (h0 : 0 < n) (h1:n≤1000000000) : Ok (da a n) (fun k=>0≤k∧k < n):=by
 unfold da CB
 rw [if_neg (by omega)]
 have h:=De (a:=a) h0
 simp only [zb]
 refine Ok.bind (P:=fun k=>0≤k∧k < n) (Ok.ite (fun hc=>?_) fun hc=>?_) fun r hr=>Ok.pure hr
 ·have:=zd hc
  refine Ok.pure ?_
  rw [IntKind.wrap_i64]; omega
 ·have:=of_decide_eq_false (by simpa using hc:decide (a.tmod n < 0)=false)
  exact Ok.pure (by omega)
theorem tt (ns:List Int) {i:Int} (h : 0≤i) : Ok (ki ns i) (fun _=>True):=by
 unfold ki
 refine Ok.ite (fun _=>Ok.pure trivial) fun hc=>?_
 have hn:(ns.length:Int)≠0:=fun e=>hc (by rw [e]; rfl)
 unfold CB
 rw [if_neg hn]
 simp only [zb]
 refine Ok.bind (jl (Int.tmod_nonneg _ h) (De (by omega)).2) fun r _=>Ok.pure trivial
structure QG (L:Nat) (q:az) : Prop where
 path:q.aF.size≤100
 caps:q.bl.length=L
 user:inI q.cW
 nums:∀ x∈q.bl,inI x.kt∧inI x.rN
structure CG (L:Nat) (c:aw) : Prop where
 labels:c.ak.length=L
 label:∀ x∈c.ak,x.size≤100
 queues:∀ q∈c.ae,QG L q
theorem CG.text {L:Nat} {c:aw} (h:CG L c) (hL:L≤10) (hn:c.ae.length≤10) : WG c :=
 ⟨by have:=h.labels; omega,fun x hx=>Nat.le_trans (h.label x hx) (by omega),by omega,fun q hq=>Nat.le_trans (h.queues q hq).path (by omega),fun q hq=>by have:=(h.queues q hq).caps; omega,fun q hq=>(h.queues q hq).user,fun q hq=>(h.queues q hq).nums⟩
theorem CG.sz {L:Nat} {c:aw} (h:CG L c) (hL:L≤10) (hn:c.ae.length≤10) : SzC c :=
 ⟨by have:=h.labels; omega,by omega,fun q hq=>by have:=(h.queues q hq).caps; omega,fun q hq=>Nat.le_trans (h.queues q hq).path (by omega)⟩
theorem o5 {n:Int} (h : -1000000000≤n∧n≤1000000000) : inI n:=by unfold inI; omega
theorem Rp {α : Type} {l:List α} {i:Nat} {a x : α} (h:x∈l.set i a) : x∈l∨x=a:=List.mem_or_eq_of_mem_set h
theorem W8 {L:Nat} {k:Nat} (hk:k < L) {n most:Int} (hn:inI n) (hm:inI most) {kids:List ByteArray} {j:Nat} (hj:j < kids.length) {N:Nat} (hN:N≤10) {c:aw} (hc:CG L c) (hcn:c.ae.length=N) : Ok (ah (ed (k:Int) n most (j:Int) kids) ab (c,0)) (fun r=>CG L r.1∧r.1.ae.length=N):=by
 refine aM (fun st=>∃ m:Nat,st.2=(m:Int)∧m≤N∧CG L st.1∧st.1.ae.length=N) (fun st=>N - st.2.toNat) _ (fun st ⟨m,h1,h2,h3,h4⟩=>?_) ab (c,0) ⟨0,rfl,Nat.zero_le _,hc,hcn⟩ (by show N - (0:Int).toNat < ab; unfold ab; omega)
 unfold ed
 simp only [h1]
 split
 ·rename_i hlt
  have hlt:m < st.1.ae.length:=by have:=zd hlt; omega
  have e1:=zq hlt
  have e2:=zq hj
  have hq:=h3.queues _ (List.getElem_mem hlt)
  have hkk:k < st.1.ae[m].bl.length:=by rw [hq.caps]; exact hk
  have e3:=zq hkk
  simp only [aC e1,aC e2,aC e3,zb,a6 (show m < 10 by omega) (show 10≤1000000 by omega),zt]
  left
  split
  ·refine ⟨_,rfl,⟨m + 1,rfl,by omega,⟨h3.labels,h3.label,fun q hq'=>?_⟩,by simpa using h4⟩,by simp only [zt]; omega⟩
   rcases Rp hq' with h | h
   ·exact h3.queues q h
   ·subst h
    refine ⟨hq.path,by simpa using hq.caps,hq.user,fun x hx=>?_⟩
    rcases Rp hx with h | h
    ·exact hq.nums x h
    ·subst h; exact ⟨hn,hm⟩
  ·exact ⟨_,rfl,⟨m + 1,rfl,by omega,h3,h4⟩,by simp only [zt]; omega⟩
 ·exact .inr ⟨_,rfl,h3,h4⟩
theorem w64 {n:Int} (h : -1000000000000≤n∧n≤1000000000000) : i64.wrap n=n:=by rw [IntKind.wrap_i64]; omega
theorem Xa {L:Nat} {k:Nat} (hk:k < L) (hL:L≤10) {kids:List ByteArray} (hkd:kids.length≤10) (ns:List Int) {i:Nat} (hi:i≤10) {N:Nat} (hN:N≤10) {c:aw} (hc:CG L c) (hcn:c.ae.length=N) : Ok (ah (cU kids ns (i:Int) (k:Int)) ab (10000,c,0)) (fun r=>CG L r.2.1∧r.2.1.ae.length=N):=by
 have:=BH kids ns (i:Int) (k:Int) (10000,c) (by omega)
 dsimp only at this
 rw [this]
 refine Ok.weak (ub (g:=il kids ns (i:Int) (k:Int)) (fin:=fun a_=>(a_.1,a_.2,((kids.length:Int)))) (fun _ st=>(0≤st.1∧st.1≤10000)∧CG L st.2∧st.2.ae.length=N) kids (10000,c) (fun j st x hx ⟨⟨l0,l1⟩,h2,h3⟩=>?_) ⟨⟨by omega,by omega⟩,hc,hcn⟩) (fun r ⟨a,e,h⟩=>by subst e; exact h.2)
 have hj:=(zg.1 hx).1
 obtain ⟨left,c⟩:=st
 dsimp only at l0 l1 h2 h3
 unfold il
 dsimp only
 have hij:(i:Int) * (j:Int)≤100:=by
  have:i * j≤10 * 10:=Nat.mul_le_mul hi (by omega)
  exact_mod_cast this
 have hij0 : 0≤(i:Int) * (j:Int):=Int.mul_nonneg (by omega) (by omega)
 refine Ok.bind (P:=fun n=>0≤n∧n≤left) (Ok.ite (fun _=>?_) fun _=>Ok.pure ⟨l0,Int.le_refl _⟩) fun n hn=>?_
 ·have h2d:left.tdiv 2=left / 2:=Int.tdiv_eq_ediv_of_nonneg l0
  rw [h2d,w64 (n:=(i:Int) + j) (by omega),w64 (n:=(i:Int) + j + k) (by omega),w64 (n:=left + 1) (by omega),w64 (n:=(i:Int) * j) (by omega),w64 (n:=(i:Int) * j + k) (by omega),w64 (n:=left / 2) (by omega)]
  refine Ok.bind (tt ns (by omega)) fun p _=>Ok.bind (gW p (by omega) (by omega)) fun v hv=>Ok.bind (tt ns (by omega)) fun p2 _=>Ok.bind (gW p2 (by omega) (by omega)) fun u hu=>Ok.bind (jl hu.1 hu.2) fun b hb=>Ok.pure ?_
  simp only [List.mem_cons,List.not_mem_nil,or_false] at hb
  omega
 ·rw [w64 (n:=left - n) (by omega),w64 (n:=(j:Int) + k) (by omega),w64 (n:=10000 - n) (by omega),w64 (n:=10000 - n + 1) (by omega),w64 (n:=2 * (j:Int)) (by omega),w64 (n:=(i:Int) + 2 * j) (by omega)]
  refine Ok.bind (tt ns (by omega)) fun p _=>Ok.bind (gW p (by omega) (by omega)) fun v hv=>Ok.bind (tt ns (by omega)) fun p2 _=>Ok.bind (gW p2 (by omega) (by omega)) fun u hu=>Ok.bind (jl hu.1 hu.2) fun b hb=>?_
  rw [w64 (n:=n + v) (by omega)] at hb
  simp only [List.mem_cons,List.not_mem_nil,or_false] at hb
  refine Ok.bind (W8 hk (o5 (n:=n) (by omega)) (o5 (n:=b) (by omega)) hj hN h2 h3) fun r hr=>Ok.pure ⟨_,rfl,⟨by show 0≤left - n; omega,by show left - n≤10000; omega⟩,hr.1,hr.2⟩
theorem Xb {L:Nat} (hL:L≤10) {kids:List ByteArray} (hkd:kids.length≤10) (ns:List Int) {i:Nat} (hi:i≤10) {N:Nat} (hN:N≤10) {c:aw} (hc:CG L c) (hcn:c.ae.length=N) : Ok (ah (dr ns (i:Int) kids) ab (c,0)) (fun r=>CG L r.1∧r.1.ae.length=N):=by
 refine aM (fun st=>∃ m:Nat,st.2=(m:Int)∧m≤L∧CG L st.1∧st.1.ae.length=N) (fun st=>L - st.2.toNat) _ (fun st ⟨m,h1,h2,h3,h4⟩=>?_) ab (c,0) ⟨0,rfl,Nat.zero_le _,hc,hcn⟩ (by show L - (0:Int).toNat < ab; unfold ab; omega)
 unfold dr
 simp only [h1]
 split
 ·rename_i hlt
  have hlt:m < L:=by have:=zd hlt; have:=h3.labels; omega
  obtain ⟨r,r1,r2,r3⟩:=Xa hlt hL hkd ns hi hN h3 h4
  simp only [r1,zb,a6 (show m < 10 by omega) (show 10≤1000000 by omega)]
  exact .inl ⟨_,rfl,⟨m + 1,rfl,by omega,r2,r3⟩,by simp only [zt]; omega⟩
 ·exact .inr ⟨_,rfl,h3,h4⟩
theorem Xd {L:Nat} {c:aw} (hl:c.ak.length=L) (hL:L≤10) {q:az} (hp:q.aF.size≤100) (hu:inI q.cW) (hc:q.bl = []) : Ok (ah (ef c) ab (q,0)) (fun r=>QG L r.1):=by
 rw [sp c q (by omega)]
 refine Ok.weak (D0 (g:=ip c) (fin:=fun a_=>(a_,((c.ak.length:Int)))) (fun k b=>QG k b) c.ak q (fun j b x hx hb=>?_) ⟨hp,by rw [hc]; rfl,hu,by rw [hc]; intro x hx; cases hx⟩) (fun r ⟨a,e,h⟩=>by subst e; rw [hl] at h; exact h)
 have hj:=(zg.1 hx).1
 have:=hb.caps
 unfold ip
 dsimp only
 rw [aD (by simp; omega)]
 refine Ok.pure ⟨_,rfl,hb.path,by simpa using this,hb.user,fun y hy=>?_⟩
 simp only [List.mem_append,List.mem_singleton] at hy
 rcases hy with h | h
 ·exact hb.nums y h
 ·subst h; exact ⟨o5 (by decide),o5 (by decide)⟩
theorem Xf {L:Nat} (hL:L≤10) {l:List ByteArray} (hl:l.length≤10) (hs:∀ x∈l,x.size≤100) (ns:List Int) {c:aw} (hc:CG L c) (hq:c.ae = []) : Ok (ah (du l ns) ab (c,0)) (fun r=>CG L r.1∧r.1.ae.length=l.length):=by
 rw [BJ l ns c (by omega)]
 refine Ok.weak (ub (g:=iq l ns) (fin:=fun a_=>(a_,((l.length:Int)))) (fun k b=>CG L b∧b.ae.length=k) l c (fun j b x hx ⟨hb,hn⟩=>?_) ⟨hc,by rw [hq]; rfl⟩) (fun r ⟨a,e,h⟩=>by subst e; exact h)
 have hj:=(zg.1 hx).1
 unfold iq
 dsimp only
 refine Ok.bind (P:=fun t=>t=true→j < ns.length) (Ok.ite (fun hd=>?_) fun _=>Ok.pure (fun e=>by cases e)) fun t ht=>?_
 ·have hd:=zd hd
  exact Ok.bind (jl (by omega) hd) fun b _=>Ok.pure (fun _=>by omega)
 refine Ok.bind (P:=fun q:az=>q.aF=x∧q.bl = []∧inI q.cW) (Ok.ite (fun hd=>?_) fun _=>Ok.pure ⟨rfl,rfl,(by show inI 1000000; exact o5 (by decide))⟩) fun q ⟨q1,q2,q3⟩=>?_
 ·have:=ht hd
  refine Ok.bind (jl (by omega) (by omega)) fun b _=>Ok.bind (gW b (by omega) (by omega)) fun v hv=>Ok.pure ⟨rfl,rfl,?_⟩
  show inI (i64.wrap (1 + v))
  rw [w64 (by omega)]
  exact o5 (by omega)
 ·refine Ok.bind (Xd hb.labels hL (by rw [q1]; exact hs x (List.mem_of_getElem? hx)) q3 q2) fun r hr=>?_
  rw [aD (by simp; omega)]
  refine Ok.pure ⟨_,rfl,⟨hb.labels,hb.label,fun y hy=>?_⟩,by simp; omega⟩
  simp only [List.mem_append,List.mem_singleton] at hy
  rcases hy with h | h
  ·exact hb.queues y h
  ·subst h; exact hr
theorem Xc {L:Nat} (hL:L≤10) {l:List ByteArray} (hl:l.length≤10) (ns:List Int) {N:Nat} (hN:N≤10) {c:aw} (hc:CG L c) (hq:c.ae.length=N) : Ok (ah (cP l ns) ab (c,0)) (fun r=>CG L r.1∧r.1.ae.length=N):=by
 rw [BI l ns c (by omega)]
 refine Ok.weak (ub (g:=im l ns) (fin:=fun a_=>(a_,((l.length:Int)))) (fun k b=>CG L b∧b.ae.length=N) l c (fun j b x hx ⟨hb,hn⟩=>?_) ⟨hc,hq⟩) (fun r ⟨a,e,h⟩=>by subst e; exact h)
 have hj:=(zg.1 hx).1
 unfold im
 dsimp only
 obtain ⟨kd,k1,k2,_⟩:=uO b x (hb.sz hL (by omega))
 refine Ok.bind (P:=fun kd=>kd.length≤10) ⟨kd,k1,by omega⟩ fun kd hkd=>Ok.bind (Xb hL hkd ns (by omega) hN hb hn) fun r hr=>Ok.pure ⟨_,rfl,hr.1,hr.2⟩
theorem GD (shape:Int) (ns:List Int) : Ok (fO shape ns) WG:=by
 unfold fO
 dsimp only
 refine Ok.bind (gW _ (by omega) (by omega)) fun w hw=>?_
 rw [w64 (n:=1 + w) (by omega)]
 obtain ⟨W,rfl⟩ : ∃ W:Nat,w=(W:Int):=⟨w.toNat,by omega⟩
 rw [show (1 + (W:Int))=((1 + W:Nat) : Int) by omega,nZ (by simp; omega)]
 simp only [zb]
 refine Ok.bind (gW _ (by omega) (by omega)) fun t ht=>Ok.bind (jl ht.1 ht.2) fun l hl=>?_
 have key:l.length≤7∧∀ x∈l,x.size≤100:=by
  simp only [List.mem_cons,List.not_mem_nil,or_false] at hl
  rcases hl with h | h | h | h | h <;> subst h <;> decide
 have hL:(List.take (1 + W) [(⟨#[]⟩ : ByteArray),⟨#[103,112,117]⟩]).length≤10:=Nat.le_trans (List.length_take_le' _ _) (by decide)
 refine Ok.bind (Xf hL (by omega) key.2 ns ⟨rfl,fun x hx=>?_,fun q hq=>by cases hq⟩ rfl) fun r hr=>Ok.bind (Xc hL (by omega) ns (by omega) hr.1 hr.2) fun q hq=>Ok.pure (hq.1.text hL (by have:=hq.2; omega))
 have:=List.mem_of_mem_take hx
 simp only [List.mem_cons,List.not_mem_nil,or_false] at this
 rcases this with h | h <;> subst h <;> decide
section
def bT (l:Tx) : ByteArray:=⟨l.toArray⟩
def gP (c:Int×Int) : ei:=⟨c.1,c.2⟩
def gQ (d:QD) : az:=⟨bT d.path,d.caps.map gP,d.user⟩
def gC (nl:Nat) (ds:List QD) : aw:=⟨(CE nl).map bT,ds.map gQ⟩
theorem Wy {a b:Tx} : ((bT a).toList==(bT b).toList)=decide (a=b):=by
 by_cases h:a=b
 ·subst h; simp
 ·have:bT a≠bT b:=fun e=>h (by
   have:=congrArg (fun x:ByteArray=>x.data.toList) e
   simpa [bT] using this)
  rw [decide_eq_false h]
  cases hb:((bT a).toList==(bT b).toList) with
  | false=>rfl
  | true=>exact absurd (rQ hb) this
theorem gX (a:Int) {n:Int} (h0 : 0 < n) (h1:n≤1125899906842625) : da a n=some (a % n):=by
 have l1:a.tmod n < n:=Int.tmod_lt_of_pos a h0
 have l2 : -n < a.tmod n:=by have:=Int.lt_tmod_of_pos a h0; omega
 unfold da CB
 rw [if_neg (by omega)]
 simp only [zb]
 by_cases hneg:a.tmod n < 0
 ·rw [Ml h0 hneg]
  simp only [hneg,decide_true,if_true,zb]
  rw [IntKind.wrap_i64]
  congr 1
  omega
 ·rw [Mj h0 hneg]
  simp only [hneg,decide_false,zf,if_false,zb]
def gY (xs:List Int) (i:Int) : Int:=if xs.length=0 then i else xs.getD (i % (xs.length:Int)).toNat 0
theorem tu (xs:List Int) {i:Int} (h : 0≤i) : ki xs i=some (gY xs i):=by
 unfold ki gY
 by_cases hz:xs.length=0
 ·rw [if_pos (by rw [hz]; rfl),if_pos hz]
 ·have hn:(xs.length:Int)≠0:=by omega
  rw [if_neg (by simpa using hz),if_neg hz]
  unfold CB
  rw [if_neg hn]
  simp only [zb]
  have e:i.tmod (xs.length:Int)=i % (xs.length:Int):=Int.tmod_eq_emod_of_nonneg h
  rw [e]
  have h0:=Int.emod_nonneg i hn
  have h1:=Int.emod_lt_of_pos i (show (0:Int) < xs.length by omega)
  obtain ⟨m,hm⟩ : ∃ m:Nat,i % (xs.length:Int)=(m:Int):=⟨(i % (xs.length:Int)).toNat,by omega⟩
  rw [hm] at h1 ⊢
  have hmx:m < xs.length:=by omega
  rw [aC (zq hmx)]
  simp [List.getD,zq hmx]
def ED (xs:List Int) (k:Nat) : Bool:=decide (k < xs.length)&&((xs.getD k 0).tmod 3==0)
def H0 (xs:List Int) (k:Nat) : Int:=if ED xs k=true then 1 + xs.getD k 0 % 20000 else 1000000
theorem Xe {nl:Nat} (hnl:nl≤2) (c:aw) (hc:c.ak.length=nl) (p:ByteArray) (u:Int) : ah (ef c) ab (⟨p,[],u⟩,0)=some (⟨p,(List.replicate nl rl).map gP,u⟩,(nl:Int)):=by
 rw [sp c _ (by omega)]
 obtain ⟨ls,qs⟩:=c
 dsimp only at hc ⊢
 subst hc
 rcases ls with _ | ⟨a,_ | ⟨b,_ | ⟨d,ls⟩⟩⟩
 ·rfl
 ·rfl
 ·rfl
 ·simp only [List.length_cons] at hnl; omega
theorem QS {nl:Nat} (hnl:nl≤2) (ps:List Tx) (xs:List Int) (ds:List QD) {k:Nat} (hk:k < ps.length) (hps:ps.length≤7) (hds:ds.length≤7) : du (ps.map bT) xs (gC nl ds,(k:Int))=some (.inl (gC nl (ds ++ [⟨ps[k],List.replicate nl rl,H0 xs k⟩]),((k + 1:Nat) : Int))):=by
 have e1:(ps.map bT)[k]? = some (bT ps[k]):=by simp [hk]
 have d1:decide ((k:Int) < ((ps.map bT).length:Int))=true:=by simp; omega
 have hl:(gC nl ds).ak.length=nl:=by show ((CE nl).map bT).length=nl; rw [List.length_map,qy hnl]
 unfold du
 dsimp only
 rw [if_pos d1,aC e1]
 simp only [zb]
 have fin:∀ u:Int,(Option.bind (ah (ef (gC nl ds)) ab ((⟨bT ps[k],[],u⟩ : az),(0:Int))) fun r12=>Option.bind (aU (gC nl ds).ae [r12.1]) fun b13=>some (Sum.inl ((⟨(gC nl ds).ak,b13⟩ : aw),i64.wrap ((k:Int) + 1)) : (aw×Int)⊕(aw×Int)))=some (.inl (gC nl (ds ++ [⟨ps[k],List.replicate nl rl,u⟩]),((k + 1:Nat) : Int))):=by
  intro u
  rw [Xe hnl _ hl]
  simp only [zb]
  rw [aD (by show (ds.map gQ).length + 1≤_; rw [List.length_map]; omega)]
  simp only [zb,a6 (show k < 7 by omega) (show 7≤1000000 by omega)]
  unfold gC
  simp only [List.map_append,List.map_cons,List.map_nil,gQ]
 unfold H0 ED
 by_cases hN:k < xs.length
 ·have e2:xs[k]? = some xs[k]:=zq hN
  have e3:xs.getD k 0=xs[k]:=by simp [List.getD,e2]
  have d2:decide ((k:Int) < (xs.length:Int))=true:=by simp; omega
  simp only [d2,if_true,aC e2,zb,hN,decide_true,Bool.true_and,e3]
  by_cases ht:(xs[k].tmod 3==0)=true
  ·have h0:=Int.emod_nonneg xs[k] (show (20000:Int)≠0 by decide)
   have h1:=Int.emod_lt_of_pos xs[k] (show (0:Int) < 20000 by decide)
   simp only [ht,if_true,gX xs[k] (show (0:Int) < 20000 by decide) (by decide),zb,w64 (n:=1 + xs[k] % 20000) (by omega)]
   exact fin _
  ·simp only [ht,if_false,zb,zf]
   exact fin _
 ·have d2:decide ((k:Int) < (xs.length:Int))=false:=by simp; omega
  simp only [d2,zf,if_false,zb,hN,decide_false,Bool.false_and]
  exact fin _
theorem Eo {α β : Type} (f : α→β) (g : α→α) (b : β) : ∀ (l:List α) (m:Nat) (h:m < l.length),b=f (g l[m])→(l.modify m g).map f=(l.map f).set m b
 | x::l,0,h,e=>by subst e; rfl
 | x::l,m + 1,h,e=>by
  simp only [List.modify_succ_cons,List.map_cons,List.set_cons_succ]
  rw [Eo f g b l m (by simpa using h) e]
theorem W9 {nl:Nat} {ks:List Tx} {ds:List QD} {k j:Nat} (hj:j < ks.length) (n mo:Int) (hN:ds.length≤7) (hc:∀ q∈ds,q.caps.length=nl) (hk:k < nl) : ah (ed (k:Int) n mo (j:Int) (ks.map bT)) ab (gC nl ds,0)=some (gC nl (iB ks[j] k n mo ds),(ds.length:Int)):=by
 have hp:∃ r,ah (ed (k:Int) n mo (j:Int) (ks.map bT)) ab (gC nl ds,0)=some r∧r=(gC nl (iB ks[j] k n mo ds),(ds.length:Int)):=by
  refine aM (f:=ed (k:Int) n mo (j:Int) (ks.map bT)) (fun st=>∃ m:Nat,m≤ds.length∧st=(gC nl (eO ks[j] k n mo ds m),(m:Int))) (fun st=>ds.length - st.2.toNat) (fun r=>r=(gC nl (iB ks[j] k n mo ds),(ds.length:Int))) (fun st ⟨m,hm,hst⟩=>?_) ab (gC nl ds,0) ⟨0,Nat.zero_le _,by rw [DZ]; rfl⟩ (by show ds.length - (0:Int).toNat < ab; unfold ab; omega)
  subst hst
  unfold ed
  dsimp only
  have hlen:(gC nl (eO ks[j] k n mo ds m)).ae.length=ds.length:=by show ((eO _ _ _ _ ds m).map gQ).length = _; rw [List.length_map,gL]
  rw [hlen]
  rcases Nat.lt_or_ge m ds.length with hlt | hge
  ·left
   have d1:decide ((m:Int) < (ds.length:Int))=true:=by simpa using hlt
   have hml:m < (eO ks[j] k n mo ds m).length:=by rw [gL]; exact hlt
   have e1:(gC nl (eO ks[j] k n mo ds m)).ae[m]? = some (gQ ds[m]):=by
    show ((eO _ _ _ _ ds m).map gQ)[m]? = _
    rw [List.getElem?_map,zq hml,AC _ _ _ _ _ _ hlt]
    rfl
   have e2:(ks.map bT)[j]? = some (bT ks[j]):=by simp [hj]
   have e3:(gQ ds[m]).bl[k]? = some (gP (ds[m].caps[k]'(by rw [hc _ (List.getElem_mem hlt)]; exact hk))):=by
    show (ds[m].caps.map gP)[k]? = _
    rw [List.getElem?_map,zq (by rw [hc _ (List.getElem_mem hlt)]; exact hk)]
    rfl
   rw [if_pos d1,aC e1,aC e2]
   simp only [zb,aC e3,a6 (show m < 7 by omega) (show 7≤1000000 by omega),zt]
   rw [show (gQ ds[m]).aF=bT ds[m].path from rfl,Wy]
   by_cases he:ds[m].path=ks[j]
   ·rw [if_pos (by simpa using he)]
    refine ⟨_,rfl,⟨m + 1,hlt,?_⟩,by simp only [zt]; omega⟩
    rw [Hq hlt he]
    congr 1
    unfold gC
    congr 1
    dsimp only
    refine (Eo gQ _ _ _ m hml ?_).symm
    rw [AC _ _ _ _ _ _ hlt]
    unfold gQ
    simp [List.map_set,gP]
   ·rw [if_neg (by simpa using he)]
    exact ⟨_,rfl,⟨m + 1,hlt,by rw [Lh hlt he]⟩,by simp only [zt]; omega⟩
  ·right
   have hm2:m=ds.length:=by omega
   subst hm2
   have d1:decide ((ds.length:Int) < (ds.length:Int))=false:=by simp
   rw [if_neg (by rw [d1]; decide)]
   exact ⟨_,rfl,by rw [Hr]⟩
 obtain ⟨r,h1,h2⟩:=hp
 rw [h1,h2]
theorem BR {σ α τ : Type} {g g' : σ→α→Option (σ⊕τ)} (fin : σ→τ) : ∀ (l:List α) (a : σ),(∀ x∈l,∀ a,g a x=g' a x)→bk g fin a l=bk g' fin a l
 | [],a,_=>rfl
 | x::l,a,h=>by
  simp only [bk]
  rw [h x (List.mem_cons_self ..)]
  cases g' a x with
  | none=>rfl
  | some o=>cases o with
   | inl a'=>exact BR fin l a' (fun y hy=>h y (List.mem_cons_of_mem _ hy))
   | inr r=>rfl
theorem Pe (y:Nat) : ∀ x∈mn y,eT (bT x)=bT (above x):=by
 unfold mn
 split
 all_goals
  intro x hx
  simp only [List.mem_cons,List.not_mem_nil,or_false] at hx
  repeat (first | (subst hx; kernel_rfl) | (rcases hx with h | hx; (subst h; kernel_rfl)))
theorem YA (nl:Nat) {ds:List QD} {ps:List Tx} {y:Nat} (hy:ps=mn y) (hd:ds.map (·.path)=ps) {p:Tx} (hp:p∈ps) : ff (gC nl ds) (bT p)=some ((B4 p ps).map bT):=by
 have hlen:ds.length≤7:=by
  have h1:=congrArg List.length hd
  have h2:=K6 y
  rw [hy,List.length_map] at h1
  omega
 have hsz:∀ q∈(gC nl ds).ae,q.aF.size≤1000000:=fun q hq=>by
  obtain ⟨d,hd2,rfl⟩:=List.mem_map.1 hq
  have h1:d.path∈ps:=by rw [← hd]; exact List.mem_map_of_mem hd2
  rw [hy] at h1
  have h2:=K5 y _ h1
  show (bT d.path).size≤_
  have:(bT d.path).size=d.path.length:=by simp [bT,ByteArray.size]
  omega
 unfold ff
 dsimp only
 rw [jp (gC nl ds) (bT p) [] (by show (ds.map gQ).length≤_; rw [List.length_map]; omega)]
 rw [BR (g':=fun acc x=>if (!((bT p).toList==(⟨#[]⟩ : ByteArray).toList)&&((eT x.aF).toList==(bT p).toList))=true then (aU acc [x.aF]).map (fun a=>(.inl a:List ByteArray⊕(List ByteArray×Int))) else some (.inl acc)) _ _ _ (fun x hx acc=>by
  unfold cA
  simp only [(rV (hsz x hx)).1,zb,dH]
  split
  ·cases aU acc [x.aF] <;> rfl
  ·rfl)]
 rw [cr (fun x:az=>!((bT p).toList==(⟨#[]⟩ : ByteArray).toList)&&((eT x.aF).toList==(bT p).toList)) az.aF _ _ [] (by show 0 + (ds.map gQ).length≤_; rw [List.length_map]; omega)]
 simp only [zb,List.nil_append]
 congr 1
 have e1:((gC nl ds).ae.filter fun x:az=>!((bT p).toList==(⟨#[]⟩ : ByteArray).toList)&&((eT x.aF).toList==(bT p).toList)).map az.aF=(ps.filter fun x=>!((bT p).toList==(bT []).toList)&&((eT (bT x)).toList==(bT p).toList)).map bT:=by
  rw [← hd]
  show ((ds.map gQ).filter _).map _ = _
  rw [List.filter_map,List.filter_map,List.map_map,List.map_map]
  rfl
 rw [e1]
 congr 1
 unfold B4
 refine List.filter_congr fun x hx=>?_
 rw [hy] at hx
 rw [Pe y x hx,Wy,Wy]
 simp
theorem oz {α β : Type} {o:Option α} {f : α→Option β} {r : α} {x:Option β} (h1:o=some r) (h2:f r=x) : Option.bind o f=x:=by subst h1; exact h2
def nV (xs:List Int) (i jj kk nk:Nat) (L:Int) : Int:=if jj + 1 < nk then [0,L / 2,L,gY xs ((i:Int) + jj + kk) % (L + 1)].getD (gY xs ((i:Int) * jj + kk) % 4).toNat 0 else L
def mV (xs:List Int) (i jj kk:Nat) (n:Int) : Int:=[10000,n,n + gY xs ((jj:Int) + kk) % (10000 - n + 1)].getD (gY xs ((i:Int) + 2 * jj) % 3).toNat 0
theorem HW (l:List Int) (a:Int) (hl : 0 < l.length) : av l (a % (l.length:Int))=some (l.getD (a % (l.length:Int)).toNat 0):=by
 have h0:=Int.emod_nonneg a (show (l.length:Int)≠0 by omega)
 have h1:=Int.emod_lt_of_pos a (show (0:Int) < l.length by omega)
 obtain ⟨m,hm⟩ : ∃ m:Nat,a % (l.length:Int)=(m:Int):=⟨(a % (l.length:Int)).toNat,by omega⟩
 rw [hm] at h1 ⊢
 have hmx:m < l.length:=by omega
 rw [aC (zq hmx)]
 simp [List.getD,zq hmx]
theorem ZP (xs:List Int) (i jj kk nk:Nat) {L:Int} (h0 : 0≤L) : 0≤nV xs i jj kk nk L∧nV xs i jj kk nk L≤L:=by
 unfold nV
 split
 ·have a0:=Int.emod_nonneg (gY xs ((i:Int) * jj + kk)) (show (4:Int)≠0 by decide)
  have a1:=Int.emod_lt_of_pos (gY xs ((i:Int) * jj + kk)) (show (0:Int) < 4 by decide)
  have b0:=Int.emod_nonneg (gY xs ((i:Int) + jj + kk)) (show (L + 1)≠0 by omega)
  have b1:=Int.emod_lt_of_pos (gY xs ((i:Int) + jj + kk)) (show (0:Int) < L + 1 by omega)
  generalize gY xs ((i:Int) + jj + kk) % (L + 1)=b at b0 b1
  obtain ⟨m,hm⟩ : ∃ m:Nat,(gY xs ((i:Int) * jj + kk) % 4)=(m:Int):=⟨(gY xs ((i:Int) * jj + kk) % 4).toNat,by omega⟩
  rw [hm] at a1 ⊢
  rcases m with _ | _ | _ | _ | m
  ·exact ⟨Int.le_refl _,h0⟩
  ·show 0≤L / 2∧L / 2≤L; omega
  ·exact ⟨h0,Int.le_refl _⟩
  ·show 0≤b∧b≤L; omega
  ·omega
 ·exact ⟨h0,Int.le_refl _⟩
theorem QR {nl:Nat} {ks:List Tx} {ds:List QD} {xs:List Int} {i jj kk:Nat} {L:Int} (hj:jj < ks.length) (hks:ks.length≤7) (hi:i≤7) (hnl:nl≤2) (hkk:kk < nl) (h0 : 0≤L) (h1:L≤10000) (hN:ds.length≤7) (hc:∀ q∈ds,q.caps.length=nl) :
  cU (ks.map bT) xs (i:Int) (kk:Int) (L,gC nl ds,(jj:Int))=some (.inl (L - nV xs i jj kk ks.length L,gC nl (iB ks[jj] kk (nV xs i jj kk ks.length L) (mV xs i jj kk (nV xs i jj kk ks.length L)) ds),((jj + 1:Nat) : Int))):=by
 have hij:(i:Int) * (jj:Int)≤100:=by
  have:i * jj≤7 * 7:=Nat.mul_le_mul hi (by omega)
  have h2:((i * jj:Nat) : Int)≤49:=by omega
  rw [Int.natCast_mul] at h2
  omega
 have hij0 : 0≤(i:Int) * (jj:Int):=Int.mul_nonneg (by omega) (by omega)
 have hn:=ZP xs i jj kk ks.length h0
 have d1:decide ((jj:Int) < ((ks.map bT).length:Int))=true:=by simp; omega
 unfold cU
 dsimp only
 rw [if_pos d1]
 refine oz (r:=nV xs i jj kk ks.length L) ?_ ?_
 ·unfold nV
  by_cases hl:jj + 1 < ks.length
  ·have d2:decide ((jj:Int) < i64.wrap (((ks.map bT).length:Int) - 1))=true:=by
    rw [List.length_map,w64 (by omega)]
    simp; omega
   have h2d:L.tdiv 2=L / 2:=Int.tdiv_eq_ediv_of_nonneg h0
   rw [if_pos d2,if_pos hl,h2d,w64 (n:=(i:Int) + jj) (by omega),w64 (n:=(i:Int) + jj + kk) (by omega),w64 (n:=L + 1) (by omega),w64 (n:=(i:Int) * jj) (by omega),w64 (n:=(i:Int) * jj + kk) (by omega),w64 (n:=L / 2) (by omega)]
   refine oz (tu xs (by omega)) (oz (gX _ (by omega) (by omega)) (oz (tu xs (by omega)) (oz (gX _ (by omega) (by omega)) (oz ?_ rfl))))
   exact HW [0,L / 2,L,_] _ (by simp)
  ·have d2:decide ((jj:Int) < i64.wrap (((ks.map bT).length:Int) - 1))=false:=by
    rw [List.length_map,w64 (by omega)]
    simp; omega
   rw [if_neg (by rw [d2]; decide),if_neg hl]
 ·generalize nV xs i jj kk ks.length L=n at hn
  rw [w64 (n:=L - n) (by omega),w64 (n:=(jj:Int) + kk) (by omega),w64 (n:=10000 - n) (by omega),w64 (n:=10000 - n + 1) (by omega),w64 (n:=2 * (jj:Int)) (by omega),w64 (n:=(i:Int) + 2 * jj) (by omega)]
  have b0:=Int.emod_nonneg (gY xs ((jj:Int) + kk)) (show (10000 - n + 1)≠0 by omega)
  have b1:=Int.emod_lt_of_pos (gY xs ((jj:Int) + kk)) (show (0:Int) < 10000 - n + 1 by omega)
  refine oz (tu xs (by omega)) (oz (gX _ (by omega) (by omega)) (oz (tu xs (by omega)) (oz (gX _ (by omega) (by omega)) (oz (r:=mV xs i jj kk n) ?_ ?_))))
  ·rw [w64 (n:=n + gY xs ((jj:Int) + kk) % (10000 - n + 1)) (by omega)]
   exact HW [10000,n,_] _ (by simp)
  ·refine oz (W9 hj n (mV xs i jj kk n) hN hc hkk) ?_
   rw [a6 (show jj < 7 by omega) (show 7≤1000000 by omega)]
theorem LK {σ τ : Type} {f : σ→Option (σ⊕τ)} {s s' : σ} {n:Nat} (h:f s=some (.inl s')) : ah f (n + 1) s=ah f n s':=by simp only [ah,h]
theorem vr {σ τ : Type} {f : σ→Option (σ⊕τ)} {s : σ} {r : τ} {n:Nat} (h:f s=some (.inr r)) : ah f (n + 1) s=some r:=by simp only [ah,h]
def E1 (sh:Int) (xs:List Int) (nl:Nat) (ps:List Tx) (k:Nat) (ds:List QD) : Prop:=∃ n,n + k=ab∧fO sh xs=Option.bind (ah (du (ps.map bT) xs) n (gC nl ds,(k:Int))) fun r=>Option.bind (ah (cP (ps.map bT) xs) ab (r.1,0)) fun r=>some r.1
def E3 (sh:Int) (xs:List Int) (nl:Nat) (ps:List Tx) (i:Nat) (ds:List QD) : Prop:=∃ n,n + i=ab∧fO sh xs=Option.bind (ah (cP (ps.map bT) xs) n (gC nl ds,(i:Int))) fun r=>some r.1
def E4 (sh:Int) (xs:List Int) (nl:Nat) (ps:List Tx) (i:Nat) (ks:List Tx) (kk:Nat) (ds:List QD) : Prop:=∃ n3,n3 + (i + 1)=ab∧∃ n,n + kk=ab∧fO sh xs=Option.bind (Option.bind (ah (dr xs (i:Int) (ks.map bT)) n (gC nl ds,(kk:Int))) fun r=>ah (cP (ps.map bT) xs) n3 (r.1,((i + 1:Nat) : Int))) fun r=>some r.1
def E5 (sh:Int) (xs:List Int) (nl:Nat) (ps:List Tx) (i:Nat) (ks:List Tx) (kk jj:Nat) (L:Int) (ds:List QD) : Prop:=∃ n3,n3 + (i + 1)=ab∧∃ n4,n4 + (kk + 1)=ab∧∃ n,n + jj=ab∧fO sh xs=Option.bind (Option.bind (Option.bind (ah (cU (ks.map bT) xs (i:Int) (kk:Int)) n (L,gC nl ds,(jj:Int))) fun r=>ah (dr xs (i:Int) (ks.map bT)) n4 (r.2.1,((kk + 1:Nat) : Int))) fun r=>ah (cP (ps.map bT) xs) n3 (r.1,((i + 1:Nat) : Int))) fun r=>some r.1
section
variable {sh:Int} {xs:List Int} {nl:Nat} {ps:List Tx} {ds:List QD}
theorem E1.step {k:Nat} (h:E1 sh xs nl ps k ds) (hnl:nl≤2) (hk:k < ps.length) (hps:ps.length≤7) (hds:ds.length≤7) : E1 sh xs nl ps (k + 1) (ds ++ [⟨ps[k],List.replicate nl rl,H0 xs k⟩]):=by
 obtain ⟨n,h1,h2⟩:=h
 obtain ⟨n,rfl⟩ : ∃ m,n=m + 1:=⟨n - 1,by unfold ab at h1; omega⟩
 rw [LK (QS hnl ps xs ds hk hps hds)] at h2
 exact ⟨n,by omega,h2⟩
theorem E1.end (h:E1 sh xs nl ps ps.length ds) (hps:ps.length≤7) : E3 sh xs nl ps 0 ds:=by
 obtain ⟨n,h1,h2⟩:=h
 obtain ⟨n,rfl⟩ : ∃ m,n=m + 1:=⟨n - 1,by unfold ab at h1; omega⟩
 rw [vr (r:=(gC nl ds,(ps.length:Int))) (by unfold du; simp)] at h2
 exact ⟨ab,rfl,h2⟩
theorem E3.open {i:Nat} (h:E3 sh xs nl ps i ds) (hi:i < ps.length) (hps:ps.length≤7) {y:Nat} (hy:ps=mn y) (hd:ds.map (·.path)=ps) : E4 sh xs nl ps i (B4 ps[i] ps) 0 ds:=by
 obtain ⟨n,h1,h2⟩:=h
 obtain ⟨n,rfl⟩ : ∃ m,n=m + 1:=⟨n - 1,by unfold ab at h1; omega⟩
 refine ⟨n,by omega,ab,rfl,h2.trans ?_⟩
 have e1:(ps.map bT)[i]? = some (bT ps[i]):=by simp [hi]
 have d1:decide ((i:Int) < ((ps.map bT).length:Int))=true:=by simp; omega
 congr 1
 rw [ah]
 unfold cP
 dsimp only
 rw [if_pos d1,aC e1]
 simp only [zb,YA nl hy hd (List.getElem_mem hi),a6 (show i < 7 by omega) (show 7≤1000000 by omega)]
 cases ah (dr xs (i:Int) ((B4 ps[i] ps).map bT)) ab (gC nl ds,0) <;> rfl
theorem E4.open {i kk:Nat} {ks:List Tx} (h:E4 sh xs nl ps i ks kk ds) (hk:kk < nl) (hnl:nl≤2) : E5 sh xs nl ps i ks kk 0 10000 ds:=by
 obtain ⟨n3,h3,n,h1,h2⟩:=h
 obtain ⟨n,rfl⟩ : ∃ m,n=m + 1:=⟨n - 1,by unfold ab at h1; omega⟩
 refine ⟨n3,h3,n,by omega,ab,rfl,h2.trans ?_⟩
 have hl:(gC nl ds).ak.length=nl:=by show ((CE nl).map bT).length=nl; rw [List.length_map,qy hnl]
 have d1:decide ((kk:Int) < ((gC nl ds).ak.length:Int))=true:=by rw [hl]; simpa using hk
 congr 1
 congr 1
 rw [ah]
 unfold dr
 dsimp only
 rw [if_pos d1]
 simp only [a6 (show kk < 7 by omega) (show 7≤1000000 by omega)]
 cases ah (cU (ks.map bT) xs (i:Int) (kk:Int)) ab (10000,gC nl ds,0) <;> rfl
theorem E5.step {i kk jj:Nat} {ks:List Tx} {L:Int} (h:E5 sh xs nl ps i ks kk jj L ds) (hj:jj < ks.length) (hks:ks.length≤7) (hi:i≤7) (hnl:nl≤2) (hkk:kk < nl) (h0 : 0≤L) (hL:L≤10000) (hN:ds.length≤7) (hc:∀ q∈ds,q.caps.length=nl) :
  E5 sh xs nl ps i ks kk (jj + 1) (L - nV xs i jj kk ks.length L) (iB ks[jj] kk (nV xs i jj kk ks.length L) (mV xs i jj kk (nV xs i jj kk ks.length L)) ds):=by
 obtain ⟨n3,h3,n4,h4,n,h1,h2⟩:=h
 obtain ⟨n,rfl⟩ : ∃ m,n=m + 1:=⟨n - 1,by unfold ab at h1; omega⟩
 rw [LK (QR hj hks hi hnl hkk h0 hL hN hc)] at h2
 exact ⟨n3,h3,n4,h4,n,by omega,h2⟩
theorem E5.end {i kk:Nat} {ks:List Tx} {L:Int} (h:E5 sh xs nl ps i ks kk ks.length L ds) (hks:ks.length≤7) : E4 sh xs nl ps i ks (kk + 1) ds:=by
 obtain ⟨n3,h3,n4,h4,n,h1,h2⟩:=h
 obtain ⟨n,rfl⟩ : ∃ m,n=m + 1:=⟨n - 1,by unfold ab at h1; omega⟩
 rw [vr (r:=(L,gC nl ds,(ks.length:Int))) (by unfold cU; simp)] at h2
 exact ⟨n3,h3,n4,h4,h2⟩
theorem E4.end {i:Nat} {ks:List Tx} (h:E4 sh xs nl ps i ks nl ds) (hnl:nl≤2) : E3 sh xs nl ps (i + 1) ds:=by
 obtain ⟨n3,h3,n,h1,h2⟩:=h
 obtain ⟨n,rfl⟩ : ∃ m,n=m + 1:=⟨n - 1,by unfold ab at h1; omega⟩
 have hl:(gC nl ds).ak.length=nl:=by show ((CE nl).map bT).length=nl; rw [List.length_map,qy hnl]
 rw [vr (r:=(gC nl ds,(nl:Int))) (by unfold dr; simp [hl])] at h2
 exact ⟨n3,h3,h2⟩
theorem E3.end (h:E3 sh xs nl ps ps.length ds) (hps:ps.length≤7) : fO sh xs=some (gC nl ds):=by
 obtain ⟨n,h1,h2⟩:=h
 obtain ⟨n,rfl⟩ : ∃ m,n=m + 1:=⟨n - 1,by unfold ab at h1; omega⟩
 rw [vr (r:=(gC nl ds,(ps.length:Int))) (by unfold cP; simp)] at h2
 exact h2
end
theorem E1.start (sh:Int) (xs:List Int) {nl y:Nat} (hnl:(nl:Int)=1 + i64.wrap (sh.tdiv 5) % 2) (hy:(y:Int)=sh % 5) : E1 sh xs nl (mn y) 0 []:=by
 refine ⟨ab,rfl,?_⟩
 have h0:=Int.emod_nonneg (i64.wrap (sh.tdiv 5)) (show (2:Int)≠0 by decide)
 have h1:=Int.emod_lt_of_pos (i64.wrap (sh.tdiv 5)) (show (0:Int) < 2 by decide)
 have y0:=Int.emod_nonneg sh (show (5:Int)≠0 by decide)
 have y1:=Int.emod_lt_of_pos sh (show (0:Int) < 5 by decide)
 unfold fO
 dsimp only
 refine oz (gX _ (by decide) (by decide)) ?_
 rw [w64 (n:=1 + i64.wrap (sh.tdiv 5) % 2) (by omega),← hnl]
 refine oz (nZ (by simp; omega)) (oz (gX _ (by decide) (by decide)) ?_)
 rw [← hy]
 have hy5:y < 5:=by omega
 refine oz (r:=(mn y).map bT) ?_ ?_
 ·rcases y with _ | _ | _ | _ | _ | y
  all_goals first | rfl | omega
 ·have e:(⟨List.take nl [(⟨#[]⟩ : ByteArray),⟨#[103,112,117]⟩],[]⟩ : aw)=gC nl []:=by
   unfold gC CE
   rw [List.map_take]
   rfl
  rw [e]
  rfl
end
theorem df {w:World} {b:Nat} {cs:Array Value} {t:TypeId} (h:w.heap[b]? = some (.cells cs t (0,0))) (j:Nat) (v:Value) (hv:cs[j]? = some v) : w.cell? ⟨b,j,none⟩=some v:=by
 rw [cell_of_row w b j cs t (0,0) h,hv]
theorem rS {w:World} {b:Nat} {cs:Array Value} {t:TypeId} (h:w.heap[b]? = some (.cells cs t (0,0))) (j:Nat) : w.frozen? ⟨b,j,none⟩=false:=by
 simp [World.frozen?,h]
noncomputable def rF (w:World) : World:=((((((((w.alloc (Obj.cells #[Value.slice none 0 0,Value.slice none 0 0] 36)).alloc (Obj.cells #[Value.string { data:=#[114,111,111,116] }] 9)).alloc (Obj.cells #[Value.string { data:=#[114,111,111,116] },Value.string { data:=#[114,111,111,116,46,97] },Value.string { data:=#[114,111,111,116,46,98] }] 9)).alloc (Obj.cells #[Value.string { data:=#[114,111,111,116] },Value.string { data:=#[114,111,111,116,46,97] },Value.string { data:=#[114,111,111,116,46,97,46,120] },Value.string { data:=#[114,111,111,116,46,97,46,121] },Value.string { data:=#[114,111,111,116,46,98] }] 9)).alloc (Obj.cells #[Value.string { data:=#[114,111,111,116] },Value.string { data:=#[114,111,111,116,46,97] },Value.string { data:=#[114,111,111,116,46,98] },Value.string { data:=#[114,111,111,116,46,98,46,120] },Value.string { data:=#[114,111,111,116,46,98,46,120,46,112] },Value.string { data:=#[114,111,111,116,46,98,46,120,46,113] },Value.string { data:=#[114,111,111,116,46,99] }] 9)).alloc (Obj.cells #[Value.string { data:=#[114,111,111,116] },Value.string { data:=#[114,111,111,116,46,97] }] 9)).alloc (Obj.cells #[Value.slice (some { block:=w.heap.size + 1,off:=0 }) 1 1,Value.slice (some { block:=w.heap.size + 1 + 1,off:=0 }) 3 3,Value.slice (some { block:=w.heap.size + 1 + 1 + 1,off:=0 }) 5 5,Value.slice (some { block:=w.heap.size + 1 + 1 + 1 + 1,off:=0 }) 7 7,Value.slice (some { block:=w.heap.size + 1 + 1 + 1 + 1 + 1,off:=0 }) 2 2] 33)).alloc (Obj.cells #[Value.string { data:=#[] },Value.string { data:=#[103,112,117] }] 9))
theorem S4 (w:World) : Ext w (rF w):=(((((((aO w _).trans (aO _ _)).trans (aO _ _)).trans (aO _ _)).trans (aO _ _)).trans (aO _ _)).trans (aO _ _)).trans (aO _ _)
theorem ON (w:World) : (rF w).heap.size=w.heap.size + 8:=by simp [rF]
theorem S3 (w:World) : (rF w).heap[w.heap.size]? = some (.cells #[.slice none 0 0,.slice none 0 0] 36 (0,0)):=by
 have h:=heap_alloc_new w (.cells #[.slice none 0 0,.slice none 0 0] 36 (0,0))
 have x:Ext (w.alloc (.cells #[.slice none 0 0,.slice none 0 0] 36 (0,0))) (rF w):=((((((aO _ _).trans (aO _ _)).trans (aO _ _)).trans (aO _ _)).trans (aO _ _)).trans (aO _ _)).trans (aO _ _)
 exact (x.block _ (Array.getElem?_eq_some_iff.1 h).1).trans h
theorem OP (w:World) : (rF w).heap[w.heap.size + 1 + 1 + 1 + 1 + 1 + 1 + 1]? = some (.cells #[.string ⟨#[]⟩,.string ⟨#[103,112,117]⟩] 9 (0,0)):=by
 have e:∀ (W1:World) (o:Obj) (n:Nat),W1.heap.size=n→(W1.alloc o).heap[n]? = some o:=by intro W1 o n h; subst h; exact heap_alloc_new W1 o
 unfold rF
 exact e _ _ _ (by simp)
theorem OM (w:World) (y:Nat) (hy:y < 5) : (rF w).cell? ⟨w.heap.size + 1 + 1 + 1 + 1 + 1 + 1,y,none⟩=some (.slice (some ⟨w.heap.size + 1 + y,0,none⟩) (mn y).length (mn y).length):=by
 unfold rF
 rcases y with _ | _ | _ | _ | _ | y
 all_goals first | omega | (simp [go_sem,mn,Nat.add_assoc])
theorem OO (w:World) (y:Nat) (hy:y < 5) (i:Nat) (hi:i < (mn y).length) : (rF w).cell? ⟨w.heap.size + 1 + y,i,none⟩=some (.string ⟨((mn y)[i]).toArray⟩):=by
 unfold rF
 rcases y with _ | _ | _ | _ | _ | y
 all_goals first | omega | skip
 all_goals (rcases i with _ | _ | _ | _ | _ | _ | _ | i)
 all_goals first | (exfalso; simp [mn] at hi; done) | (exfalso; simp [mn] at hi; omega) | (simp [go_sem,mn,Nat.add_assoc])
theorem yq (v:Value) (xs:List Int) (i:Int) (w:World) (r0:Rd w v (xs.map (Value.int .i64))) (hn:xs.length≤9223372036854775807) (h0 : 0≤i) (h1:i≤1000000) :
  Calls prog 56 #[v,.int .i64 i] w fun e w'=>(∃ a:Int,e = .returned (.int .i64 a)∧a=gY xs i)∧w=w':=by
 obtain ⟨A,N,c,rfl,hN,hc1,hc2,hcell⟩:=HR r0
 have HC:=Lib.hid hcell
 have HN:=Lib.hid hN
 have hN1:N≤9223372036854775807:=by omega
 clear hcell hN r0
 by_cases hz:N=0
 ·subst hz
  have hp:gY xs i=i:=by unfold gY; rw [if_pos (by have:=HN.out; omega)]
  rw [hp]
  clear hp
  go_enter Tryz.func56,Tryz.ntmps56
  go_wp2
  go_ret
  exact ⟨⟨_,rfl,rfl⟩,rfl⟩
 ·have q0:((N:Int)==0)=false:=by simp; omega
  obtain ⟨m,hm⟩ : ∃ m:Nat,i % (N:Int)=(m:Int):=⟨(i % (N:Int)).toNat,by have:=Int.emod_nonneg i (show (N:Int)≠0 by omega); omega⟩
  have hmN:m < N:=by have:=Int.emod_lt_of_pos i (show (0:Int) < N by omega); omega
  obtain ⟨a,rfl,hb,hcs⟩:=HC.out (by omega)
  have h3:=hcs m (by have:=HN.out; omega)
  have n1:(1:Int)≤(N:Int):=by omega
  have m0:(0:Int)≤(m:Int):=by omega
  have m1:(m:Int) < (N:Int):=by omega
  have hp:gY xs i=xs[m]'(by have:=HN.out; omega):=by
   unfold gY
   rw [if_neg (by have:=HN.out; omega),show (xs.length:Int)=(N:Int) by have:=HN.out; omega,hm]
   simp [List.getD,zq (show m < xs.length by have:=HN.out; omega)]
  generalize xs[m]'(by have:=HN.out; omega)=x at h3 hp
  rw [hp]
  clear hp
  clear hcs
  go_enter Tryz.func56,Tryz.ntmps56
  go_wp2
  go_ret
  exact ⟨⟨_,rfl,rfl⟩,rfl⟩
end Go.Proofs.YtmjkjaahbgikjaaGreat
