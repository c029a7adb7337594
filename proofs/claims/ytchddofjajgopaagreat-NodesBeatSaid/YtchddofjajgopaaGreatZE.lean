/- My texts, in one. -/
import Derived.Test.YtchddofjajgopaaGreatZD
set_option linter.all false
set_option maxRecDepth 100000
set_option maxHeartbeats 4000000
namespace Go.Proofs.YtchddofjajgopaaGreat
open Go.RowKit
open IntKind (i64)
open Go.Proofs.Tryz (prog)
def iH (iL:(List ByteArray)) (av:ByteArray) (st:Unit) (x_:ByteArray) : Option ((Unit)⊕((Int)⊕(Bool))) :=
 if (x_.toList==av.toList)=true then
 some (.inr (.inr true))
 else
 some (.inl ())
theorem xT (iL:(List ByteArray)) (av:ByteArray) (a_:Unit) (hl:iL.length≤1000000) : ah (kg iL av) ab (0)=bk (iH iL av) (fun a_=>(.inl ((iL.length:Int)))) a_ iL :=
 ay iL (S:=Int) (fun a_ k_=>(k_)) (iH iL av) (fun a_=>(.inl ((iL.length:Int)))) (an hl) (fun k a x hx=>by
  unfold kg iH; exact bI)
  (fun a=>by unfold kg; exact cE) a_
def gp (v_s:aa) (af:Int) (av:ByteArray) (ym:Bool) (mu:Int) (st:aw) (x_:am) : Option ((aw)⊕((aw×Int))) :=
 let v_v:=st
 (eG v_s x_.bF).bind fun c11=>let v_a:aC:=c11.1
 let bS:Bool:=c11.2
 (if bS=true then some (x_.aP==af) else some false).bind fun q12=>(if q12=true then (mY v_a.bP av).bind fun c13=>some c13 else some false).bind fun q14=>(if q14=true then (if ym=true then some true else some (v_a.cZ==mu)).bind fun q15=>some q15 else some false).bind fun q16=>if q16=true then
 (db v_v x_.cp).bind fun c17=>let v_v:aw:=c17
 some (.inl v_v)
 else
 some (.inl v_v)
theorem Ae (v_s:aa) (af:Int) (av:ByteArray) (ym:Bool) (mu:Int) (a_:aw) (hl:v_s.ac.length≤1000000) : ah (lZ v_s af av ym mu) ab (a_,(0))=bk (gp v_s af av ym mu) (fun a_=>(a_,((v_s.ac.length:Int)))) a_ v_s.ac :=
 ay v_s.ac (S:=aw×Int) (fun a_ k_=>(a_,(k_))) (gp v_s af av ym mu) (fun a_=>(a_,((v_s.ac.length:Int)))) (an hl) (fun k a x hx=>by
  unfold lZ gp; exact bI)
  (fun a=>by unfold lZ; exact cE) a_
def dR (v_s:aa) (af:Int) (av:ByteArray) (st:aw) (x_:aC) : Option ((aw)⊕((aw×Int))) :=
 let v_v:=st
 (dx x_).bind fun c9=>(if c9=true then (mY x_.bP av).bind fun c10=>some c10 else some false).bind fun q11=>if q11=true then
 (kz x_.bL af).bind fun c12=>(db v_v c12).bind fun c13=>let v_v:aw:=c13
 some (.inl v_v)
 else
 some (.inl v_v)
theorem va (v_s:aa) (af:Int) (av:ByteArray) (a_:aw) (hl:v_s.aq.length≤1000000) : ah (iI v_s af av) ab (a_,(0))=bk (dR v_s af av) (fun a_=>(a_,((v_s.aq.length:Int)))) a_ v_s.aq :=
 ay v_s.aq (S:=aw×Int) (fun a_ k_=>(a_,(k_))) (dR v_s af av) (fun a_=>(a_,((v_s.aq.length:Int)))) (an hl) (fun k a x hx=>by
  unfold iI dR; exact bI)
  (fun a=>by unfold iI; exact cE) a_
def gr (iL:(List ByteArray)) (v_s:aa) (af:Int) (sG:aw) (st:Unit) (x_:ByteArray) : Option ((Unit)⊕((Int)⊕(Bool))) :=
 (eB v_s x_ af).bind fun c14=>(db c14 sG).bind fun c15=>let v_v:aw:=c15
 (vL v_s x_ af).bind fun c16=>(fF v_v c16).bind fun c17=>if (!c17)=true then
 some (.inr (.inr false))
 else
 (if (x_.toList==(⟨#[114,111,111,116]⟩ : ByteArray).toList)=true then (iX v_s af).bind fun c18=>(th v_s af).bind fun c19=>(vP c18 c19).bind fun c20=>(fF v_v c20).bind fun c21=>some (!c21) else some false).bind fun q22=>if q22=true then
 some (.inr (.inr false))
 else
 some (.inl ())
theorem Ah (iL:(List ByteArray)) (v_s:aa) (af:Int) (sG:aw) (a_:Unit) (hl:iL.length≤1000000) : ah (l5 iL v_s af sG) ab (0)=bk (gr iL v_s af sG) (fun a_=>(.inl ((iL.length:Int)))) a_ iL :=
 ay iL (S:=Int) (fun a_ k_=>(k_)) (gr iL v_s af sG) (fun a_=>(.inl ((iL.length:Int)))) (an hl) (fun k a x hx=>by
  unfold l5 gr; exact bI)
  (fun a=>by unfold l5; exact cE) a_
def iW (v_l:(List aQ)) (v_a:aQ) (st:(List aQ)×Bool) (x_:aQ) : Option (((List aQ)×Bool)⊕(((List aQ)×Bool×Int))) :=
 let al:=st.1
 let cw:=st.2
 (if (!cw)=true then some (decide (x_.bw > v_a.bw)) else some false).bind fun q8=>(if q8=true then
 (aX al [v_a]).bind fun b10=>let al:(List aQ):=b10
 let cw:Bool:=true
 some (al,cw)
 else
 some (al,cw)).bind fun j9=>let al:=j9.1
 let cw:=j9.2
 if (x_.bw != v_a.bw)=true then
 (aX al [x_]).bind fun b11=>let al:(List aQ):=b11
 some (.inl (al,cw))
 else
 some (.inl (al,cw))
theorem C0 (v_l:(List aQ)) (v_a:aQ) (a_:(List aQ)×Bool) (hl:v_l.length≤1000000) : ah (oX v_l v_a) ab (a_.1,a_.2,(0))=bk (iW v_l v_a) (fun a_=>(a_.1,a_.2,((v_l.length:Int)))) a_ v_l :=
 ay v_l (S:=(List aQ)×Bool×Int) (fun a_ k_=>(a_.1,a_.2,(k_))) (iW v_l v_a) (fun a_=>(a_.1,a_.2,((v_l.length:Int)))) (an hl) (fun k a x hx=>by
  unfold oX iW; exact bI)
  (fun a=>by unfold oX; exact cE) a_
def lx (v_l:(List aQ)) (cG:Int) (st:Unit) (x_:aQ) : Option ((Unit)⊕((Int)⊕(aQ×Bool))) :=
 if (x_.bw==cG)=true then
 some (.inr (.inr (x_,true)))
 else
 some (.inl ())
theorem C1 (v_l:(List aQ)) (cG:Int) (a_:Unit) (hl:v_l.length≤1000000) : ah (oY v_l cG) ab (0)=bk (lx v_l cG) (fun a_=>(.inl ((v_l.length:Int)))) a_ v_l :=
 ay v_l (S:=Int) (fun a_ k_=>(k_)) (lx v_l cG) (fun a_=>(.inl ((v_l.length:Int)))) (an hl) (fun k a x hx=>by
  unfold oY lx; exact bI)
  (fun a=>by unfold oY; exact cE) a_
def g5 (v_l:(List aQ)) (cG:Int) (st:Bool×(List aQ)) (x_:aQ) : Option ((Bool×(List aQ))⊕((Bool×(List aQ)×Int))) :=
 let bS:=st.1
 let al:=st.2
 let v_a:aQ:=x_
 if (v_a.bw==cG)=true then
 let bS:Bool:=true
 let t6:Int:=(i64.wrap (v_a.gG - 1))
 let t7:Int:=0
 let v_a:aQ:={ v_a with gG:=t6 }
 let v_a:aQ:={ v_a with iE:=t7 }
 if (decide (v_a.gG≤0))=true then
 some (.inl (bS,al))
 else
 (aX al [v_a]).bind fun b8=>let al:(List aQ):=b8
 some (.inl (bS,al))
 else
 (aX al [v_a]).bind fun b9=>let al:(List aQ):=b9
 some (.inl (bS,al))
theorem Bz (v_l:(List aQ)) (cG:Int) (a_:Bool×(List aQ)) (hl:v_l.length≤1000000) : ah (ni v_l cG) ab (a_.1,a_.2,(0))=bk (g5 v_l cG) (fun a_=>(a_.1,a_.2,((v_l.length:Int)))) a_ v_l :=
 ay v_l (S:=Bool×(List aQ)×Int) (fun a_ k_=>(a_.1,a_.2,(k_))) (g5 v_l cG) (fun a_=>(a_.1,a_.2,((v_l.length:Int)))) (an hl) (fun k a x hx=>by
  unfold ni g5; exact bI)
  (fun a=>by unfold ni; exact cE) a_
def ej (v_l:(List aQ)) (af:Int) (st:aw) (x_:aQ) : Option ((aw)⊕((aw×Int))) :=
 let v_v:=st
 if (x_.aP==af)=true then
 (db v_v (⟨(i64.wrap (x_.cp.br * x_.gG)),(i64.wrap (x_.cp.aV * x_.gG))⟩ : aw)).bind fun c7=>let v_v:aw:=c7
 some (.inl v_v)
 else
 some (.inl v_v)
theorem wj (v_l:(List aQ)) (af:Int) (a_:aw) (hl:v_l.length≤1000000) : ah (jp v_l af) ab (a_,(0))=bk (ej v_l af) (fun a_=>(a_,((v_l.length:Int)))) a_ v_l :=
 ay v_l (S:=aw×Int) (fun a_ k_=>(a_,(k_))) (ej v_l af) (fun a_=>(a_,((v_l.length:Int)))) (an hl) (fun k a x hx=>by
  unfold jp ej; exact bI)
  (fun a=>by unfold jp; exact cE) a_
def Pu (a b:aw) : aw:=⟨i64.wrap (a.br + b.br),i64.wrap (a.aV + b.aV)⟩
def Yg (a b:aw) : Bool:=decide (a.br≤b.br)&&decide (a.aV≤b.aV)
def inV (n:Int) : Bool:=decide (n≥0)&&decide (n≤1125899906842624)
def G0 (a:aw) : Bool:=inV a.br&&inV a.aV
theorem ek (a b:aw) : db a b=some (Pu a b):=rfl
theorem kC (a b:aw) : fF a b=some (Yg a b):=by unfold fF Yg; simp only [dN,zb]
theorem P5 (n:Int) : zu n=some (inV n):=by unfold zu inV; simp only [dN,zb]
theorem Je (a:aw) : tp a=some (G0 a):=by unfold tp G0; simp only [P5,dN,zb]
def VY (a b:aw) : aw:=(vP a b).getD aw.zero
theorem F6 (a b:aw) : vP a b=some (VY a b):=rfl
def xh (n bp:Int) : Int:=(uQ n bp).getD 0
theorem Np (n bp:Int) : uQ n bp=some (xh n bp):=rfl
def ZR (a b:Int) : Int×Int:=(zr a b).getD (0,0)
theorem P2 (a b:Int) : zr a b=some (ZR a b):=rfl
def Px (a:aw) (bp:Int) : aw×Int :=
 if (!G0 a||decide (bp < 0)||decide (bp > 1000000))=true then (aw.zero,1)
 else if G0 ⟨xh a.br bp,xh a.aV bp⟩=true then (⟨xh a.br bp,xh a.aV bp⟩,0) else (aw.zero,11)
theorem CA (a:aw) (bp:Int) : uR a bp=some (Px a bp):=by
 unfold uR Px
 simp only [Je,orB,zb,Np]
 generalize (!G0 a||decide (bp < 0)||decide (bp > 1000000))=b1
 generalize G0 ⟨xh a.br bp,xh a.aV bp⟩=b2
 cases b1 <;> cases b2 <;> rfl
theorem sJ {α : Type} (c:Bool) (a b : α) : (if c=true then some a else some b)=some (if c=true then a else b):=by cases c <;> rfl
def JQ (x y:bb) : Int:=(pW x y).getD 0
theorem Cz (x y:bb) : pW x y=some (JQ x y):=by
 unfold JQ
 have:∃ r,pW x y=some r:=by
  unfold pW
  simp only [orB,dN,zb,P2,sJ]
  exact ⟨_,rfl⟩
 obtain ⟨r,hr⟩:=this
 rw [hr]
 rfl
def RL (a p:aw) : bb:=if decide (JQ ⟨a.br,p.br⟩ ⟨a.aV,p.aV⟩ < 0)=true then ⟨a.aV,p.aV⟩ else ⟨a.br,p.br⟩
theorem P7 (a p:aw) : zv a p=some (RL a p):=by
 unfold zv RL
 simp only [Cz,zb,sJ]
def Xf (a p b q:aw) : Int:=if (!G0 a || !G0 p || !G0 b || !G0 q)=true then 0 else JQ (RL a p) (RL b q)
theorem Nr (a p b q:aw) : zw a p b q=some (Xf a p b q):=by
 unfold zw Xf
 simp only [Je,orB,zb,P7,Cz]
 simp only [sJ]
theorem Py (n:Int) : y7 n=some (decide (n≥1)&&decide (n≤1073741824)):=by
 unfold y7
 simp only [dN,zb]
def aah (a:aQ) (n:Int) : Int:=(pK a n).getD 0
theorem Na (a:aQ) (n:Int) : pK a n=some (aah a n):=by
 have:∃ r,pK a n=some r:=by
  unfold pK
  simp only [Py,orB,dN,zb]
  simp only [sJ]
  exact ⟨_,rfl⟩
 obtain ⟨r,hr⟩:=this
 unfold aah
 rw [hr]; rfl
theorem TZ (l:List aQ) (a:aQ) (hl:l.length≤100000) : ∃ r,FO l a=some r∧r.1.length≤8:=by
 unfold FO
 dsimp only
 rw [C0 l { a with iE:=0 } ([],a.gG==0) (by omega)]
 obtain ⟨r,h1,h2⟩:=aW (g:=iW l { a with iE:=0 }) (fin:=fun b=>(b.1,b.2,(l.length:Int))) (fun k b=>b.1.length≤2 * k) (fun r=>r.1.length≤2 * l.length) l 0 ([],a.gG==0) (fun j b x hx hb=>by
  have hj:=(zg.1 hx).1
  unfold iW
  simp only [dN,zb]
  cases (!b.2&&decide (x.bw > a.bw)) with
  | true =>
   simp only [if_true]
   rw [aF (by simp; omega)]
   simp only [zb]
   cases (x.bw != a.bw) with
   | true =>
    simp only [if_true]
    rw [aF (by simp; omega)]
    exact ⟨_,rfl,fun a' e=>by injection e with e; subst e; simp; omega,fun r e=>by cases e⟩
   | false =>
    exact ⟨_,rfl,fun a' e=>by injection e with e; subst e; simp; omega,fun r e=>by cases e⟩
  | false =>
   simp only [zf,if_false,zb]
   cases (x.bw != a.bw) with
   | true =>
    simp only [if_true]
    rw [aF (by simp; omega)]
    exact ⟨_,rfl,fun a' e=>by injection e with e; subst e; simp; omega,fun r e=>by cases e⟩
   | false =>
    exact ⟨_,rfl,fun a' e=>by injection e with e; subst e; show b.1.length≤_; omega,fun r e=>by cases e⟩) (fun b hb=>by simpa using hb) (by simp)
 rw [h1]
 simp only [zb]
 have fin:∀ o:List aQ,∃ r,(if decide ((o.length:Int) > 8)=true then some (([] : List aQ),(4:Int)) else some (o,0))=some r∧r.1.length≤8:=by
  intro o
  by_cases h:(o.length:Int) > 8
  ·simp only [h,decide_true,if_true]; exact ⟨_,rfl,by simp⟩
  ·simp only [h,decide_false,zf,if_false]; exact ⟨_,rfl,by show o.length≤8; omega⟩
 cases (!r.2.1) with
 | true =>
  simp only [if_true]
  rw [aF (by simp; omega)]
  exact fin _
 | false=>exact fin _
def Wb (l:List aQ) (p:Int) : aQ:=(l.find? fun x=>x.bw==p).getD aQ.zero
def isA (l:List aQ) (p:Int) : Bool:=l.any fun x=>x.bw==p
theorem T2 (l:List aQ) (p:Int) (hl:l.length≤1000000) : KG l p=some (Wb l p,isA l p):=by
 unfold KG
 dsimp only
 rw [C1 l p () hl]
 have h2:=sO (fun x:aQ=>x.bw==p) (fun x=>(Sum.inr (x,true) : Int⊕aQ×Bool)) (.inl (l.length:Int)) l
 rw [show lx l p=fun (_:Unit) x=>if (x.bw==p)=true then some (.inr (.inr (x,true))) else some (.inl ()) from rfl,h2]
 unfold Wb isA
 cases hf:l.find? fun x=>x.bw==p with
 | none =>
  have:(l.any fun x=>x.bw==p)=false:=by
   rw [List.any_eq_false]; intro x hx; have:=List.find?_eq_none.1 hf x hx; simpa using this
  rw [this]; rfl
 | some q =>
  have:(l.any fun x=>x.bw==p)=true:=by
   rw [List.any_eq_true]; exact ⟨q,List.mem_of_find?_eq_some hf,by simpa using List.find?_some hf⟩
  rw [this]; rfl
theorem Pz (l:List aQ) (p:Int) (hl:l.length≤1000000) : ∃ r,DA l p=some r∧r.1.length≤l.length:=by
 unfold DA
 dsimp only
 rw [Bz l p (false,[]) hl]
 obtain ⟨r,h1,h2⟩:=aW (g:=g5 l p) (fin:=fun b=>(b.1,b.2,(l.length:Int))) (fun k b=>b.2.length≤k) (fun r=>r.2.1.length≤l.length) l 0 (false,[]) (fun j b x hx hb=>by
  have hj:=(zg.1 hx).1
  unfold g5
  dsimp only
  split
  ·split
   ·exact ⟨_,rfl,fun a' e=>by injection e with e; subst e; show b.2.length≤_; omega,fun r e=>by cases e⟩
   ·rw [aF (by simp; omega)]
    exact ⟨_,rfl,fun a' e=>by injection e with e; subst e; simp; omega,fun r e=>by cases e⟩
  ·rw [aF (by simp; omega)]
   exact ⟨_,rfl,fun a' e=>by injection e with e; subst e; simp; omega,fun r e=>by cases e⟩) (fun b hb=>by simpa using hb) (by simp)
 rw [h1]
 exact ⟨_,rfl,h2⟩
theorem PA (l:List aQ) (p:Int) (hl:l.length≤1000000) : ∃ r,DB l p=some r∧r.length=l.length:=by
 unfold DB
 rw [aF (by simpa using hl)]
 simp only [zb,List.nil_append]
 have h:=aJ (f:=qZ p) (fun st=>st.1.length=l.length∧0≤st.2∧st.2≤(l.length:Int)) (fun st=>((l.length:Int) - st.2).toNat) (fun st=>st.1.length=l.length) (fun st ⟨h1,h2,h3⟩=>by
  unfold qZ
  dsimp only
  by_cases hi:st.2 < (st.1.length:Int)
  ·obtain ⟨x,hx,_⟩:=Mj h2 hi
   have hw:i64.wrap (st.2 + 1)=st.2 + 1:=Ht (by omega) (by omega)
   simp only [hi,decide_true,if_true,hx,zb,hw]
   split
   ·exact .inl ⟨_,rfl,⟨by simpa using h1,by show 0≤st.2 + 1; omega,by show st.2 + 1≤_; omega⟩,by show ((l.length:Int) - (st.2 + 1)).toNat < ((l.length:Int) - st.2).toNat; omega⟩
   ·exact .inl ⟨_,rfl,⟨h1,by show 0≤st.2 + 1; omega,by show st.2 + 1≤_; omega⟩,by show ((l.length:Int) - (st.2 + 1)).toNat < ((l.length:Int) - st.2).toNat; omega⟩
  ·simp only [hi,decide_false,zf,if_false]
   exact .inr ⟨_,rfl,h1⟩) ab (l,0) ⟨rfl,Int.le_refl _,Int.natCast_nonneg _⟩ (by show ((l.length:Int) - 0).toNat < ab; unfold ab; omega)
 obtain ⟨r,h1,h2⟩:=h
 rw [h1]
 exact ⟨_,rfl,h2⟩
def YU (l:List aQ) (k:Int) : aw:=(kz l k).getD aw.zero
theorem Hb (l:List aQ) (k:Int) (hl:l.length≤1000000) : kz l k=some (YU l k):=by
 have:∃ r,kz l k=some r:=by
  unfold kz
  dsimp only
  rw [wj l k ⟨0,0⟩ hl]
  obtain ⟨r,h1,_⟩:=aW (g:=ej l k) (fin:=fun a=>(a,(l.length:Int))) (fun _ _=>True) (fun _=>True) l 0 ⟨0,0⟩ (fun j a x hx _=>by
   unfold ej
   simp only [ek,zb,sJ]
   exact ⟨_,rfl,fun _ _=>trivial,fun _ _=>trivial⟩) (fun _ _=>trivial) trivial
  rw [h1]
  exact ⟨_,rfl⟩
 obtain ⟨r,hr⟩:=this
 unfold YU
 rw [hr]; rfl
def jF (v_s:aa) (bA:Int) (st:Unit) (x_:aC) : Option ((Unit)⊕((Int)⊕(aC×Bool))) :=
 if (x_.fId==bA)=true then
 some (.inr (.inr (x_,true)))
 else
 some (.inl ())
theorem An (v_s:aa) (bA:Int) (a_:Unit) (hl:v_s.aq.length≤1000000) : ah (l9 v_s bA) ab (0)=bk (jF v_s bA) (fun a_=>(.inl ((v_s.aq.length:Int)))) a_ v_s.aq :=
 ay v_s.aq (S:=Int) (fun a_ k_=>(k_)) (jF v_s bA) (fun a_=>(.inl ((v_s.aq.length:Int)))) (an hl) (fun k a x hx=>by
  unfold l9 jF; exact bI)
  (fun a=>by unfold l9; exact cE) a_
def eD (v_s:aa) (st:Bool×(List aC)) (x_:aC) : Option ((Bool×(List aC))⊕((Bool×(List aC)×Int))) :=
 let cw:=st.1
 let v_l:=st.2
 (if (!cw)=true then (dx x_).bind fun c6=>some (!c6) else some false).bind fun q7=>if q7=true then
 let cw:Bool:=true
 some (.inl (cw,v_l))
 else
 (aX v_l [x_]).bind fun b8=>let v_l:(List aC):=b8
 some (.inl (cw,v_l))
theorem wv (v_s:aa) (a_:Bool×(List aC)) (hl:v_s.aq.length≤1000000) : ah (jC v_s) ab (a_.1,a_.2,(0))=bk (eD v_s) (fun a_=>(a_.1,a_.2,((v_s.aq.length:Int)))) a_ v_s.aq :=
 ay v_s.aq (S:=Bool×(List aC)×Int) (fun a_ k_=>(a_.1,a_.2,(k_))) (eD v_s) (fun a_=>(a_.1,a_.2,((v_s.aq.length:Int)))) (an hl) (fun k a x hx=>by
  unfold jC eD; exact bI)
  (fun a=>by unfold jC; exact cE) a_
def eE (v_s:aa) (st:Int) (x_:aC) : Option ((Int)⊕((Int×Int))) :=
 let kX:=st
 (dx x_).bind fun c13=>if c13=true then
 let kX:Int:=(i64.wrap (kX + 1))
 some (.inl kX)
 else
 some (.inl kX)
theorem ww (v_s:aa) (a_:Int) (hl:v_s.aq.length≤1000000) : ah (jD v_s) ab (a_,(0))=bk (eE v_s) (fun a_=>(a_,((v_s.aq.length:Int)))) a_ v_s.aq :=
 ay v_s.aq (S:=Int×Int) (fun a_ k_=>(a_,(k_))) (eE v_s) (fun a_=>(a_,((v_s.aq.length:Int)))) (an hl) (fun k a x hx=>by
  unfold jD eE; exact bI)
  (fun a=>by unfold jD; exact cE) a_
def gv (v_s:aa) (bA:Int) (st:(List Int)×(List am)) (x_:am) : Option (((List Int)×(List am))⊕(((List Int)×(List am)×Int))) :=
 let jJ:=st.1
 let v_l:=st.2
 if (x_.bF==bA)=true then
 (aX jJ [x_.fId]).bind fun b6=>let jJ:(List Int):=b6
 some (.inl (jJ,v_l))
 else
 (aX v_l [x_]).bind fun b7=>let v_l:(List am):=b7
 some (.inl (jJ,v_l))
theorem Aj (v_s:aa) (bA:Int) (a_:(List Int)×(List am)) (hl:v_s.ac.length≤1000000) : ah (l7 v_s bA) ab (a_.1,a_.2,(0))=bk (gv v_s bA) (fun a_=>(a_.1,a_.2,((v_s.ac.length:Int)))) a_ v_s.ac :=
 ay v_s.ac (S:=(List Int)×(List am)×Int) (fun a_ k_=>(a_.1,a_.2,(k_))) (gv v_s bA) (fun a_=>(a_.1,a_.2,((v_s.ac.length:Int)))) (an hl) (fun k a x hx=>by
  unfold l7 gv; exact bI)
  (fun a=>by unfold l7; exact cE) a_
def gu (v_s:aa) (bA:Int) (st:(List bu)) (x_:bu) : Option (((List bu))⊕(((List bu)×Int))) :=
 let iz:=st
 if (x_.bF != bA)=true then
 (aX iz [x_]).bind fun b10=>let iz:(List bu):=b10
 some (.inl iz)
 else
 some (.inl iz)
theorem Ai (v_s:aa) (bA:Int) (a_:(List bu)) (hl:v_s.aU.length≤1000000) : ah (l6 v_s bA) ab (a_,(0))=bk (gu v_s bA) (fun a_=>(a_,((v_s.aU.length:Int)))) a_ v_s.aU :=
 ay v_s.aU (S:=(List bu)×Int) (fun a_ k_=>(a_,(k_))) (gu v_s bA) (fun a_=>(a_,((v_s.aU.length:Int)))) (an hl) (fun k a x hx=>by
  unfold l6 gu; exact bI)
  (fun a=>by unfold l6; exact cE) a_
def jG (v_s:aa) (bA:Int) (st:Unit) (x_:am) : Option ((Unit)⊕((Int)⊕(am×Bool))) :=
 if (x_.fId==bA)=true then
 some (.inr (.inr (x_,true)))
 else
 some (.inl ())
theorem Ao (v_s:aa) (bA:Int) (a_:Unit) (hl:v_s.ac.length≤1000000) : ah (mc v_s bA) ab (0)=bk (jG v_s bA) (fun a_=>(.inl ((v_s.ac.length:Int)))) a_ v_s.ac :=
 ay v_s.ac (S:=Int) (fun a_ k_=>(k_)) (jG v_s bA) (fun a_=>(.inl ((v_s.ac.length:Int)))) (an hl) (fun k a x hx=>by
  unfold mc jG; exact bI)
  (fun a=>by unfold mc; exact cE) a_
def gx (v_s:aa) (bA:Int) (st:(List am)) (x_:am) : Option (((List am))⊕(((List am)×Int))) :=
 let v_l:=st
 if (x_.fId != bA)=true then
 (aX v_l [x_]).bind fun b4=>let v_l:(List am):=b4
 some (.inl v_l)
 else
 some (.inl v_l)
theorem Ap (v_s:aa) (bA:Int) (a_:(List am)) (hl:v_s.ac.length≤1000000) : ah (me v_s bA) ab (a_,(0))=bk (gx v_s bA) (fun a_=>(a_,((v_s.ac.length:Int)))) a_ v_s.ac :=
 ay v_s.ac (S:=(List am)×Int) (fun a_ k_=>(a_,(k_))) (gx v_s bA) (fun a_=>(a_,((v_s.ac.length:Int)))) (an hl) (fun k a x hx=>by
  unfold me gx; exact bI)
  (fun a=>by unfold me; exact cE) a_
def dS (v_l:(List Int)) (v_n:Int) (st:(List Int)) (x_:Int) : Option (((List Int))⊕(((List Int)×Int))) :=
 let al:=st
 if (x_ != v_n)=true then
 (aX al [x_]).bind fun b4=>let al:(List Int):=b4
 some (.inl al)
 else
 some (.inl al)
theorem vd (v_l:(List Int)) (v_n:Int) (a_:(List Int)) (hl:v_l.length≤1000000) : ah (iJ v_l v_n) ab (a_,(0))=bk (dS v_l v_n) (fun a_=>(a_,((v_l.length:Int)))) a_ v_l :=
 ay v_l (S:=(List Int)×Int) (fun a_ k_=>(a_,(k_))) (dS v_l v_n) (fun a_=>(a_,((v_l.length:Int)))) (an hl) (fun k a x hx=>by
  unfold iJ dS; exact bI)
  (fun a=>by unfold iJ; exact cE) a_
def gw (cm:(List Int)) (st:aa) (x_:Int) : Option ((aa)⊕((aa×Int))) :=
 let v_s:=st
 (eH v_s x_).bind fun c21=>let v_c:am:=c21.1
 let bS:Bool:=c21.2
 if (!bS)=true then
 some (.inl v_s)
 else
 (eG v_s v_c.bF).bind fun c22=>let v_a:aC:=c22.1
 if v_c.bG=true then
 (pj v_a).bind fun c23=>let t24:Int:=1
 let t25:(List aQ):=c23
 let v_a:aC:={ v_a with dr:=t24 }
 let v_a:aC:={ v_a with bL:=t25 }
 let t26:(List Int):=[]
 let t27:(List Int):=[]
 let t28:(List Int):=[]
 let t29:(List Int):=[]
 let v_a:aC:={ v_a with ca:=t26 }
 let v_a:aC:={ v_a with fp:=t27 }
 let v_a:aC:={ v_a with oE:=t28 }
 let v_a:aC:={ v_a with pE:=t29 }
 let t30:Int:=0
 let t31:Int:=v_s.bQ
 let v_a:aC:={ v_a with bD:=t30 }
 let v_a:aC:={ v_a with bB:=t31 }
 (eI v_s v_a).bind fun c32=>(sw c32 v_c.bF).bind fun c33=>let v_s:aa:=c33.1
 some (.inl v_s)
 else
 (ql v_s v_c.fId).bind fun c34=>let v_s:aa:=c34
 let tY:Bool:=false
 (jd v_a.ca v_c.fId).bind fun c35=>let v_a:aC:={ v_a with ca:=c35.1 }
 let tY:Bool:=c35.2
 (if (!tY)=true then
 (aX ([] : (List Int)) v_a.fp).bind fun b37=>(aX b37 [v_c.fId]).bind fun b38=>let v_a:aC:={ v_a with fp:=b38 }
 some v_a
 else
 some v_a).bind fun j36=>let v_a:=j36
 (eI v_s v_a).bind fun c39=>let v_s:aa:=c39
 some (.inl v_s)
theorem Am (cm:(List Int)) (a_:aa) (hl:cm.length≤1000000) : ah (l8 cm) ab (a_,(0))=bk (gw cm) (fun a_=>(a_,((cm.length:Int)))) a_ cm :=
 ay cm (S:=aa×Int) (fun a_ k_=>(a_,(k_))) (gw cm) (fun a_=>(a_,((cm.length:Int)))) (an hl) (fun k a x hx=>by
  unfold l8 gw; exact bI)
  (fun a=>by unfold l8; exact cE) a_
def eF (v_s:aa) (st:(List Int)) (x_:aC) : Option (((List Int))⊕(((List Int)×Int))) :=
 let v_l:=st
 (if (x_.dr==2)=true then some (decide ((i64.wrap (v_s.bQ - x_.bB))≥15)) else some false).bind fun q6=>if q6=true then
 (aX v_l [x_.fId]).bind fun b7=>let v_l:(List Int):=b7
 some (.inl v_l)
 else
 some (.inl v_l)
theorem wy (v_s:aa) (a_:(List Int)) (hl:v_s.aq.length≤1000000) : ah (jE v_s) ab (a_,(0))=bk (eF v_s) (fun a_=>(a_,((v_s.aq.length:Int)))) a_ v_s.aq :=
 ay v_s.aq (S:=(List Int)×Int) (fun a_ k_=>(a_,(k_))) (eF v_s) (fun a_=>(a_,((v_s.aq.length:Int)))) (an hl) (fun k a x hx=>by
  unfold jE eF; exact bI)
  (fun a=>by unfold jE; exact cE) a_
def dH (v_c:ax) (av:ByteArray) (st:Unit) (x_:aB) : Option ((Unit)⊕((Int)⊕(aB×Bool))) :=
 if (x_.aI.toList==av.toList)=true then
 let v_q:aB:=x_
 (aX ([] : (List ec)) v_q.bl).bind fun b4=>let v_q:aB:={ v_q with bl:=b4 }
 some (.inr (.inr (v_q,true)))
 else
 some (.inl ())
theorem sj (v_c:ax) (av:ByteArray) (a_:Unit) (hl:v_c.ae.length≤1000000) : ah (nv v_c av) ab (0)=bk (dH v_c av) (fun a_=>(.inl ((v_c.ae.length:Int)))) a_ v_c.ae :=
 ay v_c.ae (S:=Int) (fun a_ k_=>(k_)) (dH v_c av) (fun a_=>(.inl ((v_c.ae.length:Int)))) (an hl) (fun k a x hx=>by
  unfold nv dH; exact bI)
  (fun a=>by unfold nv; exact cE) a_
def cA (v_c:ax) (av:ByteArray) (st:(List ByteArray)) (x_:aB) : Option (((List ByteArray))⊕(((List ByteArray)×Int))) :=
 let v_l:=st
 (if (!(av.toList==(⟨#[]⟩ : ByteArray).toList))=true then (dP x_.aI).bind fun c6=>some (c6.toList==av.toList) else some false).bind fun q7=>if q7=true then
 (aX v_l [x_.aI]).bind fun b8=>let v_l:(List ByteArray):=b8
 some (.inl v_l)
 else
 some (.inl v_l)
theorem jq (v_c:ax) (av:ByteArray) (a_:(List ByteArray)) (hl:v_c.ae.length≤1000000) : ah (nu v_c av) ab (a_,(0))=bk (cA v_c av) (fun a_=>(a_,((v_c.ae.length:Int)))) a_ v_c.ae :=
 ay v_c.ae (S:=(List ByteArray)×Int) (fun a_ k_=>(a_,(k_))) (cA v_c av) (fun a_=>(a_,((v_c.ae.length:Int)))) (an hl) (fun k a x hx=>by
  unfold nu cA; exact bI)
  (fun a=>by unfold nu; exact cE) a_
def g8 (bz:(List ByteArray)) (v_c:ax) (v_k:Int) (st:Int) (x_:ByteArray) : Option ((Int)⊕((Int×Int))) :=
 let v_n:=st
 (jr v_c x_).bind fun c7=>let v_q:aB:=c7.1
 (au v_q.bl v_k).bind fun b8=>let v_n:Int:=(i64.wrap (v_n + b8.kw))
 some (.inl v_n)
theorem BF (bz:(List ByteArray)) (v_c:ax) (v_k:Int) (a_:Int) (hl:bz.length≤1000000) : ah (jR bz v_c v_k) ab (a_,(0))=bk (g8 bz v_c v_k) (fun a_=>(a_,((bz.length:Int)))) a_ bz :=
 ay bz (S:=Int×Int) (fun a_ k_=>(a_,(k_))) (g8 bz v_c v_k) (fun a_=>(a_,((bz.length:Int)))) (an hl) (fun k a x hx=>by
  unfold jR g8; exact bI)
  (fun a=>by unfold jR; exact cE) a_
def g9 (v_c:ax) (st:Unit) (x_:aB) : Option ((Unit)⊕((Int)⊕(Bool))) :=
 (eX v_c x_.aI).bind fun c10=>let bz:(List ByteArray):=c10
 let v_k:Int:=0
 (ah (nq v_c bz) ab v_k).bind fun r11=>match r11 with
 | .inr m12=>some (.inr (.inr m12))
 | .inl m12 =>
 let v_k:=m12
 some (.inl ())
theorem BG (v_c:ax) (a_:Unit) (hl:v_c.ae.length≤1000000) : ah (nr v_c) ab (0)=bk (g9 v_c) (fun a_=>(.inl ((v_c.ae.length:Int)))) a_ v_c.ae :=
 ay v_c.ae (S:=Int) (fun a_ k_=>(k_)) (g9 v_c) (fun a_=>(.inl ((v_c.ae.length:Int)))) (an hl) (fun k a x hx=>by
  unfold nr g9; exact bI)
  (fun a=>by unfold nr; exact cE) a_
theorem pu {s:ByteArray} {k:Int} (h0 : 0≤k) (h1:k.toNat < s.size) : ∃ b,lc s k=some b:=by
 unfold lc
 rw [if_pos h0]
 have:k.toNat < s.data.toList.length:=by simpa using h1
 rw [zq this]
 exact ⟨_,rfl⟩
theorem nR (p:ByteArray) (hp:p.size≤1000000) : ∃ r,dP p=some r∧(r.size < p.size∨r.size=0):=by
 unfold dP
 have hw:∀ k:Int,-1≤k→k≤1000000000→i64.wrap (k - 1)=k - 1:=fun k h1 h2=>Ht (by omega) (by omega)
 have h:=aJ (f:=iY p) (fun k=>-1≤k∧k < (p.size:Int)) (fun k=>(k + 1).toNat) (fun k=>-1≤k∧k < (p.size:Int)) (fun k ⟨h1,h2⟩=>by
  unfold iY
  by_cases hk:k≥0
  ·obtain ⟨b,hb⟩:=pu (s:=p) hk (by omega)
   simp only [hk,decide_true,if_true,hb,zb]
   cases (b != 46) with
   | true =>
    simp only [if_true,hw k h1 (by omega)]
    exact .inl ⟨_,rfl,by omega,by omega⟩
   | false=>exact .inr ⟨_,rfl,h1,h2⟩
  ·simp only [hk,decide_false,zf,if_false,zb]
   exact .inr ⟨_,rfl,h1,h2⟩) ab (i64.wrap ((p.size:Int) - 1)) (by rw [hw _ (by omega) (by omega)]; omega) (by show (i64.wrap ((p.size:Int) - 1) + 1).toNat < ab; rw [hw _ (by omega) (by omega)]; unfold ab; omega)
 obtain ⟨k,h1,h2,h3⟩:=h
 dsimp only
 rw [h1]
 simp only [zb]
 by_cases hk:k < 0
 ·simp only [hk,decide_true,if_true]
  exact ⟨_,rfl,.inr rfl⟩
 ·simp only [hk,decide_false,zf,if_false]
  unfold Ox
  rw [if_pos ⟨by omega,by omega⟩]
  refine ⟨_,rfl,.inl ?_⟩
  simp only [ByteArray.size_extract]
  omega
theorem qH {p:ByteArray} (h:(!(p.toList==(⟨#[]⟩ : ByteArray).toList))=true) : 0 < p.size:=by
 rcases Nat.eq_zero_or_pos p.size with h0 | h0
 ·exfalso
  have:p=⟨#[]⟩:=by
   cases p with
   | mk d => have : d = #[] := by apply Array.eq_empty_of_size_eq_zero; exact h0
             rw [this]
  rw [this] at h
  simp at h
 ·exact h0
theorem FW (p:ByteArray) (hp:p.size≤1000000) : ∃ r,zi p=some r∧r.length≤p.size∧∀ q∈r,q.size≤p.size:=by
 unfold zi
 have h:=aJ (f:=nS) (fun st=>st.1.length + st.2.size≤p.size∧∀ q∈st.1,q.size≤p.size) (fun st=>st.2.size) (fun st=>st.1.length≤p.size∧∀ q∈st.1,q.size≤p.size) (fun st ⟨h1,h2⟩=>by
  unfold nS
  dsimp only
  split
  ·rename_i hne
   have h0:=qH hne
   rw [aF (by simp; omega)]
   obtain ⟨r,hr,hs⟩:=nR st.2 (by omega)
   simp only [zb,hr]
   refine .inl ⟨_,rfl,⟨by simp; omega,fun q hq=>?_⟩,by show r.size < st.2.size; omega⟩
   simp only [List.mem_append,List.mem_singleton] at hq
   rcases hq with hq | rfl
   ·exact h2 q hq
   ·omega
  ·exact .inr ⟨_,rfl,by show st.1.length≤p.size; omega,h2⟩) ab ([],p) ⟨by simp,by simp⟩ (by show p.size < ab; unfold ab; omega)
 obtain ⟨r,h1,h2,h3⟩:=h
 dsimp only
 rw [h1]
 exact ⟨_,rfl,h2,h3⟩
structure SzC (c:ax) : Prop where
 labels:c.ai.length≤1000
 queues:c.ae.length≤1000
 caps:∀ q∈c.ae,q.bl.length≤1000
 paths:∀ q∈c.ae,q.aI.size≤1000000
def EN (c:ax) (p:ByteArray) : aB:=(c.ae.find? fun q=>q.aI.toList==p.toList).getD aB.zero
def isQ (c:ax) (p:ByteArray) : Bool:=c.ae.any fun q=>q.aI.toList==p.toList
theorem mR (c:ax) (p:ByteArray) (h:SzC c) : jr c p=some (EN c p,isQ c p):=by
 unfold jr EN isQ
 have hs:=sj c p () (by have:=h.queues; omega)
 dsimp only
 rw [hs]
 have key:∀ l:List aB,(∀ q∈l,q.bl.length≤1000)→bk (dH c p) (fun _=>(Sum.inl (c.ae.length:Int) : Int⊕(aB×Bool))) () l=some (match l.find? fun q=>q.aI.toList==p.toList with | some q=>.inr (q,true) | none=>.inl (c.ae.length:Int)):=by
  intro l
  induction l with
  | nil=>intro _; rfl
  | cons q l ih =>
   intro hc
   simp only [bk,List.find?_cons]
   unfold dH
   cases hq:(q.aI.toList==p.toList) with
   | true =>
    have:=hc q (by simp)
    simp only [if_true]
    rw [aF (by simp; omega)]
    rfl
   | false =>
    simp only [zf,if_false]
    exact ih fun q hq=>hc q (by simp [hq])
 rw [key _ h.caps]
 cases hf:c.ae.find? fun q=>q.aI.toList==p.toList with
 | none =>
  have:(c.ae.any fun q=>q.aI.toList==p.toList)=false:=by
   rw [List.any_eq_false]; intro x hx; have:=List.find?_eq_none.1 hf x hx; simpa using this
  rw [this]; rfl
 | some q =>
  have:(c.ae.any fun q=>q.aI.toList==p.toList)=true:=by
   rw [List.any_eq_true]; exact ⟨q,List.mem_of_find?_eq_some hf,by simpa using List.find?_some hf⟩
  rw [this]; rfl
theorem tj (c:ax) (p:ByteArray) (h:SzC c) : ∃ r,eX c p=some r∧r.length≤c.ae.length∧∀ x∈r,∃ q∈c.ae,q.aI=x:=by
 unfold eX
 have hs:=jq c p [] (by have:=h.queues; omega)
 dsimp only
 rw [hs]
 obtain ⟨r,h1,h2⟩:=aW (g:=cA c p) (fin:=fun a=>(a,(c.ae.length:Int))) (fun k a=>a.length≤k∧∀ x∈a,∃ q∈c.ae,q.aI=x) (fun r=>r.1.length≤c.ae.length∧∀ x∈r.1,∃ q∈c.ae,q.aI=x) c.ae 0 [] (fun j a x hx ⟨h1,h2⟩=>by
  have hm:=List.mem_of_getElem? hx
  have hj:=(zg.1 hx).1
  obtain ⟨r,hr,_⟩:=nR x.aI (h.paths x hm)
  have hqs:=h.queues
  unfold cA
  simp only [hr,zb,dN]
  split
  ·rw [aF (by simp; omega)]
   refine ⟨_,rfl,fun a' e=>?_,fun r e=>by cases e⟩
   injection e with e
   subst e
   refine ⟨by simp; omega,fun y hy=>?_⟩
   simp only [List.mem_append,List.mem_singleton] at hy
   rcases hy with hy | rfl
   ·exact h2 y hy
   ·exact ⟨x,hm,rfl⟩
  ·refine ⟨_,rfl,fun a' e=>?_,fun r e=>by cases e⟩
   injection e with e
   subst e
   exact ⟨by omega,h2⟩) (fun a ⟨h1,h2⟩=>⟨by simpa using h1,h2⟩) ⟨by simp,by simp⟩
 rw [h1]
 exact ⟨_,rfl,h2⟩
def Cf (c:ax) (p:ByteArray) : Bool:=(jV c p).getD false
theorem xJ (c:ax) (p:ByteArray) (h:SzC c) : jV c p=some (Cf c p):=by
 have:∃ r,jV c p=some r:=by
  unfold jV
  obtain ⟨r,hr,_⟩:=tj c p h
  simp only [mR c p h,zb,hr,dN]
  exact ⟨_,rfl⟩
 obtain ⟨r,hr⟩:=this
 unfold Cf
 rw [hr]
 rfl
def id' {α : Type} (x : α) : α:=x
theorem yF {α : Type} (l:List α) : l.map id' = l:=List.map_id l
def VT (a:aC) : Bool:=a.dr==1||a.dr==2
theorem fg (a:aC) : dx a=some (VT a):=by unfold dx VT; simp only [orB,zb]
theorem N3 (n:Int) : vb n=some (decide (n≥1)&&decide (n≤1073741824)):=by unfold vb; simp only [dN,zb]
theorem Al (a:aC) : pj a=some [⟨0,0,a.bG,1,-1,-1,0⟩]:=rfl
theorem Ip {α β : Type} (p : α→Bool) (l:List α) (z : α) (d : β) : (match (match l.find? p with | some q=>(Sum.inr (q,true) : β⊕(α×Bool)) | none=>.inl d) with | .inr m=>some m | .inl _=>some (z,false))=some ((l.find? p).getD z,l.any p):=by
 cases hf:l.find? p with
 | none =>
  have:l.any p=false:=by
   rw [List.any_eq_false]; intro x hx; have:=List.find?_eq_none.1 hf x hx; simpa using this
  rw [this]; rfl
 | some q =>
  have:l.any p=true:=by rw [List.any_eq_true]; exact ⟨q,List.mem_of_find?_eq_some hf,List.find?_some hf⟩
  rw [this]; rfl
def ch (s:aa) (id:Int) : aC:=(s.aq.find? fun c=>c.fId==id).getD aC.zero
def V3 (s:aa) (id:Int) : Bool:=s.aq.any fun c=>c.fId==id
theorem kJ {α τ : Type} (p : α→Bool) (q : α→τ) (d : τ) (l:List α) : bk (fun (_:Unit) x=>if p x=true then some (.inr (q x)) else some (.inl ())) (fun _=>d) () l=some (match l.find? p with | some x=>q x | none=>d):=by
 rw [sO]
 cases l.find? p <;> rfl
theorem dY (s:aa) (id:Int) (hl:s.aq.length≤1000000) : eG s id=some (ch s id,V3 s id):=by
 unfold eG ch V3
 dsimp only
 rw [An s id () hl,show jF s id=fun (_:Unit) x=>if (x.fId==id)=true then some (.inr (.inr (x,true))) else some (.inl ()) from rfl,
  kJ (fun x:aC=>x.fId==id) (fun x=>(Sum.inr (x,true) : Int⊕aC×Bool)) (.inl (s.aq.length:Int)) s.aq]
 simp only [zb]
 have h2:=Ip (fun x:aC=>x.fId==id) s.aq aC.zero (s.aq.length:Int)
 revert h2
 cases s.aq.find? fun x=>x.fId==id <;> exact fun h=>h
def mr (s:aa) (id:Int) : am:=(s.ac.find? fun c=>c.fId==id).getD am.zero
def Mi (s:aa) (id:Int) : Bool:=s.ac.any fun c=>c.fId==id
theorem kP (s:aa) (id:Int) (hl:s.ac.length≤1000000) : eH s id=some (mr s id,Mi s id):=by
 unfold eH mr Mi
 dsimp only
 rw [Ao s id () hl,show jG s id=fun (_:Unit) x=>if (x.fId==id)=true then some (.inr (.inr (x,true))) else some (.inl ()) from rfl,
  kJ (fun x:am=>x.fId==id) (fun x=>(Sum.inr (x,true) : Int⊕am×Bool)) (.inl (s.ac.length:Int)) s.ac]
 simp only [zb]
 have h2:=Ip (fun x:am=>x.fId==id) s.ac am.zero (s.ac.length:Int)
 revert h2
 cases s.ac.find? fun x=>x.fId==id <;> exact fun h=>h
theorem kF (s:aa) (n:aC) (hl:s.aq.length + 1≤1000000) : eI s n=some { s with aq:=cU aC.fId s.aq n } := by
 unfold eI
 have hl':s.aq.length≤1000000:=by omega
 have h:=Ew s.aq (fun x=>decide (x.fId < n.fId)) (f:=ny s n) (an hl')
  (fun k x hx=>by
   have hk:=(zg.1 hx).1
   unfold ny
   simp only [bK hx,if_true,aE hx,zb,aY hk hl'])
  (by unfold ny; simp only [bE]; rfl)
 unfold cU
 have hK:=k8 (fun x:aC=>decide (x.fId < n.fId)) s.aq
 generalize (s.aq.takeWhile fun x=>decide (x.fId < n.fId)).length=K at h hK ⊢
 dsimp only
 rw [h]
 simp only [zb]
 rw [oa hK]
 simp only [zb]
 rw [aF (by simp; omega)]
 simp only [zb]
 rw [aF (by simp; omega)]
 simp only [zb]
 by_cases hlt:K < s.aq.length
 ·have hx:s.aq[K]? = some s.aq[K]:=zq hlt
  simp only [bK hx,if_true,aE hx,zb,hx]
  cases he:(s.aq[K].fId==n.fId) with
  | true =>
   simp only [if_true,zb,aY hlt hl']
   rw [kt hlt]
   simp only [zb]
   rw [aF (by simp; omega)]
   simp
  | false =>
   simp only [zf,if_false,zb]
   rw [kt hK]
   simp only [zb]
   rw [aF (by simp; omega)]
   simp
 ·have:K=s.aq.length:=by omega
  subst this
  simp only [bE,zf,if_false,zb]
  rw [kt (Nat.le_refl _)]
  simp only [zb]
  rw [aF (by simp; omega)]
  simp
theorem CN (s:aa) (id:Int) (hl:s.ac.length≤1000000) : ql s id=some { s with ac:=s.ac.filter fun c=>c.fId != id } := by
 unfold ql
 dsimp only
 have e:gx s id=fun acc x=>if (x.fId != id)=true then (aX acc [id' x]).map (fun a=>(.inl a:List am⊕(List am×Int))) else some (.inl acc):=by
  funext acc x
  unfold gx
  dsimp only [id']
  split
  ·cases aX acc [x] <;> rfl
  ·rfl
 rw [Ap s id [] hl,e,cr (fun c:am=>c.fId != id) id' _ s.ac [] (by simpa using hl)]
 simp only [zb,List.nil_append,yF]
theorem ve (l:List Int) (n:Int) (hl:l.length≤1000000) : jd l n=some (l.filter (fun c=>c != n),decide (((l.filter (fun c=>c != n)).length:Int) < (l.length:Int))):=by
 unfold jd
 dsimp only
 have e:dS l n=fun acc x=>if (x != n)=true then (aX acc [id' x]).map (fun a=>(.inl a:List Int⊕(List Int×Int))) else some (.inl acc):=by
  funext acc x
  unfold dS
  dsimp only [id']
  split
  ·cases aX acc [x] <;> rfl
  ·rfl
 rw [vd l n [] hl,e,cr (fun c:Int=>c != n) id' _ l [] (by simpa using hl)]
 simp only [zb,List.nil_append,yF]
theorem Hl (s:aa) (hl:s.aq.length≤1000000) : tA s=some ((s.aq.filter fun b=>b.dr==2&&decide (i64.wrap (s.bQ - b.bB)≥15)).map aC.fId):=by
 unfold tA
 dsimp only
 have e:eF s=fun acc x=>if (x.dr==2&&decide (i64.wrap (s.bQ - x.bB)≥15))=true then (aX acc [x.fId]).map (fun a=>(.inl a:List Int⊕(List Int×Int))) else some (.inl acc):=by
  funext acc x
  unfold eF
  simp only [dN,zb]
  split
  ·cases aX acc [x.fId] <;> rfl
  ·rfl
 rw [wy s [] hl,e,cr (fun x:aC=>x.dr==2&&decide (i64.wrap (s.bQ - x.bB)≥15)) aC.fId _ s.aq [] (by simpa using hl)]
 simp
theorem CL (s:aa) (id:Int) (hl:s.ac.length≤1000000) (hs:s.aU.length≤1000000) : sw s id=some ({ s with ac:=s.ac.filter fun c=>!(c.bF==id),aU:=s.aU.filter fun c=>c.bF != id },(s.ac.filter fun c=>c.bF==id).map am.fId):=by
 unfold sw
 dsimp only
 have e2:gu s id=fun acc x=>if (x.bF != id)=true then (aX acc [id' x]).map (fun a=>(.inl a:List bu⊕(List bu×Int))) else some (.inl acc):=by
  funext acc x
  unfold gu
  dsimp only [id']
  split
  ·cases aX acc [x] <;> rfl
  ·rfl
 have k1:∀ (l:List am) (a:List Int×List am),a.1.length + a.2.length + l.length≤1000000→bk (gv s id) (fun b=>(b.1,b.2,(s.ac.length:Int))) a l=some (a.1++(l.filter fun c=>c.bF==id).map am.fId,a.2++(l.filter fun c=>!(c.bF==id)),(s.ac.length:Int)):=by
  intro l
  induction l with
  | nil=>intro a _; simp [bk]
  | cons x l ih =>
   intro a h
   simp only [List.length_cons] at h
   have step:gv s id a x=if (x.bF==id)=true then (aX a.1 [x.fId]).bind fun b=>some (.inl (b,a.2)) else (aX a.2 [x]).bind fun b=>some (.inl (a.1,b)):=rfl
   simp only [bk,List.filter_cons,step]
   cases (x.bF==id) with
   | true =>
    simp only [if_true]
    rw [aF (by simp; omega)]
    simp only [zb]
    rw [ih _ (by simp; omega)]
    simp
   | false =>
    simp only [zf,if_false]
    rw [aF (by simp; omega)]
    simp only [zb]
    rw [ih _ (by simp; omega)]
    simp
 rw [Aj s id ([],[]) hl,k1 _ _ (by simpa using hl)]
 simp only [zb]
 rw [Ai s id [] hs,e2,cr (fun c:bu=>c.bF != id) id' _ s.aU [] (by simpa using hs)]
 simp only [zb,List.nil_append,yF]
def fU (v_s:aa) (af:Int) (st:aw) (x_:aA) : Option ((aw)⊕((aw×Int))) :=
 let v_v:=st
 (if x_.fUp=true then some (x_.aP==af) else some false).bind fun q6=>if q6=true then
 (db v_v x_.dL).bind fun c7=>let v_v:aw:=c7
 some (.inl v_v)
 else
 some (.inl v_v)
theorem zh (v_s:aa) (af:Int) (a_:aw) (hl:v_s.aj.length≤1000000) : ah (lz v_s af) ab (a_,(0))=bk (fU v_s af) (fun a_=>(a_,((v_s.aj.length:Int)))) a_ v_s.aj :=
 ay v_s.aj (S:=aw×Int) (fun a_ k_=>(a_,(k_))) (fU v_s af) (fun a_=>(a_,((v_s.aj.length:Int)))) (an hl) (fun k a x hx=>by
  unfold lz fU; exact bI)
  (fun a=>by unfold lz; exact cE) a_
def g7 (v_s:aa) (af:Int) (st:aw) (x_:a8) : Option ((aw)⊕((aw×Int))) :=
 let v_v:=st
 let v_p:a8:=x_
 (if (v_p.aP==af)=true then some (decide (v_p.nL≤v_s.bQ)) else some false).bind fun q5=>(if q5=true then some (decide (v_s.bQ < v_p.jK)) else some false).bind fun q6=>if q6=true then
 (db v_v v_p.iC).bind fun c7=>let v_v:aw:=c7
 some (.inl v_v)
 else
 some (.inl v_v)
theorem BE (v_s:aa) (af:Int) (a_:aw) (hl:v_s.bh.length≤1000000) : ah (np v_s af) ab (a_,(0))=bk (g7 v_s af) (fun a_=>(a_,((v_s.bh.length:Int)))) a_ v_s.bh :=
 ay v_s.bh (S:=aw×Int) (fun a_ k_=>(a_,(k_))) (g7 v_s af) (fun a_=>(a_,((v_s.bh.length:Int)))) (an hl) (fun k a x hx=>by
  unfold np g7; exact bI)
  (fun a=>by unfold np; exact cE) a_
def uK (s:aa) (k:Int) : aw:=(iX s k).getD aw.zero
theorem nP (s:aa) (k:Int) (hl:s.aj.length≤1000000) : iX s k=some (uK s k):=by
 have:∃ r,iX s k=some r:=by
  unfold iX
  dsimp only
  rw [zh s k ⟨0,0⟩ hl]
  obtain ⟨r,h1,_⟩:=aW (g:=fU s k) (fin:=fun a=>(a,(s.aj.length:Int))) (fun _ _=>True) (fun _=>True) s.aj 0 ⟨0,0⟩ (fun j a x hx _=>by
   unfold fU
   simp only [ek,dN,zb,sJ]
   exact ⟨_,rfl,fun _ _=>trivial,fun _ _=>trivial⟩) (fun _ _=>trivial) trivial
  rw [h1]
  exact ⟨_,rfl⟩
 obtain ⟨r,hr⟩:=this
 unfold uK
 rw [hr]; rfl
def Xi (s:aa) (k:Int) : aw:=(th s k).getD aw.zero
theorem PJ (s:aa) (k:Int) (hl:s.bh.length≤1000000) : th s k=some (Xi s k):=by
 have:∃ r,th s k=some r:=by
  unfold th
  dsimp only
  rw [BE s k ⟨0,0⟩ hl]
  obtain ⟨r,h1,_⟩:=aW (g:=g7 s k) (fin:=fun a=>(a,(s.bh.length:Int))) (fun _ _=>True) (fun _=>True) s.bh 0 ⟨0,0⟩ (fun j a x hx _=>by
   unfold g7
   simp only [ek,dN,zb,sJ]
   exact ⟨_,rfl,fun _ _=>trivial,fun _ _=>trivial⟩) (fun _ _=>trivial) trivial
  rw [h1]
  exact ⟨_,rfl⟩
 obtain ⟨r,hr⟩:=this
 unfold Xi
 rw [hr]; rfl
def eO (p:ByteArray) : ByteArray:=(dP p).getD ⟨#[]⟩
def du:Nat→ByteArray→Nat
 | 0,_=>0
 | n + 1,p=>if p.size=0 then 0 else du n (eO p) + 1
structure Deep (c:ax) : Prop where
 few:c.ae.length≤16
 deep:∀ q∈c.ae,du 6 q.aI≤4
structure AD (c:ax) : Prop where
 sz:SzC c
 each:∀ q∈c.ae,q.bl.length=c.ai.length
 up:∀ q∈c.ae,∀ r,zi q.aI=some r→∀ x∈r,isQ c x=true
 deep:Deep c
 lab1 : 1≤c.ai.length
 leaf:∃ q∈c.ae,Cf c q.aI=true
 lsz:∀ x∈c.ai,x.size≤1000000
theorem yM {c:ax} {p:ByteArray} (h:isQ c p=true) : EN c p∈c.ae∧((EN c p).aI.toList==p.toList)=true:=by
 unfold isQ at h
 unfold EN
 cases hf:c.ae.find? fun q=>q.aI.toList==p.toList with
 | none =>
  rw [List.any_eq_true] at h
  obtain ⟨q,hq,h2⟩:=h
  have:=List.find?_eq_none.1 hf q hq
  exact absurd h2 (by simpa using this)
 | some q=>exact ⟨List.mem_of_find?_eq_some hf,by simpa using List.find?_some hf⟩
theorem rY {a b:ByteArray} (h:(a.toList==b.toList)=true) : a=b:=by
 have h:a.toList=b.toList:=by simpa using h
 rw [ByteArray.toList_eq,ByteArray.toList_eq] at h
 cases a; cases b
 simp only at h
 congr 1
 exact Array.ext' h
theorem J0 {α : Type} {l:List α} {i:Int} (h0 : 0≤i) (h1:i < (l.length:Int)) : ∃ x,au l i=some x∧x∈l:=by
 unfold au
 rw [if_pos h0]
 have:i.toNat < l.length:=by omega
 exact ⟨l[i.toNat],zq this,List.getElem_mem this⟩
theorem FT (s:aa) (p:ByteArray) (k:Int) (b:Bool) (hf:AD s.bC) (hn:s.aj.length≤1000000) : ∃ r,tg s p k b=some r:=by
 unfold tg
 simp only [mR _ _ hf.sz,zb,orB,nP s k hn]
 cases hc:(!isQ s.bC p||decide (k < 0)||decide (k≥(s.bC.ai.length:Int))) with
 | true=>exact ⟨_,rfl⟩
 | false =>
  simp only [Bool.or_eq_false_iff,Bool.not_eq_false',decide_eq_false_iff_not] at hc
  obtain ⟨⟨hq,hk0⟩,hk1⟩:=hc
  obtain ⟨hm,hp⟩:=yM hq
  have hpe:=rY hp
  have hps:p.size≤1000000:=by rw [← hpe]; exact hf.sz.paths _ hm
  obtain ⟨up,hup,hul,_⟩:=FW p hps
  have hall:=hf.up _ hm up (by rw [hpe]; exact hup)
  simp only [zf,if_false,hup,zb]
  have hw:∀ i:Int,-1≤i→i≤1000000→i64.wrap (i - 1)=i - 1:=fun i h1 h2=>Ht (by omega) (by omega)
  have hw2:i64.wrap ((up.length:Int) - 2)=(up.length:Int) - 2:=Ht (by omega) (by omega)
  have h:=aJ (f:=rb s up k b) (fun st=>-2≤st.2∧st.2 < (up.length:Int)) (fun st=>(st.2 + 1).toNat) (fun _=>True) (fun st ⟨h1,h2⟩=>by
   unfold rb
   dsimp only
   by_cases hi:st.2≥0
   ·obtain ⟨x,hx,hxm⟩:=J0 (l:=up) hi h2
    have hxq:=hall x hxm
    have hcap:=hf.each _ (yM hxq).1
    obtain ⟨c,hc,_⟩:=J0 (l:=(EN s.bC x).bl) (i:=k) (by omega) (by rw [hcap]; omega)
    simp only [hi,decide_true,if_true,hx,zb,mR _ _ hf.sz,hc,CA,sJ,hw st.2 (by omega) (by omega)]
    exact .inl ⟨_,rfl,⟨by show -2≤st.2 - 1; omega,by show st.2 - 1 < _; omega⟩,by show (st.2 - 1 + 1).toNat < (st.2 + 1).toNat; omega⟩
   ·simp only [hi,decide_false,zf,if_false]
    exact .inr ⟨_,rfl,trivial⟩) ab (uK s k,i64.wrap ((up.length:Int) - 2)) ⟨by show -2≤i64.wrap ((up.length:Int) - 2); rw [hw2]; omega,by show i64.wrap ((up.length:Int) - 2) < _; rw [hw2]; omega⟩ (by show (i64.wrap ((up.length:Int) - 2) + 1).toNat < ab; rw [hw2]; unfold ab; omega)
  obtain ⟨r,h1,_⟩:=h
  rw [h1]
  exact ⟨_,rfl⟩
def BV (s:aa) (p:ByteArray) (k:Int) : aw:=(tg s p k true).getD aw.zero
def Xg (s:aa) (p:ByteArray) (k:Int) : aw:=(tg s p k false).getD aw.zero
theorem nQ (s:aa) (p:ByteArray) (k:Int) (hf:AD s.bC) (hn:s.aj.length≤1000000) : lA s p k=some (BV s p k):=by
 obtain ⟨r,hr⟩:=FT s p k true hf hn
 unfold lA BV
 rw [hr]; rfl
theorem FU (s:aa) (p:ByteArray) (k:Int) (hf:AD s.bC) (hn:s.aj.length≤1000000) : vL s p k=some (Xg s p k):=by
 obtain ⟨r,hr⟩:=FT s p k false hf hn
 unfold vL Xg
 rw [hr]; rfl
def Y7 (s:aa) (p:ByteArray) (k:Int) : aw:=if isQ s.bC p=true then (Px (BV s p k) (EN s.bC p).cZ).1 else aw.zero
theorem PH (s:aa) (p:ByteArray) (k:Int) (hf:AD s.bC) (hn:s.aj.length≤1000000) : DC s p k=some (Y7 s p k):=by
 unfold DC Y7
 simp only [mR _ _ hf.sz,zb,nQ s p k hf hn,CA]
 cases isQ s.bC p <;> rfl
def g6 (v_s:aa) (bA:Int) (st:aw) (x_:am) : Option ((aw)⊕((aw×Int))) :=
 let v_v:=st
 if (x_.bH==bA)=true then
 (db v_v x_.cp).bind fun c4=>let v_v:aw:=c4
 some (.inl v_v)
 else
 some (.inl v_v)
theorem BC (v_s:aa) (bA:Int) (a_:aw) (hl:v_s.ac.length≤1000000) : ah (nj v_s bA) ab (a_,(0))=bk (g6 v_s bA) (fun a_=>(a_,((v_s.ac.length:Int)))) a_ v_s.ac :=
 ay v_s.ac (S:=aw×Int) (fun a_ k_=>(a_,(k_))) (g6 v_s bA) (fun a_=>(a_,((v_s.ac.length:Int)))) (an hl) (fun k a x hx=>by
  unfold nj g6; exact bI)
  (fun a=>by unfold nj; exact cE) a_
theorem PF (s:aa) (id:Int) (hl:s.aj.length≤1000000) : ly s id=some (((s.aj.find? fun c=>c.fId==id).map fun c=>(c,true)).getD (aA.zero,false)):=by
 unfold ly
 have h:=ay (S:=Int) s.aj (fun (_:Unit) k=>k) (f:=nn s id) (fun _ x=>if (x.fId==id)=true then some (.inr (.inr (x,true))) else some (.inl ())) (fun _=>.inl (s.aj.length:Int)) (an hl)
  (fun k a x hx=>by
   have hk:=(zg.1 hx).1
   unfold nn
   simp only [bK hx,if_true,aE hx,zb]
   split
   ·rfl
   ·simp only [aY hk hl,Option.map_some])
  (fun a=>by unfold nn; simp only [bE]; rfl) ()
 dsimp only
 have h2:=sO (fun x:aA=>x.fId==id) (fun x=>(Sum.inr (x,true) : Int⊕aA×Bool)) (.inl (s.aj.length:Int)) s.aj
 rw [h,h2]
 cases List.find? (fun c=>c.fId==id) s.aj <;> rfl
theorem BA (s:aa) (n:aA) (hl:s.aj.length + 1≤1000000) : BB s n=some { s with aj:=cU aA.fId s.aj n } := by
 unfold BB
 have hl':s.aj.length≤1000000:=by omega
 have h:=Ew s.aj (fun x=>decide (x.fId < n.fId)) (f:=oZ s n) (an hl')
  (fun k x hx=>by
   have hk:=(zg.1 hx).1
   unfold oZ
   simp only [bK hx,if_true,aE hx,zb,aY hk hl'])
  (by unfold oZ; simp only [bE]; rfl)
 unfold cU
 have hK:=k8 (fun x:aA=>decide (x.fId < n.fId)) s.aj
 generalize (s.aj.takeWhile fun x=>decide (x.fId < n.fId)).length=K at h hK ⊢
 dsimp only
 rw [h]
 simp only [zb]
 rw [oa hK]
 simp only [zb]
 rw [aF (by simp; omega)]
 simp only [zb]
 rw [aF (by simp; omega)]
 simp only [zb]
 by_cases hlt:K < s.aj.length
 ·have hx:s.aj[K]? = some s.aj[K]:=zq hlt
  simp only [bK hx,if_true,aE hx,zb,hx]
  cases he:(s.aj[K].fId==n.fId) with
  | true =>
   simp only [if_true,zb,aY hlt hl']
   rw [kt hlt]
   simp only [zb]
   rw [aF (by simp; omega)]
   simp
  | false =>
   simp only [zf,if_false,zb]
   rw [kt hK]
   simp only [zb]
   rw [aF (by simp; omega)]
   simp
 ·have:K=s.aj.length:=by omega
  subst this
  simp only [bE,zf,if_false,zb]
  rw [kt (Nat.le_refl _)]
  simp only [zb]
  rw [aF (by simp; omega)]
  simp
theorem PE (n:Int) : y8 n=some (decide (n≥0)&&decide (n≤1073741824)):=by
 unfold y8
 simp only [dN,zb]
def ln (s:aa) (id:Int) : Bool:=s.aj.any fun c=>c.fId==id
def cd (s:aa) (id:Int) : aA:=(s.aj.find? fun c=>c.fId==id).getD aA.zero
theorem kA (s:aa) (id:Int) (hl:s.aj.length≤1000000) : ly s id=some (cd s id,ln s id):=by
 rw [PF s id hl]
 unfold cd ln
 cases h:s.aj.find? fun c=>c.fId==id with
 | none =>
  have:(s.aj.any fun c=>c.fId==id)=false:=by
   rw [List.any_eq_false]; intro x hx; have:=List.find?_eq_none.1 h x hx; simpa using this
  rw [this]; rfl
 | some c =>
  have:(s.aj.any fun c=>c.fId==id)=true:=by
   rw [List.any_eq_true]; exact ⟨c,List.mem_of_find?_eq_some h,by simpa using List.find?_some h⟩
  rw [this]; rfl
def VL (s:aa) (n:aA) : Bool:=!(decide (n.fId < 0)||decide (n.fId > 999)||decide (n.aP < 0)||decide (n.aP≥(s.bC.ai.length:Int))||decide (n.da < 0)||decide (n.da > 99) || !(decide (n.dL.br≥0)&&decide (n.dL.br≤1073741824)) || !(decide (n.dL.aV≥0)&&decide (n.dL.aV≤1073741824)))
def OB (s:aa) (n:aA) : aa×Int :=
 if VL s n=false then (s,1)
 else if (ln s n.fId&&(cd s n.fId).fUp)=true then (s,7)
 else if (!ln s n.fId&&decide ((s.aj.length:Int)≥12))=true then (s,4)
 else ({ s with aj:=cU aA.fId s.aj ⟨n.fId,n.aP,n.da,n.dL,s.bQ,0,true⟩ },0)
theorem uM (s:aa) (n:aA) (hl:s.aj.length + 1≤1000000) : nN s n=some (OB s n):=by
 unfold nN OB
 simp only [PE,orB,zb,kA s n.fId (by omega),BA s _ hl,dN]
 unfold VL
 generalize (decide (n.fId < 0)||decide (n.fId > 999)||decide (n.aP < 0)||decide (n.aP≥(s.bC.ai.length:Int))||decide (n.da < 0)||decide (n.da > 99) || !(decide (n.dL.br≥0)&&decide (n.dL.br≤1073741824)) || !(decide (n.dL.aV≥0)&&decide (n.dL.aV≤1073741824)))=b1
 generalize (ln s n.fId&&(cd s n.fId).fUp)=b2
 generalize (!ln s n.fId&&decide ((s.aj.length:Int)≥12))=b3
 cases b1 <;> cases b2 <;> cases b3 <;> rfl
theorem za (s:aa) (hl:s.aj.length≤1000000) : sg s=some ((s.aj.filter fun b=>b.fUp&&decide (i64.wrap (s.bQ - b.bB)≥10)).map aA.fId):=by
 unfold sg
 have h:=ay (S:=List Int×Int) s.aj (fun a k=>(a,k)) (f:=jU s) (fun acc x=>if (x.fUp&&decide (i64.wrap (s.bQ - x.bB)≥10))=true then (aX acc [x.fId]).map (fun a=>(.inl a:List Int⊕(List Int×Int))) else some (.inl acc)) (fun a=>(a,(s.aj.length:Int))) (an hl)
  (fun k a x hx=>by
   have hk:=(zg.1 hx).1
   unfold jU
   simp only [bK hx,if_true,aE hx,zb,dN,aY hk hl]
   split
   ·cases aX a [x.fId] <;> rfl
   ·rfl)
  (fun a=>by unfold jU; simp only [bE]; rfl) []
 rw [cr (fun b:aA=>b.fUp&&decide (i64.wrap (s.bQ - b.bB)≥10)) aA.fId (fun a=>(a,(s.aj.length:Int))) s.aj [] (by simpa using hl)] at h
 dsimp only
 rw [h]
 rfl
def Cr (s:aa) (id b:Int) : aa×Int :=
 if ln s id=false then (s,2)
 else if (cd s id).fUp=false then (s,18)
 else if decide (b < 0)=true then (s,15)
 else if decide (b < (cd s id).bD)=true then (s,15)
 else if decide (i64.wrap (b - (cd s id).bD) > 1)=true then (s,1)
 else ({ s with aj:=cU aA.fId s.aj { cd s id with bB:=s.bQ,bD:=b } },0)
theorem FR (s:aa) (id b:Int) (hl:s.aj.length + 1≤1000000) : ze s id b=some (Cr s id b):=by
 unfold ze Cr
 simp only [kA s id (by omega),zb,BA s _ hl]
 generalize ln s id=b1
 generalize (cd s id).fUp=b2
 generalize decide (b < 0)=b3
 generalize decide (b < (cd s id).bD)=b4
 generalize decide (i64.wrap (b - (cd s id).bD) > 1)=b5
 cases b1 <;> cases b2 <;> cases b3 <;> cases b4 <;> cases b5 <;> rfl
def Sd (s:aa) (id:Int) : aa:=if ln s id=true then { s with aj:=cU aA.fId s.aj { cd s id with fUp:=false } } else s
theorem PG (s:aa) (id:Int) (hl:s.aj.length + 1≤1000000) : zc s id=some (Sd s id):=by
 unfold zc Sd
 simp only [kA s id (by omega),zb,BA s _ hl]
 generalize ln s id=b1
 cases b1 <;> rfl
def U5 (s:aa) (id:Int) : aw:=s.ac.foldl (fun v c=>if (c.bH==id)=true then Pu v c.cp else v) aw.zero
theorem FQ (s:aa) (id:Int) (hl:s.ac.length≤1000000) : y9 s id=some (U5 s id):=by
 unfold y9
 dsimp only
 rw [BC s id ⟨0,0⟩ hl]
 have:g6 s id=fun v c=>some (.inl (if (c.bH==id)=true then Pu v c.cp else v)):=by
  funext v c
  unfold g6
  simp only [ek,zb]
  cases (c.bH==id) <;> rfl
 rw [this,sN (fun (v:aw) (c:am)=>if (c.bH==id)=true then Pu v c.cp else v)]
 rfl
def RX (s:aa) (id:Int) : aw:=if (!ln s id || !(cd s id).fUp)=true then aw.zero else VY (cd s id).dL (U5 s id)
theorem xH (s:aa) (id:Int) (hl:s.aj.length≤1000000) (hc:s.ac.length≤1000000) : vK s id=some (RX s id):=by
 unfold vK RX
 simp only [kA s id hl,zb,orB,FQ s id hc,F6]
 generalize (!ln s id || !(cd s id).fUp)=b1
 cases b1 <;> rfl
theorem D7 {α : Type} (key : α→Int) (l:List α) (a : α) : (cU key l a).length≤l.length + 1:=by
 unfold cU
 have h:=k8 (fun x=>decide (key x < key a)) l
 generalize (l.takeWhile fun x=>decide (key x < key a)).length=K at h ⊢
 simp only [List.length_append,List.length_take,List.length_cons,List.length_drop]
 split
 ·split <;> omega
 ·omega
def iM {α : Type} (key : α→Int) (l:List α) : Prop:=l.Pairwise fun x y=>key x < key y
structure SzA (B:Nat) (a:aC) : Prop where
 queue:a.bP.size≤1000000∧0≤a.bB∧a.bB≤1000000000
 asks:a.bL.length≤B
 grants:a.ca.length≤B
 kills:a.fp.length≤B
 told:a.oE.length≤B
 lost:a.pE.length≤B
def aaI (s:aa) : Prop:=(0≤s.bQ∧s.bQ≤1000000000)∧∀ n∈s.aj,(0≤n.bB∧n.bB≤1000000000)∧0≤n.bD
structure SzS (B:Nat) (s:aa) : Prop where
 conf:AD s.bC
 nodes:s.aj.length≤B∧iM aA.fId s.aj∧aaI s
 apps:s.aq.length≤B
 conts:s.ac.length≤B
 slots:s.aU.length≤B
 plans:s.bh.length≤B
 app:∀ a∈s.aq,SzA B a
theorem SzA.mono {B C:Nat} {a:aC} (h:SzA B a) (hc:B≤C) : SzA C a:=⟨h.queue,Nat.le_trans h.asks hc,Nat.le_trans h.grants hc,Nat.le_trans h.kills hc,Nat.le_trans h.told hc,Nat.le_trans h.lost hc⟩
theorem SzS.mono {B C:Nat} {s:aa} (h:SzS B s) (hc:B≤C) : SzS C s:=⟨h.conf,⟨Nat.le_trans h.nodes.1 hc,h.nodes.2⟩,Nat.le_trans h.apps hc,Nat.le_trans h.conts hc,Nat.le_trans h.slots hc,Nat.le_trans h.plans hc,fun a ha=>(h.app a ha).mono hc⟩
theorem SzA.zero (B:Nat) : SzA B aC.zero:=⟨⟨Nat.zero_le _,Int.le_refl _,by decide⟩,Nat.zero_le _,Nat.zero_le _,Nat.zero_le _,Nat.zero_le _,Nat.zero_le _⟩
theorem SzS.get {B:Nat} {s:aa} (h:SzS B s) (id:Int) : SzA B (ch s id):=by
 unfold ch
 cases hf:s.aq.find? fun c=>c.fId==id with
 | none=>exact SzA.zero B
 | some a=>exact h.app a (List.mem_of_find?_eq_some hf)
theorem py {α : Type} {key : α→Int} {l:List α} {a x : α} (h:x∈cU key l a) : x=a∨x∈l:=by
 unfold cU at h
 simp only [List.mem_append,List.mem_cons] at h
 rcases h with h | h | h
 ·exact .inr (List.mem_of_mem_take h)
 ·exact .inl h
 ·exact .inr (List.mem_of_mem_drop h)
theorem SzS.put {B:Nat} {s:aa} (h:SzS B s) {a:aC} (ha:SzA (B + 1) a) : SzS (B + 1) { s with aq:=cU aC.fId s.aq a } :=
 ⟨h.conf,⟨Nat.le_trans h.nodes.1 (Nat.le_succ _),h.nodes.2⟩,Nat.le_trans (D7 _ _ _) (Nat.succ_le_succ h.apps),Nat.le_trans h.conts (Nat.le_succ _),Nat.le_trans h.slots (Nat.le_succ _),Nat.le_trans h.plans (Nat.le_succ _),fun x hx=>by
  rcases py hx with rfl | hx
  ·exact ha
  ·exact (h.app x hx).mono (Nat.le_succ _)⟩
theorem SzS.fewer {B:Nat} {s:aa} (h:SzS B s) {c:List am} {l:List bu} (hc:c.length≤s.ac.length) (hl:l.length≤s.aU.length) : SzS B { s with ac:=c,aU:=l } := ⟨h.conf,h.nodes,h.apps,Nat.le_trans hc h.conts,Nat.le_trans hl h.slots,h.plans,h.app⟩
theorem Af (a p:ByteArray) (ha:a.size≤1000000) : ∃ r,mY a p=some r:=by
 obtain ⟨u,h1,h2,h3⟩:=FW a ha
 unfold mY
 rw [h1]
 dsimp only [zb]
 rw [xT u p () (by omega),show iH u p=fun (_:Unit) x=>if (x.toList==p.toList)=true then some (.inr (.inr true)) else some (.inl ()) from rfl,
  kJ (fun x:ByteArray=>x.toList==p.toList) (fun _=>(Sum.inr true:Int⊕Bool)) (.inl (u.length:Int)) u]
 simp only [zb]
 cases u.find? fun x=>x.toList==p.toList <;> exact ⟨_,rfl⟩
theorem CI {B:Nat} {s:aa} (h:SzS B s) (hB:B≤1000000) (p:ByteArray) (k:Int) (all:Bool) (u:Int) : ∃ r,u6 s p k all u=some r:=by
 have h1:=h.apps; have h2:=h.conts
 unfold u6
 dsimp only
 rw [Ae s k p all u _ (by omega)]
 obtain ⟨r,e1,_⟩:=aW (g:=gp s k p all u) (fin:=fun b=>(b,(s.ac.length:Int))) (fun _ _=>True) (fun _=>True) s.ac 0 (⟨0,0⟩ : aw) (fun j t x hx _=>by
  obtain ⟨b,hb⟩:=Af (ch s x.bF).bP p (h.get x.bF).queue.1
  unfold gp
  simp only [dY s x.bF (by omega),zb,dN,hb,ek]
  cases V3 s x.bF <;> cases (x.aP==k) <;> cases b <;> cases all <;> cases ((ch s x.bF).cZ==u) <;> exact ⟨_,rfl,fun _ _=>trivial,fun _ _=>trivial⟩) (fun _ _=>trivial) trivial
 rw [e1]
 exact ⟨_,rfl⟩
theorem ff {B:Nat} {s:aa} (h:SzS B s) (hB:B≤1000000) (p:ByteArray) (k:Int) : ∃ r,eB s p k=some r:=by
 obtain ⟨r,e⟩:=CI h hB p k true 0
 exact ⟨r,by unfold eB; rw [e]; rfl⟩
theorem C5 {B:Nat} {s:aa} (h:SzS B s) (hB:B≤1000000) (p:ByteArray) (k u:Int) : ∃ r,o6 s p k u=some r:=by
 obtain ⟨r,e⟩:=CI h hB p k false u
 exact ⟨r,by unfold o6; rw [e]; rfl⟩
theorem u9 {B:Nat} {s:aa} (h:SzS B s) (hB:B≤1000000) (p:ByteArray) (k:Int) : ∃ r,nW s p k=some r:=by
 have h1:=h.apps
 unfold nW
 dsimp only
 rw [va s k p _ (by omega)]
 obtain ⟨r,e1,_⟩:=aW (g:=dR s k p) (fin:=fun b=>(b,(s.aq.length:Int))) (fun _ _=>True) (fun _=>True) s.aq 0 (⟨0,0⟩ : aw) (fun j t x hx _=>by
  have hm:=h.app x (List.mem_of_getElem? hx)
  have ha:=hm.asks
  obtain ⟨b,hb⟩:=Af x.bP p hm.queue.1
  unfold dR
  simp only [fg,zb,hb,Hb x.bL k (by omega),ek]
  cases VT x <;> cases b <;> exact ⟨_,rfl,fun _ _=>trivial,fun _ _=>trivial⟩) (fun _ _=>trivial) trivial
 rw [e1]
 exact ⟨_,rfl⟩
theorem CK {B:Nat} {s:aa} (h:SzS B s) (hB:B≤1000000) (p:ByteArray) (hp:p.size≤1000000) (k:Int) (v:aw) : ∃ r,u7 s p k v=some r:=by
 obtain ⟨u,h1,h2,h3⟩:=FW p hp
 have k1:=h.nodes.1; have k2:=h.plans
 unfold u7
 rw [h1]
 dsimp only [zb]
 rw [Ah u s k v () (by omega)]
 obtain ⟨r,e1,_⟩:=aW (g:=gr u s k v) (fin:=fun _=>(.inl (u.length:Int))) (fun _ _=>True) (fun _=>True) u 0 () (fun j t x hx _=>by
  obtain ⟨w,hw⟩:=ff h hB x k
  unfold gr
  simp only [hw,zb,ek,FU s x k h.conf (by omega),kC,nP s k (by omega),PJ s k (by omega),F6]
  generalize Yg (Pu w v) (Xg s x k)=b1
  generalize Yg (Pu w v) (VY (uK s k) (Xi s k))=b2
  generalize (x.toList==(⟨#[114,111,111,116]⟩ : ByteArray).toList)=b3
  cases b1 <;> cases b2 <;> cases b3 <;> exact ⟨_,rfl,fun _ _=>trivial,fun _ _=>trivial⟩) (fun _ _=>trivial) trivial
 rw [e1]
 simp only [zb]
 cases r <;> exact ⟨_,rfl⟩
theorem K4 {B:Nat} {s:aa} (h:SzS B s) (hB:B≤1000000) (a b:ByteArray) (k:Int) : ∃ r,vY s a b k=some r:=by
 obtain ⟨u,hu⟩:=ff h hB a k
 obtain ⟨w,hw⟩:=ff h hB b k
 have k1:=h.nodes.1
 unfold vY
 simp only [hu,hw,nQ s _ k h.conf (Nat.le_trans k1 hB),Nr,zb,dN,orB]
 exact ⟨_,rfl⟩
theorem nF {α : Type} (out:List α) (hl:out.length≤1000000) {f:Int→Option (Int⊕Int)} (h:∀ (k:Nat) (x : α),out[k]? = some x→∃ b,f (k:Int)=if b=true then some (.inl ((k + 1:Nat) : Int)) else some (.inr (k:Int)))
  (hend:f (out.length:Int)=some (.inr (out.length:Int))) : ∃ K:Nat,ah f ab 0=some (K:Int)∧K≤out.length:=by
 obtain ⟨r,h1,K,h2,h3⟩:=aJ (f:=f) (fun st=>∃ k:Nat,st=(k:Int)∧k≤out.length) (fun st=>out.length - st.toNat) (fun r=>∃ k:Nat,r=(k:Int)∧k≤out.length) (fun st ⟨k,e,hk⟩=>by
  subst e
  by_cases hlt:k < out.length
  ·obtain ⟨b,hb⟩:=h k _ (zq hlt)
   rw [hb]
   cases b with
   | true=>exact .inl ⟨_,rfl,⟨k + 1,rfl,hlt⟩,by simp only [zt]; omega⟩
   | false=>exact .inr ⟨_,rfl,k,rfl,hk⟩
  ·have:k=out.length:=by omega
   subst this
   exact .inr ⟨_,hend,_,rfl,Nat.le_refl _⟩) ab 0 ⟨0,rfl,Nat.zero_le _⟩ (by have:=an hl; omega)
 subst h2
 exact ⟨K,h1,h3⟩
theorem mD {σ α τ : Type} {g : σ→Int→α→Option (σ⊕τ)} {fin : σ→τ} (I:Nat→σ→Prop) (Q : τ→Prop) : ∀ (l:List α) (k:Nat) (a : σ),(∀ (j:Nat) (a : σ) (x : α),l[j]? = some x→I (k + j) a→∃ o,g a ((k + j:Nat) : Int) x=some o∧(∀ a',o = .inl a'→I (k + j + 1) a')∧∀ r,o = .inr r→Q r)→(∀ a,I (k + l.length) a→Q (fin a))→I k a→∃ r,nB g fin a k l=some r∧Q r
 | [],k,a,_,hf,hI=>⟨fin a,rfl,hf a hI⟩
 | x::l,k,a,h,hf,hI=>by
  obtain ⟨o,h1,h2,h3⟩:=h 0 a x rfl hI
  simp only [Nat.add_zero] at h1
  simp only [nB,h1]
  cases o with
  | inr r=>exact ⟨r,rfl,h3 r rfl⟩
  | inl a' =>
   refine mD I Q l (k + 1) a' (fun j b y hy hb=>?_) (fun b hb=>hf b (by simpa [Nat.add_assoc,Nat.add_comm 1] using hb)) (h2 a' rfl)
   have:=h (j + 1) b y hy (by rwa [Nat.add_right_comm] at hb)
   rwa [Nat.add_right_comm k 1 j,Nat.add_assoc k j 1]
theorem N0 {B:Nat} {s:aa} (h:SzS B s) (hB:B≤1000000) (p:ByteArray) (k:Int) : ∃ l r,eX s.bC p=some l∧z8 s p k=some r∧r.length≤l.length∧∀ x∈r,x∈l:=by
 obtain ⟨l,h1,h2,h3⟩:=tj s.bC p h.conf.sz
 have k2:=h.conf.sz.queues
 have hl:l.length≤1000:=by omega
 unfold z8
 simp only [h1]
 dsimp only [zb]
 rw [zZ l s k [] (by omega)]
 obtain ⟨r,e1,e2⟩:=mD (g:=gh l s k) (fin:=fun b=>(b,(l.length:Int))) (fun j b=>b.length≤j∧∀ x∈b,x∈l) (fun r=>r.1.length≤l.length∧∀ x∈r.1,x∈l) l 0 [] (fun j out x hx ⟨ho,hm⟩=>by
  have hj:=(zg.1 hx).1
  obtain ⟨K,hK1,hK2⟩:=nF out (by omega) (f:=jb out s ((0 + j:Nat) : Int) l k) (fun i y hy=>by
   have hi:=(zg.1 hy).1
   obtain ⟨b,hb⟩:=K4 h hB x y k
   refine ⟨!b,?_⟩
   unfold jb
   simp only [bK hy,if_true,aE hy,aE (show l[0 + j]? = some x by rwa [Nat.zero_add]),hb,zb,aY hi (show out.length≤1000000 by omega)]) (by unfold jb; simp only [bE,zf,if_false,zb])
  unfold gh
  dsimp only
  rw [hK1]
  simp only [zb]
  rw [oa hK2]
  simp only [zb]
  rw [aF (by simp; omega)]
  simp only [zb]
  rw [aF (by simp; omega)]
  simp only [zb]
  rw [kt hK2]
  simp only [zb]
  rw [aF (by simp; omega)]
  refine ⟨_,rfl,fun a' e=>?_,fun r e=>by cases e⟩
  injection e with e
  subst e
  refine ⟨by simp; omega,fun y hy=>?_⟩
  simp only [List.nil_append,List.mem_append,List.mem_singleton] at hy
  rcases hy with (hy | rfl) | hy
  ·exact hm y (List.mem_of_mem_take hy)
  ·exact List.mem_of_getElem? hx
  ·exact hm y (List.mem_of_mem_drop hy)) (fun b ⟨hb,hm⟩=>⟨by simpa using hb,hm⟩) ⟨by simp,by simp⟩
 rw [e1]
 exact ⟨l,_,rfl,rfl,e2.1,e2.2⟩
theorem N1 {B:Nat} {s:aa} (h:SzS B s) (hB:B≤1000000) (q:ByteArray) : ∃ r,Ad s q=some r∧r.length≤B∧∀ i∈r,∃ x∈s.aq,x.fId=i:=by
 have k1:=h.apps
 unfold Ad
 dsimp only
 rw [Ab s q [] (by omega)]
 obtain ⟨r,e1,e2⟩:=aW (g:=gm s q) (fin:=fun b=>(b,(s.aq.length:Int))) (fun j b=>b.length≤j∧∀ y∈b,y∈s.aq) (fun r=>r.1.length≤s.aq.length∧∀ y∈r.1,y∈s.aq) s.aq 0 [] (fun j out x hx ⟨ho,hm⟩=>by
  have hj:=(zg.1 hx).1
  unfold gm
  simp only [fg,zb,orB]
  split
  ·exact ⟨_,rfl,fun a' e=>by injection e with e; subst e; exact ⟨Nat.le_succ_of_le ho,hm⟩,fun r e=>by cases e⟩
  obtain ⟨K,hK1,hK2⟩:=nF out (by omega) (f:=jc out x) (fun i y hy=>by
   have hi:=(zg.1 hy).1
   refine ⟨decide (y.bw≥x.bw),?_⟩
   unfold jc
   simp only [bK hy,if_true,aE hy,zb,aY hi (show out.length≤1000000 by omega)]) (by unfold jc; simp only [bE,zf,if_false,zb])
  rw [hK1]
  simp only [zb]
  rw [oa hK2]
  simp only [zb]
  rw [aF (by simp; omega)]
  simp only [zb]
  rw [aF (by simp; omega)]
  simp only [zb]
  rw [kt hK2]
  simp only [zb]
  rw [aF (by simp; omega)]
  refine ⟨_,rfl,fun a' e=>?_,fun r e=>by cases e⟩
  injection e with e
  subst e
  refine ⟨by show (([] ++ out.take K ++ [x])++out.drop K).length≤0 + j + 1; simp; omega,fun y hy=>?_⟩
  simp only [List.nil_append,List.mem_append,List.mem_singleton] at hy
  rcases hy with (hy | rfl) | hy
  ·exact hm y (List.mem_of_mem_take hy)
  ·exact List.mem_of_getElem? hx
  ·exact hm y (List.mem_of_mem_drop hy)) (fun b ⟨hb,hm⟩=>⟨by simpa using hb,hm⟩) ⟨by simp,by simp⟩
 rw [e1]
 simp only [zb]
 have e:gj r.1=fun acc (x:aC)=>if true=true then (aX acc [x.fId]).map (fun a=>(.inl a:List Int⊕(List Int×Int))) else some (.inl acc):=by
  funext acc x
  unfold gj
  simp only [if_true]
  cases aX acc [x.fId] <;> rfl
 have e3:=e2.1
 rw [Aa r.1 [] (by omega),e,cr (fun _=>true) aC.fId _ r.1 [] (by simp; omega)]
 refine ⟨_,rfl,?_,fun i hi=>?_⟩
 ·have hf:=List.length_filter_le (fun _:aC=>true) r.1
  rw [List.nil_append,List.length_map]
  omega
 ·rw [List.nil_append,List.mem_map] at hi
  obtain ⟨y,hy,e4⟩:=hi
  exact ⟨y,e2.2 y (List.mem_filter.1 hy).1,e4⟩
theorem Cp:∀ (n:Nat) (p:ByteArray),du n p < n→du (n + 1) p=du n p
 | 0,_,h=>absurd h (Nat.not_lt_zero _)
 | n + 1,p,h=>by
  unfold du at h ⊢
  split
  ·rfl
  ·rename_i h0
   rw [if_neg h0] at h
   rw [Cp n _ (by omega)]
theorem IH {x p:ByteArray} (hx:dP x=some p) (hp : 0 < p.size) (xs:x.size≤1000000) (hd:du 6 x≤4) : du 6 p + 1=du 6 x:=by
 obtain ⟨r,h1,h2⟩:=nR x xs
 rw [hx] at h1
 injection h1 with h1
 subst h1
 have e:du 6 x=du 5 p + 1:=by
  show (if x.size=0 then 0 else du 5 (eO x) + 1) = _
  rw [if_neg (by omega)]
  unfold eO
  rw [hx]
  rfl
 rw [e] at hd ⊢
 rw [Cp 5 p (by omega)]
theorem Cw (c:ax) (p:ByteArray) (h:SzC c) {l:List ByteArray} (hl:eX c p=some l) : ∀ x∈l,(∃ q∈c.ae,q.aI=x)∧dP x=some p∧0 < p.size:=by
 unfold eX at hl
 have hs:=jq c p [] (by have:=h.queues; omega)
 dsimp only at hl
 rw [hs] at hl
 obtain ⟨r,h1,h2⟩:=aW (g:=cA c p) (fin:=fun a=>(a,(c.ae.length:Int))) (fun k a=>a.length≤k∧∀ x∈a,(∃ q∈c.ae,q.aI=x)∧dP x=some p∧0 < p.size) (fun r=>∀ x∈r.1,(∃ q∈c.ae,q.aI=x)∧dP x=some p∧0 < p.size) c.ae 0 [] (fun j a x hx ⟨h1,h2⟩=>by
  have hm:=List.mem_of_getElem? hx
  have hj:=(zg.1 hx).1
  obtain ⟨r,hr,_⟩:=nR x.aI (h.paths x hm)
  have hqs:=h.queues
  unfold cA
  simp only [hr,zb,dN]
  split
  ·rename_i hc
   rw [Bool.and_eq_true] at hc
   rw [aF (by simp; omega)]
   refine ⟨_,rfl,fun a' e=>?_,fun r e=>by cases e⟩
   injection e with e
   subst e
   refine ⟨by simp; omega,fun y hy=>?_⟩
   simp only [List.mem_append,List.mem_singleton] at hy
   rcases hy with hy | rfl
   ·exact h2 y hy
   ·exact ⟨⟨x,hm,rfl⟩,by rw [hr,rY hc.2],qH hc.1⟩
  ·refine ⟨_,rfl,fun a' e=>?_,fun r e=>by cases e⟩
   injection e with e
   subst e
   exact ⟨by omega,h2⟩) (fun a ⟨h1,h2⟩=>h2) ⟨by simp,by simp⟩
 rw [h1] at hl
 injection hl with hl
 subst hl
 exact h2
def yI (self:aa→ByteArray→Int→Option (List ByteArray)) (s:aa) (k:Int) (out:List ByteArray) (x:ByteArray) : Option (List ByteArray⊕(List ByteArray×Int)) :=
 (self s x k).bind fun c=>(aX out c).bind fun b=>some (.inl b)
theorem Mc (self:aa→ByteArray→Int→Option (List ByteArray)) (l:List ByteArray) (s:aa) (k:Int) (hl:l.length≤1000000) : ah (jB self l s k) ab ([],0)=bk (yI self s k) (fun a=>(a,(l.length:Int))) [] l :=
 ay l (S:=List ByteArray×Int) (fun a k=>(a,k)) (yI self s k) (fun a=>(a,(l.length:Int))) (an hl) (fun i a x hx=>by
  have hk:=(zg.1 hx).1
  unfold jB yI
  simp only [bK hx,if_true,aE hx,zb,aY hk hl,H3,Option.map_some])
  (fun a=>by unfold jB; exact cE) []
theorem wR {B:Nat} {s:aa} (h:SzS B s) (hD:Deep s.bC) (hB:B≤1000000) (k:Int) : ∀ (d n:Nat) (p:ByteArray),4 - du 6 p≤d→d < n→d≤4→∃ r,ja n s p k=some r∧r.length≤16 ^ d
 | d,0,p,_,hn,_=>absurd hn (Nat.not_lt_zero _)
 | d,n + 1,p,hp,hn,hd=>by
  obtain ⟨l,m,h1,h2,h3,h4⟩:=N0 h hB p k
  obtain ⟨l',e1,e2,_⟩:=tj s.bC p h.conf.sz
  rw [h1] at e1
  injection e1 with e1
  subst e1
  have hq:=hD.few
  unfold ja
  simp only [h2,zb]
  split
  ·exact ⟨_,rfl,by show 1≤16 ^ d; exact Nat.one_le_pow _ _ (by omega)⟩
  ·rename_i hne
   have hm : 0 < m.length:=by
    rcases Nat.eq_zero_or_pos m.length with h0 | h0
    ·rw [h0] at hne; exact absurd rfl hne
    ·exact h0
   have kid:=Cw s.bC p h.conf.sz h1
   have kd:∀ x∈m,du 6 p + 1=du 6 x∧du 6 x≤4:=fun x hx=>by
    obtain ⟨⟨q,hq1,hq2⟩,a1,a2⟩:=kid x (h4 x hx)
    subst hq2
    exact ⟨IH a1 a2 (h.conf.sz.paths q hq1) (hD.deep q hq1),hD.deep q hq1⟩
   have hd0 : 0 < d:=by
    obtain ⟨a1,a2⟩:=kd m[0] (List.getElem_mem hm)
    omega
   obtain ⟨d',rfl⟩ : ∃ d',d=d' + 1:=⟨d - 1,by omega⟩
   have hpow : 16 ^ d'≤16 ^ 3:=Nat.pow_le_pow_right (by omega) (by omega)
   rw [Mc _ m s k (by omega)]
   obtain ⟨r,r1,r2⟩:=aW (g:=yI (ja n) s k) (fin:=fun a=>(a,(m.length:Int))) (fun j a=>a.length≤j * 16 ^ d') (fun r=>r.1.length≤m.length * 16 ^ d') m 0 [] (fun j a x hx ha=>by
    have hj:=(zg.1 hx).1
    obtain ⟨a1,a2⟩:=kd x (List.mem_of_getElem? hx)
    obtain ⟨c,c1,c2⟩:=wR h hD hB k d' n x (by omega) (by omega) (by omega)
    have hj2:(0 + j) * 16 ^ d'≤16 * 16 ^ 3:=Nat.mul_le_mul (by omega) hpow
    unfold yI
    rw [c1]
    simp only [zb]
    rw [aF (by omega)]
    refine ⟨_,rfl,fun a' e=>?_,fun r e=>by cases e⟩
    injection e with e
    subst e
    rw [List.length_append,Nat.succ_mul]
    omega) (fun a ha=>by simpa using ha) (by simp)
   rw [r1]
   refine ⟨_,rfl,Nat.le_trans r2 ?_⟩
   rw [Nat.pow_succ,Nat.mul_comm]
   exact Nat.mul_le_mul_left _ (by omega)
theorem Hj {B:Nat} {s:aa} (h:SzS B s) (hD:Deep s.bC) (hB:B≤1000000) (k:Int) : ∃ r,tu s k=some r∧r.length≤65536:=by
 obtain ⟨r,h1,h2⟩:=wR h hD hB k 4 ab ⟨#[114,111,111,116]⟩ (by omega) (by unfold ab; omega) (by omega)
 unfold tu
 rw [h1]
 exact ⟨_,rfl,h2⟩
def Ok {α : Type} (o:Option α) (P : α→Prop) : Prop:=∃ r,o=some r∧P r
theorem Ok.bind {α β : Type} {o:Option α} {f : α→Option β} {P : α→Prop} {Q : β→Prop} (h1:Ok o P) (h2:∀ r,P r→Ok (f r) Q) : Ok (Option.bind o f) Q:=by
 obtain ⟨r,e,hr⟩:=h1
 rw [e]
 exact h2 r hr
theorem Ok.ite {α : Type} {c:Prop} [Decidable c] {a b:Option α} {Q : α→Prop} (h1:c→Ok a Q) (h2 : ¬c→Ok b Q) : Ok (if c then a else b) Q:=by
 by_cases h:c
 ·rw [if_pos h]; exact h1 h
 ·rw [if_neg h]; exact h2 h
theorem Ok.pure {α : Type} {a : α} {Q : α→Prop} (h:Q a) : Ok (some a) Q:=⟨a,rfl,h⟩
theorem Ok.weak {α : Type} {o:Option α} {P Q : α→Prop} (h:Ok o P) (hq:∀ r,P r→Q r) : Ok o Q:=by
 obtain ⟨r,e,hr⟩:=h
 exact ⟨r,e,hq r hr⟩
theorem D1 {σ α τ : Type} {g : σ→α→Option (σ⊕τ)} {fin : σ→τ} (I:Nat→σ→Prop) (l:List α) (a : σ) (h:∀ (j:Nat) (a : σ) (x : α),l[j]? = some x→I j a→Ok (g a x) (fun o=>∃ a',o = .inl a'∧I (j + 1) a')) (hI:I 0 a) : Ok (bk g fin a l) (fun r=>∃ a',r=fin a'∧I l.length a'):=by
 refine aW I _ l 0 a (fun j a x hx ha=>?_) (fun a ha=>⟨a,rfl,by simpa using ha⟩) hI
 obtain ⟨o,e,a',h1,h2⟩:=h j a x hx (by simpa using ha)
 subst h1
 exact ⟨_,e,fun a'' e=>(by injection e with e; subst e; simpa using h2),fun r e=>(by cases e)⟩
theorem ub {σ α τ : Type} {g : σ→Int→α→Option (σ⊕τ)} {fin : σ→τ} (I:Nat→σ→Prop) (l:List α) (a : σ) (h:∀ (j:Nat) (a : σ) (x : α),l[j]? = some x→I j a→Ok (g a (j:Int) x) (fun o=>∃ a',o = .inl a'∧I (j + 1) a')) (hI:I 0 a) : Ok (nB g fin a 0 l) (fun r=>∃ a',r=fin a'∧I l.length a'):=by
 refine mD I _ l 0 a (fun j a x hx ha=>?_) (fun a ha=>⟨a,rfl,by simpa using ha⟩) hI
 obtain ⟨o,e,a',h1,h2⟩:=h j a x hx (by simpa using ha)
 subst h1
 exact ⟨_,by simpa using e,fun a'' e=>(by injection e with e; subst e; simpa using h2),fun r e=>(by cases e)⟩
theorem jm {α : Type} {l:List α} {i:Int} (h0 : 0≤i) (h1:i < (l.length:Int)) : Ok (au l i) (fun x=>x∈l):=by
 obtain ⟨x,h⟩:=J0 h0 h1
 exact ⟨x,h.1,h.2⟩
theorem Di {a n:Int} (hn : 0 < n) : -n < a.tmod n∧a.tmod n < n:=by
 constructor
 ·have:=Int.lt_tmod_of_pos a hn; omega
 ·exact Int.tmod_lt_of_pos a hn
def ez (v_s:aa) (cu:Int) (st:(List bu)) (x_:bu) : Option (((List bu))⊕(((List bu)×Int))) :=
 let v_l:=st
 if (x_.bH != cu)=true then
 (aX v_l [x_]).bind fun b4=>let v_l:(List bu):=b4
 some (.inl v_l)
 else
 some (.inl v_l)
theorem wu (v_s:aa) (cu:Int) (a_:(List bu)) (hl:v_s.aU.length≤1000000) : ah (jA v_s cu) ab (a_,(0))=bk (ez v_s cu) (fun a_=>(a_,((v_s.aU.length:Int)))) a_ v_s.aU :=
 ay v_s.aU (S:=(List bu)×Int) (fun a_ k_=>(a_,(k_))) (ez v_s cu) (fun a_=>(a_,((v_s.aU.length:Int)))) (an hl) (fun k a x hx=>by
  unfold jA ez; exact bI)
  (fun a=>by unfold jA; exact cE) a_
def jz (v_s:aa) (cu:Int) (st:Unit) (x_:bu) : Option ((Unit)⊕((Int)⊕(bu×Bool))) :=
 if (x_.bH==cu)=true then
 some (.inr (.inr (x_,true)))
 else
 some (.inl ())
theorem zR (v_s:aa) (cu:Int) (a_:Unit) (hl:v_s.aU.length≤1000000) : ah (lU v_s cu) ab (0)=bk (jz v_s cu) (fun a_=>(.inl ((v_s.aU.length:Int)))) a_ v_s.aU :=
 ay v_s.aU (S:=Int) (fun a_ k_=>(k_)) (jz v_s cu) (fun a_=>(.inl ((v_s.aU.length:Int)))) (an hl) (fun k a x hx=>by
  unfold lU jz; exact bI)
  (fun a=>by unfold lU; exact cE) a_
def fc (v_s:aa) (eR:Int) (cG:Int) (st:Unit) (x_:bu) : Option ((Unit)⊕((Int)⊕(Bool))) :=
 (if (x_.bF==eR)=true then some (x_.bw==cG) else some false).bind fun q4=>if q4=true then
 some (.inr (.inr true))
 else
 some (.inl ())
theorem xS (v_s:aa) (eR:Int) (cG:Int) (a_:Unit) (hl:v_s.aU.length≤1000000) : ah (ke v_s eR cG) ab (0)=bk (fc v_s eR cG) (fun a_=>(.inl ((v_s.aU.length:Int)))) a_ v_s.aU :=
 ay v_s.aU (S:=Int) (fun a_ k_=>(k_)) (fc v_s eR cG) (fun a_=>(.inl ((v_s.aU.length:Int)))) (an hl) (fun k a x hx=>by
  unfold ke fc; exact bI)
  (fun a=>by unfold ke; exact cE) a_
theorem uh {α : Type} (key : α→Int) (x : α) (l:List α) (a : α) : cU key (x::l) a=if key x < key a then x::cU key l a else if key x=key a then a::l else a::x::l:=by
 unfold cU
 by_cases h:key x < key a
 ·rw [if_pos h]
  have hd:decide (key x < key a)=true:=by simpa using h
  simp only [List.takeWhile_cons,hd,if_true,List.length_cons,List.take_succ_cons,List.getElem?_cons_succ,List.cons_append]
  generalize (l.takeWhile fun x=>decide (key x < key a)).length=K
  cases l[K]? with
  | none=>rfl
  | some y =>
   dsimp only
   split <;> rfl
 ·rw [if_neg h]
  have hd:decide (key x < key a)=false:=by simpa using h
  simp only [List.takeWhile_cons,hd,zf,if_false,List.length_nil,List.take_zero,List.nil_append,List.getElem?_cons_zero,Nat.zero_add]
  by_cases he:key x=key a
  ·rw [if_pos he]
   have hb:(key x==key a)=true:=by simpa using he
   simp [hb]
  ·rw [if_neg he]
   have hb:(key x==key a)=false:=by simpa using he
   simp [hb]
theorem qW {α : Type} (key : α→Int) (a : α) : ∀ l:List α,iM key l→(∃ x∈l,key x=key a)→(cU key l a).length=l.length
 | [],_,⟨x,hx,_⟩=>by cases hx
 | y::l,hs,⟨x,hx,he⟩=>by
  have hs':=List.pairwise_cons.1 hs
  rw [uh]
  split
  ·rename_i h
   rcases List.mem_cons.1 hx with rfl | hx
   ·omega
   ·rw [List.length_cons,List.length_cons,qW key a l hs'.2 ⟨x,hx,he⟩]
  ·split
   ·rfl
   ·rename_i h1 h2
    rcases List.mem_cons.1 hx with rfl | hx
    ·exact absurd he h2
    ·have:=hs'.1 x hx
     omega
theorem iQ {α : Type} (key : α→Int) (a : α) : ∀ l:List α,iM key l→iM key (cU key l a)
 | [],_=>List.pairwise_singleton _ _
 | y::l,hs=>by
  have hs':=List.pairwise_cons.1 hs
  rw [uh]
  split
  ·rename_i h
   refine List.pairwise_cons.2 ⟨fun x hx=>?_,iQ key a l hs'.2⟩
   rcases py hx with rfl | hx
   ·exact h
   ·exact hs'.1 x hx
  ·split
   ·rename_i h1 h2
    exact List.pairwise_cons.2 ⟨fun x hx=>by have:=hs'.1 x hx; omega,hs'.2⟩
   ·rename_i h1 h2
    refine List.pairwise_cons.2 ⟨fun x hx=>?_,hs⟩
    rcases List.mem_cons.1 hx with rfl | hx
    ·omega
    ·have:=hs'.1 x hx; omega
theorem D8 {α : Type} (key : α→Int) (a : α) (i:Int) : ∀ l:List α,(∃ x∈l,key x=i)→∃ x∈cU key l a,key x=i
 | [],⟨x,hx,_⟩=>by cases hx
 | y::l,⟨x,hx,he⟩=>by
  rw [uh]
  split
  ·rcases List.mem_cons.1 hx with rfl | hx
   ·exact ⟨x,List.mem_cons_self,he⟩
   ·obtain ⟨z,hz,hz2⟩:=D8 key a i l ⟨x,hx,he⟩
    exact ⟨z,List.mem_cons_of_mem _ hz,hz2⟩
  ·split
   ·rename_i h1 h2
    rcases List.mem_cons.1 hx with rfl | hx
    ·exact ⟨a,List.mem_cons_self,by omega⟩
    ·exact ⟨x,List.mem_cons_of_mem _ hx,he⟩
   ·exact ⟨x,List.mem_cons_of_mem _ hx,he⟩
theorem SzS.putIn {B:Nat} {s:aa} (h:SzS B s) (hs:iM aC.fId s.aq) {a:aC} (hi:∃ x∈s.aq,x.fId=a.fId) (ha:SzA B a) : SzS B { s with aq:=cU aC.fId s.aq a } :=
 ⟨h.conf,h.nodes,by show (cU _ _ _).length≤B; rw [qW _ _ _ hs hi]; exact h.apps,h.conts,h.slots,h.plans,fun x hx=>by
  rcases py hx with rfl | hx
  ·exact ha
  ·exact h.app x hx⟩
def VX (a:aQ) (n:aA) : Int:=(mX a n).getD 0
theorem zX (a:aQ) (n:aA) : mX a n=some (VX a n):=by
 have:∃ r,mX a n=some r:=by
  unfold mX
  simp only [dN,orB,zb]
  repeat' split
  all_goals exact ⟨_,rfl⟩
 obtain ⟨r,e⟩:=this
 unfold VX
 rw [e]
 rfl
def Z1 (a:aQ) (n:aA) : Bool:=(tt a n).getD false
theorem Gj (a:aQ) (n:aA) : tt a n=some (Z1 a n):=by
 have:∃ r,tt a n=some r:=by
  unfold tt
  simp only [zX,zb]
  repeat' split
  all_goals exact ⟨_,rfl⟩
 obtain ⟨r,e⟩:=this
 unfold Z1
 rw [e]
 rfl
theorem Gh {B:Nat} {s:aa} (h:SzS B s) (hB:B≤1000000) (q:ByteArray) (a:aQ) : ∃ r,zV s q a=some r:=by
 obtain ⟨u,hu⟩:=ff h hB q a.aP
 have k2:=h.nodes.1
 unfold zV
 simp only [hu,ek,nQ s _ _ h.conf (Nat.le_trans k2 hB),kC,zb]
 exact ⟨_,rfl⟩
theorem CE {B:Nat} {s:aa} (h:SzS B s) (hB:B≤1000000) (q:ByteArray) (k u:Int) : ∃ r,u5 s q k u=some r:=by
 obtain ⟨v,hv⟩:=C5 h hB q k u
 have k2:=h.nodes.1
 unfold u5
 simp only [hv,PH s _ _ h.conf (Nat.le_trans k2 hB),kC,zb]
 exact ⟨_,rfl⟩
theorem SzS.slot {B:Nat} {s:aa} (h:SzS B s) {l:List bu} (hl:l.length≤B) : SzS B { s with aU:=l } := ⟨h.conf,h.nodes,h.apps,h.conts,hl,h.plans,h.app⟩
theorem SzS.cont {B:Nat} {s:aa} (h:SzS B s) {l:List am} (hl:l.length≤B) : SzS B { s with ac:=l } := ⟨h.conf,h.nodes,h.apps,hl,h.slots,h.plans,h.app⟩
theorem SzS.seq {B:Nat} {s:aa} (h:SzS B s) (n:Int) : SzS B { s with rT:=n } := ⟨h.conf,h.nodes,h.apps,h.conts,h.slots,h.plans,h.app⟩
theorem wQ (s:aa) (n:Int) (hl:s.aU.length≤1000000) : fv s n=some { s with aU:=s.aU.filter fun c=>c.bH != n } := by
 unfold fv
 dsimp only
 have e:ez s n=fun acc x=>if (x.bH != n)=true then (aX acc [id' x]).map (fun a=>(.inl a:List bu⊕(List bu×Int))) else some (.inl acc):=by
  funext acc x
  unfold ez
  dsimp only [id']
  split
  ·cases aX acc [x] <;> rfl
  ·rfl
 rw [wu s n [] hl,e,cr (fun c:bu=>c.bH != n) id' _ s.aU [] (by simpa using hl)]
 simp only [zb,List.nil_append,yF]
theorem NM (s:aa) (n:Int) (hl:s.aU.length≤1000000) : ∃ r,zS s n=some r:=by
 unfold zS
 dsimp only
 rw [zR s n () hl,show jz s n=fun (_:Unit) x=>if (x.bH==n)=true then some (.inr (.inr (x,true))) else some (.inl ()) from rfl,
  kJ (fun x:bu=>x.bH==n) (fun x=>(Sum.inr (x,true) : Int⊕bu×Bool)) (.inl (s.aU.length:Int)) s.aU]
 simp only [zb]
 cases s.aU.find? fun x=>x.bH==n <;> exact ⟨_,rfl⟩
theorem K1 (s:aa) (a p:Int) (hl:s.aU.length≤1000000) : ∃ r,vU s a p=some r:=by
 unfold vU
 dsimp only
 rw [xS s a p () hl]
 obtain ⟨r,e1,_⟩:=aW (g:=fc s a p) (fin:=fun _=>(.inl (s.aU.length:Int))) (fun _ _=>True) (fun _=>True) s.aU 0 () (fun j b x hx _=>by
  unfold fc
  simp only [dN,zb]
  split <;> exact ⟨_,rfl,fun _ _=>trivial,fun _ _=>trivial⟩) (fun _ _=>trivial) trivial
 rw [e1]
 simp only [zb]
 cases r <;> exact ⟨_,rfl⟩
theorem NU {B:Nat} {s:aa} (h:SzS B s) (hB:B + 1≤1000000) (x:bu) : ∃ r,ss s x=some r∧SzS (B + 1) r∧r.aq=s.aq:=by
 have k1:=h.slots
 obtain ⟨K,hK1,hK2⟩:=nF s.aU (by omega) (f:=lV s x) (fun i y hy=>by
  have hi:=(zg.1 hy).1
  refine ⟨decide (y.bH < x.bH),?_⟩
  unfold lV
  simp only [bK hy,if_true,aE hy,zb,aY hi (show s.aU.length≤1000000 by omega)]) (by unfold lV; simp only [bE,zf,if_false,zb])
 unfold ss
 dsimp only
 rw [hK1]
 simp only [zb]
 rw [oa hK2]
 simp only [zb]
 rw [aF (by simp; omega)]
 simp only [zb]
 rw [aF (by simp; omega)]
 simp only [zb]
 rw [kt hK2]
 simp only [zb]
 rw [aF (by simp; omega)]
 exact ⟨_,rfl,(h.mono (Nat.le_succ _)).slot (by simp; omega),rfl⟩
theorem zU {B:Nat} {s:aa} (h:SzS B s) (hB:B + 2≤1000000) (n:aA) {a:aC} (ha:SzA B a) (x:aQ) : ∃ r,mW s n a x=some r∧SzS (B + 2) r.1∧(iM aC.fId s.aq→iM aC.fId r.1.aq):=by
 have k1:=h.conts; have k2:=h.apps; have k3:=ha.asks; have k4:=ha.grants
 obtain ⟨t,t1,t2⟩:=Pz a.bL x.bw (by omega)
 unfold mW
 simp only [t1,zb]
 generalize hc:(⟨_,a.fId,n.fId,x.cp,x.bw,n.aP,(a.dr==1),0⟩ : am)=c
 have hs:SzS B { s with rT:=i64.wrap (s.rT + 1) } := h.seq _
 generalize hS:({ s with rT:=i64.wrap (s.rT + 1) } : aa)=S at hs ⊢
 have hcl:S.ac=s.ac:=by rw [← hS]
 have hal:S.aq=s.aq:=by rw [← hS]
 have fin:∀ b:aC,SzA (B + 1) b→∃ r,(Option.bind (ah (ib S c) ab 0) fun r11=>Option.bind (hiO s.ac r11) fun b12=>Option.bind (aX ([] : List am) b12) fun b13=>Option.bind (aX b13 [c]) fun b14=>Option.bind (loO s.ac r11) fun b15=>Option.bind (aX b14 b15) fun b16=>Option.bind (eI { s with ac:=b16,rT:=i64.wrap (s.rT + 1) } b) fun c17=>some (c17,c))=some r∧SzS (B + 2) r.1∧(iM aC.fId s.aq→iM aC.fId r.1.aq):=by
  intro b hb
  obtain ⟨K,hK1,hK2⟩:=nF s.ac (by omega) (f:=ib S c) (fun i y hy=>by
   have hi:=(zg.1 hy).1
   refine ⟨decide (y.fId < c.fId),?_⟩
   unfold ib
   simp only [hcl,bK hy,if_true,aE hy,zb,aY hi (show s.ac.length≤1000000 by omega)]) (by unfold ib; simp only [hcl,bE,zf,if_false,zb])
  rw [hK1]
  simp only [zb]
  rw [oa hK2]
  simp only [zb]
  rw [aF (by simp; omega)]
  simp only [zb]
  rw [aF (by simp; omega)]
  simp only [zb]
  rw [kt hK2]
  simp only [zb]
  rw [aF (by simp; omega)]
  simp only [zb]
  rw [kF _ _ (by show s.aq.length + 1≤_; omega)]
  refine ⟨_,rfl,?_⟩
  have hlen:(([] ++ s.ac.take K ++ [c])++s.ac.drop K).length≤B + 1:=by simp; omega
  have h2:SzS (B + 1) { s with ac:=([] ++ s.ac.take K ++ [c])++s.ac.drop K,rT:=i64.wrap (s.rT + 1) } := by
   have hm:=h.mono (Nat.le_succ B)
   exact ⟨hm.conf,hm.nodes,hm.apps,hlen,hm.slots,hm.plans,hm.app⟩
  exact ⟨h2.put (hb.mono (Nat.le_succ _)),fun hs=>iQ _ _ _ hs⟩
 have ha1:=ha.mono (Nat.le_succ B)
 split
 ·simp only [zb]
  refine fin _ ?_
  exact ⟨⟨ha1.queue.1,h.nodes.2.2.1⟩,Nat.zero_le _,ha1.grants,ha1.kills,ha1.told,ha1.lost⟩
 ·rw [aF (by simp; omega)]
  simp only [zb]
  rw [aF (by simp; omega)]
  simp only [zb]
  refine fin _ ?_
  exact ⟨ha1.queue,by show t.1.length≤_; omega,by simp; omega,ha1.kills,ha1.told,ha1.lost⟩
def AC (B:Nat) (s t:aa) : Prop:=SzS B t∧iM aC.fId t.aq∧∀ i,(∃ x∈s.aq,x.fId=i)→∃ x∈t.aq,x.fId=i
theorem QO {B:Nat} {s:aa} (h:SzS B s) (hs:iM aC.fId s.aq) (hB:B + 2≤1000000) (n:aA) {a:aC} (hi:∃ x∈s.aq,x.fId=a.fId) (ha:SzA B a) (x:aQ) (first:Bool) : ∃ r,vV s n a x first=some r∧SzS (B + 2) r.1∧iM aC.fId r.1.aq∧(r.2.1=0→AC B s r.1):=by
 have k1:=h.apps; have k2:=h.slots; have k3:=ha.asks; have k4:=h.conts; have k5:=h.nodes.1
 have stay:AC B s s:=⟨h,hs,fun _ e=>e⟩
 have h2:=h.mono (show B≤B + 2 by omega)
 obtain ⟨d,hd⟩:=Gh h (by omega) a.bP x
 obtain ⟨m,hm,hm2⟩:=PA a.bL x.bw (by omega)
 obtain ⟨o,ho⟩:=CK h (by omega) a.bP ha.queue.1 n.aP x.cp
 obtain ⟨g,hg,hg2,hg3⟩:=zU h hB n ha x
 obtain ⟨p,hp⟩:=K1 s a.fId x.bw (by omega)
 obtain ⟨q,hq,hq2,hq3⟩:=NU h (by omega) (⟨n.fId,a.fId,x.bw⟩ : bu)
 have hput:∃ t,eI s { a with bL:=m } = some t∧AC B s t:=by
  refine ⟨_,kF s _ (by omega),h.putIn hs hi ⟨ha.queue,by show m.length≤B; omega,ha.grants,ha.kills,ha.told,ha.lost⟩,iQ _ _ _ hs,fun i e=>D8 _ _ i _ e⟩
 obtain ⟨t,ht,ht2⟩:=hput
 unfold vV
 simp only [hd,zX,Gj,kC,orB,dN,zb,hm,ht,ho,hg,hp,hq,xH s n.fId (show s.aj.length≤1000000 by omega) (show s.ac.length≤1000000 by omega)]
 split
 ·exact ⟨_,rfl,h2,hs,fun _=>stay⟩
 split
 ·split
  ·exact ⟨_,rfl,ht2.1.mono (by omega),ht2.2.1,fun _=>ht2⟩
  ·exact ⟨_,rfl,h2,hs,fun _=>stay⟩
 split
 ·exact ⟨_,rfl,h2,hs,fun _=>stay⟩
 split
 ·exact ⟨_,rfl,hg2,hg3 hs,fun e=>absurd (show (1:Int)=0 from e) (by decide)⟩
 split
 ·exact ⟨_,rfl,hq2.mono (by omega),by show iM _ q.aq; rw [hq3]; exact hs,fun e=>absurd (show (2:Int)=0 from e) (by decide)⟩
 ·exact ⟨_,rfl,h2,hs,fun _=>stay⟩
theorem Wa {s:aa} {id:Int} (h:∃ x∈s.aq,x.fId=id) : ch s id∈s.aq∧(ch s id).fId=id:=by
 obtain ⟨x,hx,e⟩:=h
 unfold ch
 cases hf:s.aq.find? fun c=>c.fId==id with
 | none =>
  have:=List.find?_eq_none.1 hf x hx
  simp [e] at this
 | some a =>
  have h2:=List.find?_some hf
  exact ⟨List.mem_of_find?_eq_some hf,by simpa using h2⟩
def AE (B:Nat) (t:aa) : Prop:=SzS (B + 2) t∧iM aC.fId t.aq
theorem SW {B:Nat} {s:aa} (h:SzS B s) (hs:iM aC.fId s.aq) (hB:B + 2≤1000000) (n:aA) (l:List aQ) (a:aC) (hl:a.bL=l) (hl2:l.length≤B) (ids:List Int) (hI:∀ i∈ids,∃ x∈s.aq,x.fId=i) (j:Nat) (id:Int) (hj:ids[j]? = some id) (first:Bool) : ∃ r,ah (hJ a (j:Int) ids n first) ab (s,0)=some r∧(match r with | .inl m=>AC B s m.1 | .inr m=>AE B m.1):=by
 refine aJ (fun st=>AC B s st.1∧∃ k:Nat,st.2=(k:Int)∧k≤l.length) (fun st=>l.length - st.2.toNat) _ (fun st ⟨⟨q1,q2,q3⟩,k,h1,h2⟩=>?_) ab (s,0) ⟨⟨h,hs,fun _ e=>e⟩,0,rfl,Nat.zero_le _⟩ (by have:=an (show l.length≤1000000 by omega); omega)
 have k1:=q1.apps
 unfold hJ
 simp only [h1,hl]
 by_cases hlt:k < l.length
 ·have g1:l[k]? = some l[k]:=zq hlt
  have g2:=Wa (q3 id (hI id (List.mem_of_getElem? hj)))
  obtain ⟨r,r1,r2,r3,r4⟩:=QO q1 q2 hB n (a:=ch st.1 id) ⟨_,g2.1,rfl⟩ (q1.get id) l[k] first
  simp only [bK g1,if_true,aE g1,aE hj,dY st.1 id (by omega),r1,zb,aY hlt (show l.length≤1000000 by omega)]
  split
  ·exact .inr ⟨_,rfl,r2,r3⟩
  ·rename_i hne
   have h0:r.2.1=0:=by simpa using hne
   obtain ⟨t1,t2,t3⟩:=r4 h0
   exact .inl ⟨_,rfl,⟨⟨t1,t2,fun i e=>t3 i (q3 i e)⟩,k + 1,rfl,hlt⟩,by simp only [zt]; omega⟩
 ·have:k=l.length:=by omega
  subst this
  simp only [bE,zf,if_false]
  exact .inr ⟨_,rfl,q1,q2,q3⟩
theorem SX {B:Nat} {s:aa} (h:SzS B s) (hs:iM aC.fId s.aq) (hB:B + 2≤1000000) (n:aA) (ids:List Int) (hI:∀ i∈ids,∃ x∈s.aq,x.fId=i) (hI2:ids.length≤1000000) (lv:List ByteArray) (i:Nat) (q:ByteArray) (hi:lv[i]? = some q) (first:Bool) : ∃ r,ah (hZ ids (i:Int) lv n first) ab (s,0)=some r∧(match r with | .inl m=>AC B s m.1 | .inr m=>AE B m.1):=by
 refine aJ (fun st=>AC B s st.1∧∃ k:Nat,st.2=(k:Int)∧k≤ids.length) (fun st=>ids.length - st.2.toNat) _ (fun st ⟨⟨q1,q2,q3⟩,k,h1,h2⟩=>?_) ab (s,0) ⟨⟨h,hs,fun _ e=>e⟩,0,rfl,Nat.zero_le _⟩ (by have:=an hI2; omega)
 have k1:=q1.apps
 unfold hZ
 simp only [h1]
 by_cases hlt:k < ids.length
 ·have g1:ids[k]? = some ids[k]:=zq hlt
  obtain ⟨m,hm⟩:=CE q1 (by omega) q n.aP (ch st.1 ids[k]).cZ
  simp only [bK g1,if_true,aE g1,aE hi,dY st.1 _ (show st.1.aq.length≤1000000 by omega),hm,zb,aY hlt hI2]
  split
  ·exact .inl ⟨_,rfl,⟨⟨q1,q2,q3⟩,k + 1,rfl,hlt⟩,by simp only [zt]; omega⟩
  ·have ha:=(q1.get ids[k]).asks
   obtain ⟨r,r1,r2⟩:=SW q1 q2 hB n _ (ch st.1 ids[k]) rfl ha ids (fun i hi=>q3 i (hI i hi)) k _ g1 first
   rw [r1]
   simp only [zb]
   cases r with
   | inr m=>exact .inr ⟨_,rfl,r2⟩
   | inl m =>
    obtain ⟨t1,t2,t3⟩:=r2
    exact .inl ⟨_,rfl,⟨⟨t1,t2,fun i e=>t3 i (q3 i e)⟩,k + 1,rfl,hlt⟩,by simp only [zt]; omega⟩
 ·have:k=ids.length:=by omega
  subst this
  simp only [bE,zf,if_false]
  exact .inr ⟨_,rfl,q1,q2,q3⟩
theorem zT {B:Nat} {s:aa} (h:SzS B s) (hs:iM aC.fId s.aq) (hB:B + 2≤1000000) (n:aA) (first:Bool) : ∃ r,eb s n first=some r∧AE B r.1∧(r.2.1=0→SzS B r.1∨AE B r.1):=by
 obtain ⟨lv,h1,h2⟩:=Hj h h.conf.deep (by omega) n.aP
 have hl:lv.length≤1000000:=by omega
 unfold eb
 simp only [h1,zb]
 obtain ⟨r,r1,r2⟩:=aJ (f:=ia lv n first) (fun st=>AC B s st.1∧∃ k:Nat,st.2=(k:Int)∧k≤lv.length) (fun st=>lv.length - st.2.toNat) (fun r=>match r with | .inl m=>AC B s m.1 | .inr m=>AE B m.1) (fun st ⟨⟨q1,q2,q3⟩,k,h1,h2⟩=>by
  have k1:=q1.apps
  unfold ia
  simp only [h1]
  by_cases hlt:k < lv.length
  ·have g1:lv[k]? = some lv[k]:=zq hlt
   obtain ⟨ids,a1,a2,a3⟩:=N1 q1 (by omega) lv[k]
   obtain ⟨r,r1,r2⟩:=SX q1 q2 hB n ids a3 (by omega) lv k _ g1 first
   simp only [bK g1,if_true,aE g1,a1,r1,zb,aY hlt hl]
   cases r with
   | inr m=>exact .inr ⟨_,rfl,r2⟩
   | inl m =>
    obtain ⟨t1,t2,t3⟩:=r2
    exact .inl ⟨_,rfl,⟨⟨t1,t2,fun i e=>t3 i (q3 i e)⟩,k + 1,rfl,hlt⟩,by simp only [zt]; omega⟩
  ·have:k=lv.length:=by omega
   subst this
   simp only [bE,zf,if_false]
   exact .inr ⟨_,rfl,q1,q2,q3⟩) ab (s,0) ⟨⟨h,hs,fun _ e=>e⟩,0,rfl,Nat.zero_le _⟩ (by have:=an hl; omega)
 rw [r1]
 simp only [zb]
 cases r with
 | inr m=>exact ⟨_,rfl,r2,fun _=>.inr r2⟩
 | inl m=>exact ⟨_,rfl,⟨r2.1.mono (by omega),r2.2.1⟩,fun _=>.inl r2.1⟩
theorem AE.mono {B C:Nat} {t:aa} (h:AE B t) (hc:B≤C) : AE C t:=⟨h.1.mono (by omega),h.2⟩
theorem NR {B:Nat} {s:aa} (h:SzS B s) (hs:iM aC.fId s.aq) (hB:B + 2≤1000000) (n:aA) (x:bu) : ∃ r,sr s n x=some r∧AE B r.1∧(r.2.2.2=false→SzS B r.1):=by
 have k1:=h.apps; have k2:=h.slots; have k4:=h.conts; have k5:=h.nodes.1
 have ha:=h.get x.bF
 have k3:=ha.asks
 have h2:=h.mono (show B≤B + 2 by omega)
 have hn:SzS B { s with aU:=s.aU.filter fun c=>c.bH != n.fId } := h.slot (Nat.le_trans (List.length_filter_le _ _) k2)
 obtain ⟨d,hd⟩:=Gh h (by omega) (ch s x.bF).bP (Wb (ch s x.bF).bL x.bw)
 obtain ⟨m,hm⟩:=CE h (by omega) (ch s x.bF).bP n.aP (ch s x.bF).cZ
 obtain ⟨o,ho⟩:=CK h (by omega) (ch s x.bF).bP ha.queue.1 n.aP (Wb (ch s x.bF).bL x.bw).cp
 obtain ⟨g,hg,hg2,hg3⟩:=zU hn hB n ha (Wb (ch s x.bF).bL x.bw)
 unfold sr
 simp only [dY s x.bF (show s.aq.length≤1000000 by omega),T2 (ch s x.bF).bL x.bw (show (ch s x.bF).bL.length≤1000000 by omega),fg,hd,hm,ho,Gj,kC,wQ s n.fId (show s.aU.length≤1000000 by omega),xH s n.fId (show s.aj.length≤1000000 by omega) (show s.ac.length≤1000000 by omega),orB,dN,zb]
 split
 ·exact ⟨_,rfl,⟨hn.mono (by omega),hs⟩,fun _=>hn⟩
 split
 ·exact ⟨_,rfl,⟨h2,hs⟩,fun _=>h⟩
 ·rw [hg]
  exact ⟨_,rfl,⟨hg2,hg3 hs⟩,fun e=>by cases e⟩
theorem QP {B:Nat} {s:aa} (h:SzS B s) (hs:iM aC.fId s.aq) (hB:B + 6≤1000000) (id:Int) : ∃ r,vX s id=some r∧AE (B + 4) r.1:=by
 have k1:=h.nodes.1; have k2:=h.slots
 have two:∀ (t:aa),AE B t→∃ r,(Option.bind (eb t (cd s id) true) fun c7=>if (c7.2.1 != 0)=true then some (c7.1,c7.2.1,c7.2.2) else Option.bind (eb c7.1 (cd s id) false) fun c8=>some c8)=some r∧AE (B + 4) r.1:=fun t ⟨t1,t2⟩=>by
  obtain ⟨u,u1,⟨u2,u3⟩,_⟩:=zT t1 t2 (by omega) (cd s id) true
  rw [u1]
  simp only [zb]
  split
  ·exact ⟨_,rfl,u2.mono (by omega),u3⟩
  ·obtain ⟨v,v1,⟨v2,v3⟩,_⟩:=zT u2 u3 (by omega) (cd s id) false
   rw [v1]
   exact ⟨_,rfl,v2.mono (by omega),v3⟩
 obtain ⟨c,hc⟩:=NM s id (by omega)
 unfold vX
 simp only [kA s id (show s.aj.length≤1000000 by omega),orB,hc,zb]
 split
 ·exact ⟨_,rfl,h.mono (by omega),hs⟩
 split
 ·obtain ⟨k,k1,k2,_⟩:=NR h hs (by omega) (cd s id) c.1
  rw [k1]
  simp only [zb]
  split
  ·exact ⟨_,rfl,k2.mono (by omega)⟩
  ·exact two _ k2
 ·exact two _ ⟨h.mono (by omega),hs⟩
theorem NW {B:Nat} {s:aa} (h:SzS B s) (hs:iM aC.fId s.aq) (hB:B + 100≤1000000) (id:Int) : ∃ r,qk s id=some r∧AE (B + 24) r.1∧r.2.length≤3:=by
 unfold qk
 dsimp only
 obtain ⟨r,r1,r2⟩:=aJ (f:=i8 id) (fun st=>∃ k:Nat,st.2.2=(k:Int)∧k≤3∧st.2.1.length=k∧SzS (B + 6 * k) st.1∧iM aC.fId st.1.aq) (fun st=>3 - st.2.2.toNat) (fun r=>AE (B + 24) r.1∧r.2.1.length≤3) (fun st ⟨k,h1,h2,h3,h4,h5⟩=>by
  unfold i8
  simp only [h1]
  by_cases hlt:k < 3
  ·have hd:decide ((k:Int) < 3)=true:=by simp; omega
   obtain ⟨c,c1,c2,c3⟩:=QP h4 h5 (by omega) id
   simp only [hd,if_true,c1,zb]
   split
   ·exact .inr ⟨_,rfl,⟨c2.mono (by omega),c3⟩,by show st.2.1.length≤3; omega⟩
   ·rw [aF (by simp; omega)]
    simp only [zb,aY hlt (show 3≤1000000 by omega)]
    exact .inl ⟨_,rfl,⟨k + 1,rfl,hlt,by simp; omega,c2.mono (by omega),c3⟩,by simp only [zt]; omega⟩
  ·have hd:decide ((k:Int) < 3)=false:=by simp; omega
   simp only [hd,zf,if_false]
   exact .inr ⟨_,rfl,⟨h4.mono (by omega),h5⟩,by show st.2.1.length≤3; omega⟩) ab (s,[],0) ⟨0,rfl,by omega,rfl,h.mono (by omega),hs⟩ (by show 3 - (0:Int).toNat < ab; unfold ab; omega)
 rw [r1]
 exact ⟨_,rfl,r2⟩
theorem mI {σ τ : Type} {f : σ→Option (σ⊕τ)} (I : σ→Prop) (Q : τ→Prop) (step:∀ s r,I s→f s=some r→match r with | .inl s'=>I s' | .inr t=>Q t) : ∀ (n:Nat) (s : σ) (t : τ),I s→ah f n s=some t→Q t
 | 0,s,t,_,h=>by cases h
 | n + 1,s,t,hi,h=>by
  simp only [ah] at h
  cases hf:f s with
  | none=>rw [hf] at h; cases h
  | some r =>
   have:=step s r hi hf
   rw [hf] at h
   cases r with
   | inl s'=>exact mI I Q step n s' t this h
   | inr t'=>injection h with h; subst h; exact this
theorem y6 {α : Type} {l m z:List α} (h:aX l m=some z) : z.length=l.length + m.length∧z=l++m:=by
 unfold aX at h
 split at h
 ·injection h with h; subst h; simp
 ·cases h
theorem wV {s t:aa} {a:aC} (h:eI s a=some t) : t.ac=s.ac:=by
 unfold eI at h
 dsimp only at h
 obtain ⟨_,_,h⟩:=bq h
 obtain ⟨_,_,h⟩:=bq h
 obtain ⟨_,_,h⟩:=bq h
 obtain ⟨_,_,h⟩:=bq h
 obtain ⟨_,_,h⟩:=bq h
 obtain ⟨_,_,h⟩:=bq h
 obtain ⟨_,_,h⟩:=bq h
 obtain ⟨_,_,h⟩:=bq h
 injection h with h
 subst h
 rfl
theorem su {s t:aa} {n:Int} (h:fv s n=some t) : t.ac=s.ac:=by
 unfold fv at h
 dsimp only at h
 obtain ⟨_,_,h⟩:=bq h
 injection h with h
 subst h
 rfl
theorem Gg {s t:aa} {x:bu} (h:ss s x=some t) : t.ac=s.ac:=by
 unfold ss at h
 dsimp only at h
 obtain ⟨_,_,h⟩:=bq h
 obtain ⟨_,_,h⟩:=bq h
 obtain ⟨_,_,h⟩:=bq h
 obtain ⟨_,_,h⟩:=bq h
 obtain ⟨_,_,h⟩:=bq h
 obtain ⟨_,_,h⟩:=bq h
 injection h with h
 subst h
 rfl
theorem Mm {α : Type} {l a b:List α} {k:Int} (h1:hiO l k=some a) (h2:loO l k=some b) : a.length + b.length=l.length:=by
 unfold hiO at h1
 unfold loO at h2
 by_cases hc : 0≤k∧k.toNat≤l.length
 ·rw [if_pos hc] at h1 h2
  injection h1 with h1
  injection h2 with h2
  subst h1 h2
  rw [List.length_take,List.length_drop]
  omega
 ·rw [if_neg hc] at h1
  cases h1
theorem tK {s:aa} {n:aA} {a:aC} {x:aQ} {r:aa×am} (h:mW s n a x=some r) : r.1.ac.length≤s.ac.length + 1:=by
 unfold mW at h
 dsimp only at h
 obtain ⟨_,_,h⟩:=bq h
 obtain ⟨_,_,h⟩:=bq h
 obtain ⟨_,_,h⟩:=bq h
 obtain ⟨b12,h12,h⟩:=bq h
 obtain ⟨b13,h13,h⟩:=bq h
 obtain ⟨b14,h14,h⟩:=bq h
 obtain ⟨b15,h15,h⟩:=bq h
 obtain ⟨b16,h16,h⟩:=bq h
 obtain ⟨c17,h17,h⟩:=bq h
 injection h with h
 subst h
 have e:=wV h17
 have k1:=Mm h12 h15
 have k2:=(y6 h13).1
 have k3:=(y6 h14).1
 have k4:=(y6 h16).1
 show c17.ac.length≤_
 rw [e]
 show b16.length≤_
 simp only [List.length_nil,List.length_singleton] at k2 k3
 omega
theorem Hh {s:aa} {n:aA} {a:aC} {x:aQ} {f:Bool} {r:aa×Int×am} (h:vV s n a x f=some r) : r.1.ac.length≤s.ac.length + 1∧(r.2.1=0→r.1.ac.length≤s.ac.length):=by
 unfold vV at h
 dsimp only at h
 obtain ⟨_,_,h⟩:=bq h
 obtain ⟨_,_,h⟩:=bq h
 obtain ⟨_,_,h⟩:=bq h
 obtain ⟨_,_,h⟩:=bq h
 split at h
 ·injection h with h; subst h; exact ⟨Nat.le_succ _,fun _=>Nat.le_refl _⟩
 obtain ⟨_,_,h⟩:=bq h
 split at h
 ·obtain ⟨⟨a2,s2⟩,h1,h⟩:=bq h
  injection h with h
  subst h
  have:s2.ac=s.ac:=by
   split at h1
   ·obtain ⟨_,_,h1⟩:=bq h1
    obtain ⟨c,h2,h1⟩:=bq h1
    injection h1 with h1
    injection h1 with _ h1
    subst h1
    exact wV h2
   ·injection h1 with h1
    injection h1 with _ h1
    subst h1
    rfl
  show s2.ac.length≤_∧(_→s2.ac.length≤_)
  rw [this]
  exact ⟨Nat.le_succ _,fun _=>Nat.le_refl _⟩
 obtain ⟨_,_,h⟩:=bq h
 split at h
 ·injection h with h; subst h; exact ⟨Nat.le_succ _,fun _=>Nat.le_refl _⟩
 obtain ⟨_,_,h⟩:=bq h
 obtain ⟨_,_,h⟩:=bq h
 split at h
 ·obtain ⟨g,h1,h⟩:=bq h
  injection h with h
  subst h
  exact ⟨tK h1,fun e=>absurd (show (1:Int)=0 from e) (by decide)⟩
 obtain ⟨_,_,h⟩:=bq h
 split at h
 ·obtain ⟨g,h1,h⟩:=bq h
  injection h with h
  subst h
  show g.ac.length≤_∧(_→g.ac.length≤_)
  rw [Gg h1]
  exact ⟨Nat.le_succ _,fun _=>Nat.le_refl _⟩
 ·injection h with h; subst h; exact ⟨Nat.le_succ _,fun _=>Nat.le_refl _⟩
def Gr (s:aa) (r:(aa×Int)⊕(aa×Int×am)) : Prop:=match r with | .inl m=>m.1.ac.length≤s.ac.length | .inr m=>m.1.ac.length≤s.ac.length + 1
theorem JF {s0:aa} {a:aC} {j:Int} {ids:List Int} {n:aA} {f:Bool} {k:Nat} {st:aa×Int} {r:(aa×Int)⊕(aa×Int×am)} (hst:st.1.ac.length≤s0.ac.length) (h:ah (hJ a j ids n f) k st=some r) : Gr s0 r:=by
 refine mI (fun st=>st.1.ac.length≤s0.ac.length) (Gr s0) (fun st r hi h=>?_) k st r hst h
 unfold hJ at h
 dsimp only at h
 split at h
 ·obtain ⟨_,_,h⟩:=bq h
  obtain ⟨_,_,h⟩:=bq h
  obtain ⟨_,_,h⟩:=bq h
  obtain ⟨c,hc,h⟩:=bq h
  have hk:=Hh hc
  split at h
  ·injection h with h
   subst h
   exact Nat.le_trans hk.1 (Nat.succ_le_succ hi)
  ·rename_i hz
   injection h with h
   subst h
   exact Nat.le_trans (hk.2 (by simpa using hz)) hi
 ·injection h with h
  subst h
  exact hi
theorem JG {s0:aa} {ids:List Int} {i:Int} {lv:List ByteArray} {n:aA} {f:Bool} {k:Nat} {st:aa×Int} {r:(aa×Int)⊕(aa×Int×am)} (hst:st.1.ac.length≤s0.ac.length) (h:ah (hZ ids i lv n f) k st=some r) : Gr s0 r:=by
 refine mI (fun st=>st.1.ac.length≤s0.ac.length) (Gr s0) (fun st r hi h=>?_) k st r hst h
 unfold hZ at h
 dsimp only at h
 split at h
 ·obtain ⟨_,_,h⟩:=bq h
  obtain ⟨_,_,h⟩:=bq h
  obtain ⟨_,_,h⟩:=bq h
  obtain ⟨_,_,h⟩:=bq h
  split at h
  ·injection h with h
   subst h
   exact hi
  ·obtain ⟨m,hm,h⟩:=bq h
   have hg:=JF (s0:=s0) (st:=(st.1,0)) hi hm
   cases m with
   | inr m=>injection h with h; subst h; exact hg
   | inl m=>injection h with h; subst h; exact hg
 ·injection h with h
  subst h
  exact hi
theorem tJ {s:aa} {n:aA} {f:Bool} {r:aa×Int×am} (h:eb s n f=some r) : r.1.ac.length≤s.ac.length + 1:=by
 unfold eb at h
 dsimp only at h
 obtain ⟨lv,_,h⟩:=bq h
 obtain ⟨m,hm,h⟩:=bq h
 have hg:Gr s m:=by
  refine mI (f:=ia lv n f) (fun st=>st.1.ac.length≤s.ac.length) (Gr s) (fun st r hi h=>?_) _ (s,0) m (Nat.le_refl _) hm
  unfold ia at h
  dsimp only at h
  split at h
  ·obtain ⟨_,_,h⟩:=bq h
   obtain ⟨_,_,h⟩:=bq h
   obtain ⟨m,hm,h⟩:=bq h
   have hg:=JG (s0:=s) (st:=(st.1,0)) hi hm
   cases m with
   | inr m=>injection h with h; subst h; exact hg
   | inl m=>injection h with h; subst h; exact hg
  ·injection h with h
   subst h
   exact hi
 cases m with
 | inr m=>injection h with h; subst h; exact hg
 | inl m=>injection h with h; subst h; exact Nat.le_succ_of_le hg
theorem Gf {s:aa} {n:aA} {x:bu} {r:aa×Int×am×Bool} (h:sr s n x=some r) : r.1.ac.length≤s.ac.length + 1:=by
 unfold sr at h
 dsimp only at h
 obtain ⟨_,_,h⟩:=bq h
 obtain ⟨_,_,h⟩:=bq h
 obtain ⟨_,_,h⟩:=bq h
 obtain ⟨_,_,h⟩:=bq h
 obtain ⟨_,_,h⟩:=bq h
 obtain ⟨_,_,h⟩:=bq h
 obtain ⟨_,_,h⟩:=bq h
 obtain ⟨_,_,h⟩:=bq h
 split at h
 ·obtain ⟨c,hc,h⟩:=bq h
  injection h with h
  subst h
  show c.ac.length≤_
  rw [su hc]
  exact Nat.le_succ _
 ·obtain ⟨_,_,h⟩:=bq h
  obtain ⟨_,_,h⟩:=bq h
  obtain ⟨_,_,h⟩:=bq h
  split at h
  ·injection h with h
   subst h
   exact Nat.le_succ _
  ·obtain ⟨c,hc,h⟩:=bq h
   obtain ⟨g,hg,h⟩:=bq h
   injection h with h
   subst h
   have:=tK hg
   rw [su hc] at this
   exact this
theorem Hi {s:aa} {id:Int} {r:aa×Int×am} (h:vX s id=some r) : r.1.ac.length≤s.ac.length + 3:=by
 unfold vX at h
 dsimp only at h
 obtain ⟨nd,_,h⟩:=bq h
 obtain ⟨_,_,h⟩:=bq h
 obtain ⟨_,_,h⟩:=bq h
 obtain ⟨_,_,h⟩:=bq h
 have two:∀ {t:aa} {n:aA},(Option.bind (eb t n true) fun c7=>if (c7.2.1 != 0)=true then some (c7.1,c7.2.1,c7.2.2) else Option.bind (eb c7.1 n false) fun c8=>some c8)=some r→r.1.ac.length≤t.ac.length + 2:=by
  intro t n h
  obtain ⟨c,hc,h⟩:=bq h
  have k1:=tJ hc
  split at h
  ·injection h with h
   subst h
   exact Nat.le_succ_of_le k1
  ·obtain ⟨d,hd,h⟩:=bq h
   injection h with h
   subst h
   have k2:=tJ hd
   omega
 split at h
 ·injection h with h
  subst h
  exact Nat.le_add_right _ _
 obtain ⟨c,hc,h⟩:=bq h
 split at h
 ·obtain ⟨k,hk,h⟩:=bq h
  have k1:=Gf hk
  split at h
  ·injection h with h
   subst h
   exact Nat.le_trans k1 (by omega)
  ·have:=two h
   omega
 ·have:=two h
  omega
theorem Gi {s:aa} {id:Int} {r:aa×List am} (h:qk s id=some r) : r.1.ac.length≤s.ac.length + 9:=by
 unfold qk at h
 dsimp only at h
 obtain ⟨m,hm,h⟩:=bq h
 injection h with h
 subst h
 refine mI (f:=i8 id) (fun st=>∃ k:Nat,st.2.2=(k:Int)∧k≤3∧st.1.ac.length≤s.ac.length + 3 * k) (fun q=>q.1.ac.length≤s.ac.length + 9) (fun st r ⟨k,h1,h2,h3⟩ h=>?_) _ (s,[],0) m ⟨0,rfl,by omega,by simp⟩ hm
 unfold i8 at h
 dsimp only at h
 split at h
 ·rename_i hlt
  rw [h1] at hlt
  have hlt:k < 3:=by have:=zd hlt; omega
  obtain ⟨c,hc,h⟩:=bq h
  have k1:=Hi hc
  split at h
  ·injection h with h
   subst h
   show c.1.ac.length≤_
   omega
  ·obtain ⟨l,hl,h⟩:=bq h
   injection h with h
   subst h
   refine ⟨k + 1,?_,hlt,?_⟩
   ·show i64.wrap (st.2.2 + 1) = _
    rw [h1,aY hlt (show 3≤1000000 by omega)]
   ·show c.1.ac.length≤_
    omega
 ·injection h with h
  subst h
  show st.1.ac.length≤_
  omega
def SzM (M:Nat) (s:aa) : Prop:=∃ B,SzS B s∧B + s.ac.length≤M
theorem SzM.mono {M N:Nat} {s:aa} (h:SzM M s) (hn:M≤N) : SzM N s:=by
 obtain ⟨B,h1,h2⟩:=h
 exact ⟨B,h1,by omega⟩
theorem SzM.sz {M:Nat} {s:aa} (h:SzM M s) : SzS M s:=by
 obtain ⟨B,h1,h2⟩:=h
 exact h1.mono (by omega)
theorem ZI {s:aa} {id:Int} (h:Mi s id=true) : mr s id∈s.ac∧(mr s id).fId=id:=by
 unfold Mi at h
 rw [List.any_eq_true] at h
 obtain ⟨x,hx,e⟩:=h
 unfold mr
 cases hf:s.ac.find? fun c=>c.fId==id with
 | none=>have:=List.find?_eq_none.1 hf x hx; exact absurd e (by simpa using this)
 | some a=>exact ⟨List.mem_of_find?_eq_some hf,by simpa using List.find?_some hf⟩
theorem Cl {α : Type} {p : α→Bool} {l:List α} {x : α} (hx:x∈l) (hp:p x=false) : (l.filter p).length < l.length :=
 List.length_filter_lt_length_iff_exists.2 ⟨x,hx,by rw [hp]; simp⟩
theorem SzS.putE {B:Nat} {s:aa} (h:SzS B s) {a:aC} (ha:SzA (B + 1) a) {c:List am} {l:List bu} (hc:c.length≤B + 1) (hl:l.length≤B + 1) : SzS (B + 1) { s with aq:=cU aC.fId s.aq a,ac:=c,aU:=l } := by
 have k:=h.put ha
 exact ⟨k.conf,k.nodes,k.apps,hc,hl,k.plans,k.app⟩
theorem Gu {M:Nat} {s:aa} (h:SzM M s) (hs:iM aC.fId s.aq) (ids:List Int) (hI:ids.length≤1000000) (hM:M + 1≤1000000) : ∃ r,je s ids=some r∧SzM M r∧iM aC.fId r.aq∧r.ac.length≤s.ac.length:=by
 unfold je
 dsimp only
 rw [Am ids s hI]
 obtain ⟨r,h1,h2⟩:=aW (g:=gw ids) (fin:=fun b=>(b,(ids.length:Int))) (fun _ b=>SzM M b∧iM aC.fId b.aq∧b.ac.length≤s.ac.length) (fun r=>SzM M r.1∧iM aC.fId r.1.aq∧r.1.ac.length≤s.ac.length) ids 0 s (fun j t x hx ⟨ht,hsr,hle⟩=>by
  obtain ⟨B,ht0,hB⟩:=ht
  have k1:=ht0.apps; have k2:=ht0.conts; have k3:=ht0.slots
  have stay:SzM M t∧iM aC.fId t.aq∧t.ac.length≤s.ac.length:=⟨⟨B,ht0,hB⟩,hsr,hle⟩
  unfold gw
  dsimp only
  rw [kP t x (by omega)]
  simp only [zb]
  split
  ·exact ⟨_,rfl,fun a' e=>by injection e with e; subst e; exact stay,fun r e=>by cases e⟩
  rename_i hnot
  have hct:Mi t x=true:=by simpa using hnot
  obtain ⟨hm,hid⟩:=ZI hct
  rw [dY t _ (by omega)]
  simp only [zb]
  have hB1:B + 1≤1000000:=by omega
  have ha:=(ht0.get (mr t x).bF).mono (Nat.le_succ _)
  split
  ·rw [Al]
   simp only [zb]
   rw [kF t _ (by omega)]
   simp only [zb]
   rw [CL _ _ (by show t.ac.length≤_; omega) (by show t.aU.length≤_; omega)]
   simp only [zb]
   refine ⟨_,rfl,fun a' e=>?_,fun r e=>by cases e⟩
   injection e with e
   subst e
   have hlt:=Cl (p:=fun c:am=>!(c.bF==(mr t x).bF)) hm (by simp)
   refine ⟨⟨B + 1,ht0.putE ?_ (Nat.le_trans (List.length_filter_le _ _) (by show t.ac.length≤_; omega)) (Nat.le_trans (List.length_filter_le _ _) (by show t.aU.length≤_; omega)),?_⟩,iQ _ _ _ hsr,?_⟩
   ·exact ⟨⟨ha.queue.1,ht0.nodes.2.2.1⟩,by simp,Nat.zero_le _,Nat.zero_le _,Nat.zero_le _,Nat.zero_le _⟩
   ·show B + 1 + (List.filter _ t.ac).length≤M
    omega
   ·show (List.filter _ t.ac).length≤_
    omega
  ·rw [CN t _ (by omega)]
   have hg:=ht0.get (mr t x).bF
   have h5:=hg.grants; have h6:=hg.kills
   simp only [zb]
   rw [ve _ _ (by omega)]
   simp only [zb]
   have hlt:=Cl (p:=fun c:am=>c.fId != (mr t x).fId) hm (by simp)
   have hf:=List.length_filter_le (fun c=>c != (mr t x).fId) (ch t (mr t x).bF).ca
   have fin:∀ a:aC,SzA (B + 1) a→∃ r,Option.bind (eI { t with ac:=t.ac.filter fun c=>c.fId != (mr t x).fId } a) (fun c=>some (Sum.inl c:aa⊕(aa×Int)))=some r∧(∀ a',r = .inl a'→SzM M a'∧iM aC.fId a'.aq∧a'.ac.length≤s.ac.length)∧∀ q,r = .inr q→SzM M q.1∧iM aC.fId q.1.aq∧q.1.ac.length≤s.ac.length:=by
    intro a hsa
    rw [kF _ _ (by show t.aq.length + 1≤_; omega)]
    refine ⟨_,rfl,fun a' e=>?_,fun r e=>by cases e⟩
    injection e with e
    subst e
    refine ⟨⟨B + 1,ht0.putE (c:=t.ac.filter fun c=>c.fId != (mr t x).fId) (l:=t.aU) hsa (Nat.le_trans (List.length_filter_le _ _) (by omega)) (by omega),?_⟩,iQ _ _ _ hsr,?_⟩
    ·show B + 1 + (List.filter _ t.ac).length≤M
     omega
    ·show (List.filter _ t.ac).length≤_
     omega
   split
   ·rw [aF (by simp; omega)]
    simp only [zb,List.nil_append]
    rw [aF (by simp; omega)]
    simp only [zb]
    refine fin _ ?_
    exact ⟨ha.queue,ha.asks,by show (List.filter _ _).length≤_; omega,by show (_ ++ [_]).length≤_; simp; omega,ha.told,ha.lost⟩
   ·simp only [zb]
    refine fin _ ?_
    exact ⟨ha.queue,ha.asks,by show (List.filter _ _).length≤_; omega,ha.kills,ha.told,ha.lost⟩) (fun b hb=>hb) ⟨h,hs,Nat.le_refl _⟩
 rw [h1]
 exact ⟨_,rfl,h2⟩
def e9 (v_s:aa) (av:ByteArray) (af:Int) (bV:Int) (mw:Int) (st:Unit) (x_:aC) : Option ((Unit)⊕((Int)⊕(Int))) :=
 let v_a:aC:=x_
 let v_k:Int:=0
 (ah (jY v_a av v_s af bV mw) ab v_k).bind fun r15=>match r15 with
 | .inr m16=>some (.inr (.inr m16))
 | .inl m16 =>
 let v_k:=m16
 some (.inl ())
theorem xO (v_s:aa) (av:ByteArray) (af:Int) (bV:Int) (mw:Int) (a_:Unit) (hl:v_s.aq.length≤1000000) : ah (jZ v_s av af bV mw) ab (0)=bk (e9 v_s av af bV mw) (fun a_=>(.inl ((v_s.aq.length:Int)))) a_ v_s.aq :=
 ay v_s.aq (S:=Int) (fun a_ k_=>(k_)) (e9 v_s av af bV mw) (fun a_=>(.inl ((v_s.aq.length:Int)))) (an hl) (fun k a x hx=>by
  unfold jZ e9; exact bI)
  (fun a=>by unfold jZ; exact cE) a_
def lK (v_l:(List Int)) (v_n:Int) (st:Unit) (x_:Int) : Option ((Unit)⊕((Int)⊕(Bool))) :=
 if (x_ == v_n)=true then
 some (.inr (.inr true))
 else
 some (.inl ())
theorem C3 (v_l:(List Int)) (v_n:Int) (a_:Unit) (hl:v_l.length≤1000000) : ah (o4 v_l v_n) ab (0)=bk (lK v_l v_n) (fun a_=>(.inl ((v_l.length:Int)))) a_ v_l :=
 ay v_l (S:=Int) (fun a_ k_=>(k_)) (lK v_l v_n) (fun a_=>(.inl ((v_l.length:Int)))) (an hl) (fun k a x hx=>by
  unfold o4 lK; exact bI)
  (fun a=>by unfold o4; exact cE) a_
def ew (v_s:aa) (af:Int) (av:ByteArray) (v_l:(List Int)) (st:Int) (x_:am) : Option ((Int)⊕((Int×Int))) :=
 let v_n:=st
 let v_c:am:=x_
 (if (v_c.aP==af)=true then (if (av.toList==(⟨#[]⟩ : ByteArray).toList)=true then some true else (i6 v_s v_c).bind fun c8=>some (c8.toList==av.toList)).bind fun q9=>some q9 else some false).bind fun q10=>(if q10=true then (if (v_c.jn != 0)=true then some true else (xQ v_l v_c.fId).bind fun c11=>some c11).bind fun q12=>some q12 else some false).bind fun q13=>if q13=true then
 let v_n:Int:=(i64.wrap (v_n + v_c.cp.br))
 some (.inl v_n)
 else
 some (.inl v_n)
theorem wq (v_s:aa) (af:Int) (av:ByteArray) (v_l:(List Int)) (a_:Int) (hl:v_s.ac.length≤1000000) : ah (jx v_s af av v_l) ab (a_,(0))=bk (ew v_s af av v_l) (fun a_=>(a_,((v_s.ac.length:Int)))) a_ v_s.ac :=
 ay v_s.ac (S:=Int×Int) (fun a_ k_=>(a_,(k_))) (ew v_s af av v_l) (fun a_=>(a_,((v_s.ac.length:Int)))) (an hl) (fun k a x hx=>by
  unfold jx ew; exact bI)
  (fun a=>by unfold jx; exact cE) a_
def eu (v_s:aa) (af:Int) (av:ByteArray) (v_l:(List Int)) (st:am×Bool) (x_:am) : Option ((am×Bool)⊕((am×Bool×Int))) :=
 let cK:=st.1
 let bS:=st.2
 let v_c:am:=x_
 (if (v_c.aP != af)=true then some true else (i6 v_s v_c).bind fun c15=>some (!(c15.toList==av.toList))).bind fun q16=>(if q16=true then some true else some (v_c.jn != 0)).bind fun q17=>(if q17=true then some true else (xQ v_l v_c.fId).bind fun c18=>some c18).bind fun q19=>if q19=true then
 some (.inl (cK,bS))
 else
 (if (!bS)=true then some true else (if cK.bG=true then some (!v_c.bG) else some false).bind fun q20=>some q20).bind fun q21=>(if q21=true then some true else (if (cK.bG==v_c.bG)=true then some (decide (v_c.fId > cK.fId)) else some false).bind fun q22=>some q22).bind fun q23=>if q23=true then
 let t24:am:=v_c
 let t25:Bool:=true
 let cK:am:=t24
 let bS:Bool:=t25
 some (.inl (cK,bS))
 else
 some (.inl (cK,bS))
theorem wo (v_s:aa) (af:Int) (av:ByteArray) (v_l:(List Int)) (a_:am×Bool) (hl:v_s.ac.length≤1000000) : ah (jw v_s af av v_l) ab (a_.1,a_.2,(0))=bk (eu v_s af av v_l) (fun a_=>(a_.1,a_.2,((v_s.ac.length:Int)))) a_ v_s.ac :=
 ay v_s.ac (S:=am×Bool×Int) (fun a_ k_=>(a_.1,a_.2,(k_))) (eu v_s af av v_l) (fun a_=>(a_.1,a_.2,((v_s.ac.length:Int)))) (an hl) (fun k a x hx=>by
  unfold jw eu; exact bI)
  (fun a=>by unfold jw; exact cE) a_
def ga (bO:(List ak)) (v_s:aa) (af:Int) (st:Int) (x_:ak) : Option ((Int)⊕((Int×Int))) :=
 let kW:=st
 (sp v_s x_.aI af).bind fun c6=>let kW:Int:=(i64.wrap (kW + c6))
 some (.inl kW)
theorem zJ (bO:(List ak)) (v_s:aa) (af:Int) (a_:Int) (hl:bO.length≤1000000) : ah (lM bO v_s af) ab (a_,(0))=bk (ga bO v_s af) (fun a_=>(a_,((bO.length:Int)))) a_ bO :=
 ay bO (S:=Int×Int) (fun a_ k_=>(a_,(k_))) (ga bO v_s af) (fun a_=>(a_,((bO.length:Int)))) (an hl) (fun k a x hx=>by
  unfold lM ga; exact bI)
  (fun a=>by unfold lM; exact cE) a_
def f8 (bO:(List ak)) (v_s:aa) (af:Int) (v_l:(List Int)) (st:Int×am) (x_:ak) : Option ((Int×am)⊕((Int×am×Int))) :=
 let cn:=st.1
 let v_x:=st.2
 let v_p:ByteArray:=x_.aI
 (eB v_s v_p af).bind fun c18=>(mU v_s v_p af v_l).bind fun c19=>let DK:Int:=(i64.wrap ((i64.wrap (c18.br - x_.br)) - c19))
 (qc v_s v_p af v_l).bind fun c20=>let v_c:am:=c20.1
 let bS:Bool:=c20.2
 (if bS=true then some (decide (DK > cn)) else some false).bind fun q21=>if q21=true then
 let t22:Int:=DK
 let t23:am:=v_c
 let cn:Int:=t22
 let v_x:am:=t23
 some (.inl (cn,v_x))
 else
 some (.inl (cn,v_x))
theorem zI (bO:(List ak)) (v_s:aa) (af:Int) (v_l:(List Int)) (a_:Int×am) (hl:bO.length≤1000000) : ah (lL bO v_s af v_l) ab (a_.1,a_.2,(0))=bk (f8 bO v_s af v_l) (fun a_=>(a_.1,a_.2,((bO.length:Int)))) a_ bO :=
 ay bO (S:=Int×am×Int) (fun a_ k_=>(a_.1,a_.2,(k_))) (f8 bO v_s af v_l) (fun a_=>(a_.1,a_.2,((bO.length:Int)))) (an hl) (fun k a x hx=>by
  unfold lL f8; exact bI)
  (fun a=>by unfold lL; exact cE) a_
def gb (kV:aa) (yj:aa) (st:(List Int)) (x_:am) : Option (((List Int))⊕(((List Int)×Int))) :=
 let v_l:=st
 (eH yj x_.fId).bind fun c5=>let bS:Bool:=c5.2
 if (!bS)=true then
 (aX v_l [x_.fId]).bind fun b6=>let v_l:(List Int):=b6
 some (.inl v_l)
 else
 some (.inl v_l)
theorem zL (kV:aa) (yj:aa) (a_:(List Int)) (hl:kV.ac.length≤1000000) : ah (lN kV yj) ab (a_,(0))=bk (gb kV yj) (fun a_=>(a_,((kV.ac.length:Int)))) a_ kV.ac :=
 ay kV.ac (S:=(List Int)×Int) (fun a_ k_=>(a_,(k_))) (gb kV yj) (fun a_=>(a_,((kV.ac.length:Int)))) (an hl) (fun k a x hx=>by
  unfold lN gb; exact bI)
  (fun a=>by unfold lN; exact cE) a_
def f6 (v_l:(List am)) (af:Int) (st:aa) (x_:am) : Option ((aa)⊕((aa×Int))) :=
 let v_s:=st
 (eH v_s x_.fId).bind fun c15=>let w8:am:=c15.1
 let bS:Bool:=c15.2
 if (!bS)=true then
 some (.inl v_s)
 else
 (i6 v_s w8).bind fun c16=>(eB v_s c16 af).bind fun c17=>(p9 v_s w8).bind fun c18=>(i6 v_s w8).bind fun c19=>(zM v_s af c19).bind fun c20=>if (decide ((i64.wrap (c17.br - c18)) > c20))=true then
 (je v_s ([w8.fId] : (List Int))).bind fun c21=>let v_s:aa:=c21
 some (.inl v_s)
 else
 (nU v_s w8.fId 0).bind fun c22=>let v_s:aa:=c22
 some (.inl v_s)
theorem zG (v_l:(List am)) (af:Int) (a_:aa) (hl:v_l.length≤1000000) : ah (lJ v_l af) ab (a_,(0))=bk (f6 v_l af) (fun a_=>(a_,((v_l.length:Int)))) a_ v_l :=
 ay v_l (S:=aa×Int) (fun a_ k_=>(a_,(k_))) (f6 v_l af) (fun a_=>(a_,((v_l.length:Int)))) (an hl) (fun k a x hx=>by
  unfold lJ f6; exact bI)
  (fun a=>by unfold lJ; exact cE) a_
def fa (v_l:(List Int)) (st:aa) (x_:Int) : Option ((aa)⊕((aa×Int))) :=
 let v_s:=st
 (nU v_s x_ (if 1 > v_s.bQ then 1 else v_s.bQ)).bind fun c5=>let v_s:aa:=c5
 some (.inl v_s)
theorem xR (v_l:(List Int)) (a_:aa) (hl:v_l.length≤1000000) : ah (j7 v_l) ab (a_,(0))=bk (fa v_l) (fun a_=>(a_,((v_l.length:Int)))) a_ v_l :=
 ay v_l (S:=aa×Int) (fun a_ k_=>(a_,(k_))) (fa v_l) (fun a_=>(a_,((v_l.length:Int)))) (an hl) (fun k a x hx=>by
  unfold j7 fa; exact bI)
  (fun a=>by unfold j7; exact cE) a_
def ey (v_l:(List ak)) (st:(List ak)) (v_i:Int) (x_:ak) : Option (((List ak))⊕(((List ak)×Int))) :=
 let al:=st
 let v_k:Int:=0
 (ah (gc al v_i v_l) ab v_k).bind fun r13 =>
 let v_k:=r13
 (hiO al v_k).bind fun b14=>(aX ([] : (List ak)) b14).bind fun b15=>let v_x:(List ak):=b15
 (aX v_x [x_]).bind fun b16=>let v_x:(List ak):=b16
 (loO al v_k).bind fun b17=>(aX v_x b17).bind fun b18=>let al:(List ak):=b18
 some (.inl al)
theorem wt (v_l:(List ak)) (a_:(List ak)) (hl:v_l.length≤1000000) : ah (jy v_l) ab (a_,(0))=nB (ey v_l) (fun a_=>(a_,((v_l.length:Int)))) a_ 0 v_l :=
 eV v_l (S:=(List ak)×Int) (fun a_ k_=>(a_,(k_))) (ey v_l) (fun a_=>(a_,((v_l.length:Int)))) (an hl) (fun k a x hx=>by
  unfold jy ey; exact bI)
  (fun a=>by unfold jy; exact cE) a_
def ka (v_l:(List ak)) (av:ByteArray) (st:Unit) (x_:ak) : Option ((Unit)⊕((Int)⊕(Int))) :=
 if (x_.aI.toList==av.toList)=true then
 some (.inr (.inr x_.br))
 else
 some (.inl ())
theorem BK (v_l:(List ak)) (av:ByteArray) (a_:Unit) (hl:v_l.length≤1000000) : ah (nw v_l av) ab (0)=bk (ka v_l av) (fun a_=>(.inl ((v_l.length:Int)))) a_ v_l :=
 ay v_l (S:=Int) (fun a_ k_=>(k_)) (ka v_l av) (fun a_=>(.inl ((v_l.length:Int)))) (an hl) (fun k a x hx=>by
  unfold nw ka; exact bI)
  (fun a=>by unfold nw; exact cE) a_
def V9 (n:Int) : Int:=if (decide (n < 0)||decide (n > 1125899906842624))=true then 0 else n
theorem uX (n:Int) : lO n=some (V9 n):=by
 unfold lO V9
 simp only [orB,zb]
 split <;> rfl
theorem KY (t:Int) (a b c:List Int) (hN:a.length≤1000) (hb:b.length=a.length) (hc:c.length=a.length) : ∃ r,vS t a b c=some r∧r.length=a.length:=by
 have hn:(if (c.length:Int) < (if (b.length:Int) < (a.length:Int) then (b.length:Int) else (a.length:Int)) then (c.length:Int) else (if (b.length:Int) < (a.length:Int) then (b.length:Int) else (a.length:Int)))=(a.length:Int):=by
  rw [hb,hc]
  simp
 unfold vS
 simp only [hn,uX,zb]
 obtain ⟨r,e1,e2⟩:=aJ (f:=oq (a.length:Int) a b c) (fun st=>∃ k:Nat,st.2.2=(k:Int)∧k≤a.length∧st.1.length=k) (fun st=>a.length - st.2.2.toNat) (fun r=>r.1.length=a.length) (fun st ⟨k,h1,h2,h3⟩=>by
  unfold oq
  simp only [h1]
  by_cases hlt:k < a.length
  ·have g1:a[k]? = some a[k]:=zq hlt
   have g2:b[k]? = some (b[k]'(by omega)):=zq (by omega)
   have g3:c[k]? = some (c[k]'(by omega)):=zq (by omega)
   simp only [bK g1,if_true,aE g1,aE g2,aE g3,uX,zb,aY hlt (show a.length≤1000000 by omega)]
   rw [aF (by simp; omega)]
   exact .inl ⟨_,rfl,⟨k + 1,rfl,hlt,by simp; omega⟩,by simp only [zt]; omega⟩
  ·have:k=a.length:=by omega
   subst this
   simp only [bE,zf,if_false]
   exact .inr ⟨_,rfl,h3⟩) ab ([],V9 t,0) ⟨0,rfl,Nat.zero_le _,rfl⟩ (by have:=an (show a.length≤1000000 by omega); omega)
 rw [e1]
 simp only [zb]
 obtain ⟨q,f1,f2⟩:=aJ (f:=om (a.length:Int) b c) (fun st=>∃ k:Nat,st.2.2=(k:Int)∧k≤a.length∧st.1.length=a.length) (fun st=>a.length - st.2.2.toNat) (fun r=>r.1.length=a.length) (fun st ⟨k,h1,h2,h3⟩=>by
  unfold om
  simp only [h1]
  by_cases hlt:k < a.length
  ·have g1:a[k]? = some a[k]:=zq hlt
   have g2:b[k]? = some (b[k]'(by omega)):=zq (by omega)
   have g3:c[k]? = some (c[k]'(by omega)):=zq (by omega)
   have g4:st.1[k]? = some (st.1[k]'(by omega)):=zq (by omega)
   simp only [bK g1,if_true,aE g2,aE g3,aE g4,uX,zb,aY hlt (show a.length≤1000000 by omega),zt]
   exact .inl ⟨_,rfl,⟨k + 1,rfl,hlt,by simp; omega⟩,by simp only [zt]; omega⟩
  ·have:k=a.length:=by omega
   subst this
   simp only [bE,zf,if_false]
   exact .inr ⟨_,rfl,h3⟩) ab (r.1,r.2.1,0) ⟨0,rfl,Nat.zero_le _,e2⟩ (by have:=an (show a.length≤1000000 by omega); omega)
 rw [f1]
 exact ⟨_,rfl,f2⟩
theorem CC {B:Nat} {s:aa} (h:SzS B s) (hD:Deep s.bC) (hB:B≤1000000) (k:Int) : ∀ (d n:Nat) (p:ByteArray) (v:Int),4 - du 6 p≤d→d < n→d≤4→∃ r,lQ n s p k v=some r∧r.length≤16 ^ d
 | d,0,p,_,_,hn,_=>absurd hn (Nat.not_lt_zero _)
 | d,n + 1,p,v,hp,hn,hd=>by
  obtain ⟨m,h2,h3,h4⟩:=tj s.bC p h.conf.sz
  have hq:=hD.few
  have k2:=h.nodes.1
  unfold lQ
  simp only [h2,zb]
  split
  ·exact ⟨_,rfl,by show 1≤16 ^ d; exact Nat.one_le_pow _ _ (by omega)⟩
  ·rename_i hne
   have hm : 0 < m.length:=by
    rcases Nat.eq_zero_or_pos m.length with h0 | h0
    ·rw [h0] at hne; exact absurd rfl hne
    ·exact h0
   have kid:=Cw s.bC p h.conf.sz h2
   have kd:∀ x∈m,du 6 p + 1=du 6 x∧du 6 x≤4:=fun x hx=>by
    obtain ⟨⟨q,hq1,hq2⟩,a1,a2⟩:=kid x hx
    subst hq2
    exact ⟨IH a1 a2 (h.conf.sz.paths q hq1) (hD.deep q hq1),hD.deep q hq1⟩
   have hd0 : 0 < d:=by
    obtain ⟨a1,a2⟩:=kd m[0] (List.getElem_mem hm)
    omega
   obtain ⟨d',rfl⟩ : ∃ d',d=d' + 1:=⟨d - 1,by omega⟩
   have hpow : 16 ^ d'≤16 ^ 3:=Nat.pow_le_pow_right (by omega) (by omega)
   have hm1:m.length≤1000000:=by omega
   obtain ⟨r,e1,e2⟩:=aJ (f:=qg (lQ n) m s k) (fun st=>∃ i:Nat,st.2.2.2=(i:Int)∧i≤m.length∧st.1.length=i∧st.2.1.length=i∧st.2.2.1.length=i) (fun st=>m.length - st.2.2.2.toNat) (fun r=>r.1.length=m.length∧r.2.1.length=m.length∧r.2.2.1.length=m.length) (fun st ⟨i,i1,i2,i3,i4,i5⟩=>by
    unfold qg
    simp only [i1]
    by_cases hlt:i < m.length
    ·have g1:m[i]? = some m[i]:=zq hlt
     obtain ⟨u,hu⟩:=ff h hB m[i] k
     obtain ⟨w,hw⟩:=u9 h hB m[i] k
     simp only [bK g1,if_true,aE g1,nQ s _ k h.conf (Nat.le_trans k2 hB),FU s _ k h.conf (Nat.le_trans k2 hB),hu,hw,zb,aY hlt hm1]
     rw [aF (by simp; omega)]
     simp only [zb]
     rw [aF (by simp; omega)]
     simp only [zb]
     rw [aF (by simp; omega)]
     exact .inl ⟨_,rfl,⟨i + 1,rfl,hlt,by simp; omega,by simp; omega,by simp; omega⟩,by simp only [zt]; omega⟩
    ·have:i=m.length:=by omega
     subst this
     simp only [bE,zf,if_false]
     exact .inr ⟨_,rfl,i3,i4,i5⟩) ab ([],[],[],0) ⟨0,rfl,Nat.zero_le _,rfl,rfl,rfl⟩ (by have:=an hm1; omega)
   rw [e1]
   simp only [zb]
   obtain ⟨x,x1,x2⟩:=KY v r.1 r.2.2.1 r.2.1 (by omega) (by omega) (by omega)
   rw [x1]
   simp only [zb]
   obtain ⟨q,f1,f2⟩:=aJ (f:=qf (lQ n) m s k x) (fun st=>∃ i:Nat,st.2=(i:Int)∧i≤m.length∧st.1.length≤i * 16 ^ d') (fun st=>m.length - st.2.toNat) (fun r=>r.1.length≤m.length * 16 ^ d') (fun st ⟨i,i1,i2,i3⟩=>by
    unfold qf
    simp only [i1]
    by_cases hlt:i < m.length
    ·have g1:m[i]? = some m[i]:=zq hlt
     have g2:x[i]? = some (x[i]'(by omega)):=zq (by omega)
     obtain ⟨a1,a2⟩:=kd m[i] (List.getElem_mem hlt)
     obtain ⟨c,c1,c2⟩:=CC h hD hB k d' n m[i] (x[i]'(by omega)) (by omega) (by omega) (by omega)
     have hj2:i * 16 ^ d'≤16 * 16 ^ 3:=Nat.mul_le_mul (by omega) hpow
     simp only [bK g1,if_true,aE g1,aE g2,c1,zb,aY hlt hm1]
     rw [aF (by omega)]
     refine .inl ⟨_,rfl,⟨i + 1,rfl,hlt,?_⟩,by simp only [zt]; omega⟩
     show (st.1++c).length≤_
     rw [List.length_append,Nat.succ_mul]
     omega
    ·have:i=m.length:=by omega
     subst this
     simp only [bE,zf,if_false]
     exact .inr ⟨_,rfl,i3⟩) ab ([],0) ⟨0,rfl,Nat.zero_le _,by simp⟩ (by have:=an hm1; omega)
   rw [f1]
   refine ⟨_,rfl,Nat.le_trans f2 ?_⟩
   rw [Nat.pow_succ,Nat.mul_comm]
   exact Nat.mul_le_mul_left _ (by omega)
theorem wP {B:Nat} {s:aa} (h:SzS B s) (hD:Deep s.bC) (hB:B≤1000000) (k:Int) : ∃ r,qh s k=some r∧r.length≤65536:=by
 obtain ⟨l,h1,h2⟩:=CC h hD hB k 4 ab ⟨#[114,111,111,116]⟩ (uK s k).br (by omega) (by unfold ab; omega) (by omega)
 have h2:l.length≤65536:=h2
 have k2:=h.nodes.1
 unfold qh
 simp only [nP s k (Nat.le_trans k2 hB),h1,zb]
 rw [wt l [] (by omega)]
 obtain ⟨r,e1,e2⟩:=mD (g:=ey l) (fin:=fun b=>(b,(l.length:Int))) (fun j b=>b.length≤j) (fun r=>r.1.length≤l.length) l 0 [] (fun j out x hx ho=>by
  have hj:=(zg.1 hx).1
  obtain ⟨K,hK1,hK2⟩:=nF out (by omega) (f:=gc out ((0 + j:Nat) : Int) l) (fun i y hy=>by
   have hi:=(zg.1 hy).1
   refine ⟨Op.bytesLess y.aI.toList x.aI.toList,?_⟩
   unfold gc
   simp only [bK hy,if_true,aE hy,aE (show l[0 + j]? = some x by rwa [Nat.zero_add]),zb,aY hi (show out.length≤1000000 by omega)]) (by unfold gc; simp only [bE,zf,if_false,zb])
  unfold ey
  dsimp only
  rw [hK1]
  simp only [zb]
  rw [oa hK2]
  simp only [zb]
  rw [aF (by simp; omega)]
  simp only [zb]
  rw [aF (by simp; omega)]
  simp only [zb]
  rw [kt hK2]
  simp only [zb]
  rw [aF (by simp; omega)]
  refine ⟨_,rfl,fun a' e=>?_,fun r e=>by cases e⟩
  injection e with e
  subst e
  simp; omega) (fun b hb=>by simpa using hb) (by simp)
 rw [e1]
 exact ⟨_,rfl,by show r.1.length≤_; omega⟩
theorem Qw {B:Nat} {s:aa} (h:SzS B s) (hD:Deep s.bC) (hB:B≤1000000) (k:Int) (p:ByteArray) : ∃ r,zM s k p=some r:=by
 obtain ⟨l,h1,h2⟩:=wP h hD hB k
 unfold zM
 rw [h1]
 dsimp only [zb]
 rw [BK l p () (by omega),show ka l p=fun (_:Unit) x=>if (x.aI.toList==p.toList)=true then some (.inr (.inr x.br)) else some (.inl ()) from rfl,
  kJ (fun x:ak=>x.aI.toList==p.toList) (fun x=>(Sum.inr x.br:Int⊕Int)) (.inl (l.length:Int)) l]
 simp only [zb]
 cases l.find? fun x=>x.aI.toList==p.toList <;> exact ⟨_,rfl⟩
theorem uV (s:aa) (c:am) (hl:s.aq.length≤1000000) : i6 s c=some (ch s c.bF).bP:=by
 unfold i6
 simp only [dY s c.bF hl,zb]
def inL (l:List Int) (n:Int) : Bool:=l.any fun x=>x==n
theorem Jh (l:List Int) (n:Int) (hl:l.length≤1000000) : xQ l n=some (inL l n):=by
 unfold xQ inL
 dsimp only
 rw [C3 l n () hl,show lK l n=fun (_:Unit) x=>if (x==n)=true then some (.inr (.inr true)) else some (.inl ()) from rfl,
  kJ (fun x:Int=>x==n) (fun _=>(Sum.inr true:Int⊕Bool)) (.inl (l.length:Int)) l]
 simp only [zb]
 cases hf:l.find? fun x=>x==n with
 | none =>
  have:(l.any fun x=>x==n)=false:=by
   rw [List.any_eq_false]; intro x hx; have:=List.find?_eq_none.1 hf x hx; simpa using this
  rw [this]
 | some q =>
  have:(l.any fun x=>x==n)=true:=by rw [List.any_eq_true]; exact ⟨q,List.mem_of_find?_eq_some hf,List.find?_some (p:=fun x:Int=>x==n) hf⟩
  rw [this]
theorem Ir {α : Type} {p q : α→Bool} (hpq:∀ x,q x=true→p x=true) : ∀ l:List α,(∃ x∈l,p x=true∧q x=false)→(l.filter q).length < (l.filter p).length
 | [],⟨x,hx,_⟩=>by cases hx
 | y::l,⟨x,hx,h1,h2⟩=>by
  have le:∀ l:List α,(l.filter q).length≤(l.filter p).length:=fun l=>by
   induction l with
   | nil=>exact Nat.le_refl _
   | cons z l ih =>
    simp only [List.filter_cons]
    cases hq:q z with
    | true=>rw [hpq z hq]; simpa using ih
    | false =>
     cases p z with
     | true=>simp; omega
     | false=>simpa using ih
  simp only [List.filter_cons]
  rcases List.mem_cons.1 hx with rfl | hx
  ·rw [h1,h2]
   have:=le l
   simp; omega
  ·have ih:=Ir hpq l ⟨x,hx,h1,h2⟩
   cases hq:q y with
   | true=>rw [hpq y hq]; simpa using ih
   | false =>
    cases p y with
    | true=>simp; omega
    | false=>simpa using ih
theorem KU {B:Nat} {s:aa} (h:SzS B s) (hB:B≤1000000) (p:ByteArray) (k:Int) : ∃ r,sp s p k=some r:=by
 obtain ⟨u,hu⟩:=ff h hB p k
 obtain ⟨v,hv⟩:=u9 h hB p k
 have k1:=h.apps; have k2:=h.nodes.1
 unfold sp
 simp only [hu,nQ s p k h.conf (Nat.le_trans k2 hB),zb]
 rw [xO s p k (BV s p k).br u.br () (by omega)]
 obtain ⟨r,e1,_⟩:=aW (g:=e9 s p k (BV s p k).br u.br) (fin:=fun _=>(.inl (s.aq.length:Int))) (fun _ _=>True) (fun _=>True) s.aq 0 () (fun j b x hx _=>by
  have hm:=h.app x (List.mem_of_getElem? hx)
  have ha:=hm.asks
  have ha2:x.bL.length≤1000000:=by omega
  obtain ⟨r,r1,_⟩:=aJ (f:=jY x p s k (BV s p k).br u.br) (fun st=>∃ i:Nat,st=(i:Int)∧i≤x.bL.length) (fun st=>x.bL.length - st.toNat) (fun _=>True) (fun st ⟨i,h1,h2⟩=>by
   subst h1
   unfold jY
   by_cases hlt:i < x.bL.length
   ·have g1:x.bL[i]? = some x.bL[i]:=zq hlt
    simp only [bK g1,if_true,aE g1,fg,hv,dN,zb,aY hlt ha2]
    split
    ·split
     ·exact .inr ⟨_,rfl,trivial⟩
     ·exact .inl ⟨_,rfl,⟨i + 1,rfl,hlt⟩,by simp only [zt]; omega⟩
    ·exact .inr ⟨_,rfl,trivial⟩
   ·have:i=x.bL.length:=by omega
    subst this
    simp only [bE,zf,if_false,zb]
    exact .inr ⟨_,rfl,trivial⟩) ab 0 ⟨0,rfl,Nat.zero_le _⟩ (by have:=an ha2; omega)
  unfold e9
  dsimp only
  rw [r1]
  simp only [zb]
  cases r <;> exact ⟨_,rfl,fun _ _=>trivial,fun _ _=>trivial⟩) (fun _ _=>trivial) trivial
 rw [e1]
 simp only [zb]
 cases r <;> exact ⟨_,rfl⟩
theorem wO {B:Nat} {s:aa} (h:SzS B s) (hB:B≤1000000) (p:ByteArray) (k:Int) (l:List Int) (hl:l.length≤1000000) : ∃ r,mU s p k l=some r:=by
 have k1:=h.apps; have k2:=h.conts
 unfold mU
 dsimp only
 rw [wq s k p l 0 (by omega)]
 obtain ⟨r,e1,_⟩:=aW (g:=ew s k p l) (fin:=fun b=>(b,(s.ac.length:Int))) (fun _ _=>True) (fun _=>True) s.ac 0 0 (fun j b x hx _=>by
  unfold ew
  simp only [uV s x (show s.aq.length≤1000000 by omega),Jh l x.fId hl,dN,orB,zb]
  split <;> exact ⟨_,rfl,fun _ _=>trivial,fun _ _=>trivial⟩) (fun _ _=>trivial) trivial
 rw [e1]
 exact ⟨_,rfl⟩
theorem Hg {B:Nat} {s:aa} (h:SzS B s) (hB:B≤1000000) (p:ByteArray) (k:Int) (l:List Int) (hl:l.length≤1000000) : ∃ r,qc s p k l=some r∧(r.2=true→r.1∈s.ac∧inL l r.1.fId=false):=by
 have k1:=h.apps; have k2:=h.conts
 unfold qc
 dsimp only
 rw [wo s k p l ((⟨0,0,0,aw.zero,0,0,false,0⟩ : am),false) (by omega)]
 obtain ⟨r,e1,e2⟩:=aW (g:=eu s k p l) (fin:=fun b=>(b.1,b.2,(s.ac.length:Int))) (fun _ b=>b.2=true→b.1∈s.ac∧inL l b.1.fId=false) (fun r=>r.2.1=true→r.1∈s.ac∧inL l r.1.fId=false) s.ac 0 ((⟨0,0,0,aw.zero,0,0,false,0⟩ : am),false) (fun j b x hx hb=>by
  unfold eu
  simp only [uV s x (show s.aq.length≤1000000 by omega),Jh l x.fId hl,dN,orB,zb]
  split
  ·exact ⟨_,rfl,fun a e=>(by injection e with e; subst e; exact hb),fun r e=>(by cases e)⟩
  ·rename_i hn
   split
   ·refine ⟨_,rfl,fun a e=>?_,fun r e=>(by cases e)⟩
    injection e with e
    subst e
    refine fun _=>⟨List.mem_of_getElem? hx,?_⟩
    simp only [Bool.or_eq_true,not_or,Bool.not_eq_true] at hn
    exact hn.2
   ·exact ⟨_,rfl,fun a e=>(by injection e with e; subst e; exact hb),fun r e=>(by cases e)⟩) (fun b hb=>hb) (fun e=>by cases e)
 rw [e1]
 exact ⟨_,rfl,e2⟩
def XU (s:aa) (l:List Int) : Nat:=(s.ac.filter fun c=>!inL l c.fId).length
theorem NF {B:Nat} {s:aa} (h:SzS B s) (hB:B≤1000000) (k:Int) : ∃ r,zK s k=some r∧r.length≤s.ac.length:=by
 have k1:=h.apps; have k2:=h.conts; have k3:=h.nodes.1
 obtain ⟨sh,h1,h2⟩:=wP h h.conf.deep hB k
 obtain ⟨u,hu⟩:=ff h hB ⟨#[114,111,111,116]⟩ k
 unfold zK
 simp only [h1,nP s k (Nat.le_trans k3 hB),hu,zb]
 rw [zJ sh s k _ (by omega)]
 obtain ⟨r,e1,_⟩:=aW (g:=ga sh s k) (fin:=fun b=>(b,(sh.length:Int))) (fun _ _=>True) (fun _=>True) sh 0 (i64.wrap (0 - (if 0 > (i64.wrap ((uK s k).br - u.br)) then 0 else (i64.wrap ((uK s k).br - u.br))))) (fun j b x hx _=>by
  obtain ⟨n,hn⟩:=KU h hB x.aI k
  unfold ga
  simp only [hn,zb]
  exact ⟨_,rfl,fun _ _=>trivial,fun _ _=>trivial⟩) (fun _ _=>trivial) trivial
 rw [e1]
 simp only [zb]
 obtain ⟨q,f1,f2⟩:=aJ (f:=qe s k r.1 sh) (fun l=>l.length + XU s l≤s.ac.length) (fun l=>XU s l) (fun r=>match r with | .inl m=>m.length≤s.ac.length | .inr m=>m.length≤s.ac.length) (fun l hl=>by
  have hl2:l.length≤s.ac.length:=by omega
  obtain ⟨m,hm⟩:=wO h hB ⟨#[]⟩ k l (by omega)
  unfold qe
  simp only [hm,zb]
  split
  ·rw [zI sh s k l (0,(⟨0,0,0,aw.zero,0,0,false,0⟩ : am)) (by omega)]
   obtain ⟨t,t1,t2⟩:=aW (g:=f8 sh s k l) (fin:=fun b=>(b.1,b.2,(sh.length:Int))) (fun _ b=>b.1≠0→b.2∈s.ac∧inL l b.2.fId=false) (fun r=>r.1≠0→r.2.1∈s.ac∧inL l r.2.1.fId=false) sh 0 (0,(⟨0,0,0,aw.zero,0,0,false,0⟩ : am)) (fun j b x hx hb=>by
    obtain ⟨u,hu⟩:=ff h hB x.aI k
    obtain ⟨m,hm⟩:=wO h hB x.aI k l (by omega)
    obtain ⟨n,hn,hn2⟩:=Hg h hB x.aI k l (by omega)
    unfold f8
    simp only [hu,hm,hn,dN,zb]
    split
    ·rename_i hc
     rw [Bool.and_eq_true] at hc
     exact ⟨_,rfl,fun a e=>(by injection e with e; subst e; exact fun _=>hn2 hc.1),fun r e=>(by cases e)⟩
    ·exact ⟨_,rfl,fun a e=>(by injection e with e; subst e; exact hb),fun r e=>(by cases e)⟩) (fun b hb=>hb) (fun e=>absurd rfl e)
   rw [t1]
   simp only [zb]
   split
   ·exact .inr ⟨_,rfl,hl2⟩
   ·rename_i hne
    obtain ⟨c1,c2⟩:=t2 (by simpa using hne)
    have hlt:XU s (l ++ [t.2.1.fId]) < XU s l:=Ir (fun x hx=>by
     unfold inL at hx ⊢
     simp only [List.any_append,Bool.not_or,Bool.and_eq_true] at hx
     exact hx.1) s.ac ⟨t.2.1,c1,by rw [c2]; rfl,by unfold inL; simp⟩
    rw [aF (by simp; omega)]
    exact .inl ⟨_,rfl,by rw [List.length_append,List.length_singleton]; omega,hlt⟩
  ·exact .inr ⟨_,rfl,hl2⟩) ab [] (by show 0 + (List.filter _ _).length≤_; rw [Nat.zero_add]; exact List.length_filter_le _ _) (by have:=List.length_filter_le (fun c:am=>!inL [] c.fId) s.ac; have h3:=an (show s.ac.length≤1000000 by omega); show (s.ac.filter fun c=>!inL [] c.fId).length < ab; omega)
 rw [f1]
 simp only [zb]
 cases q with
 | inl m=>exact ⟨_,rfl,f2⟩
 | inr m=>exact ⟨_,rfl,f2⟩
theorem CB (s t:aa) (hl:s.ac.length≤1000000) (ht:t.ac.length≤1000000) : uW s t=some ((s.ac.filter fun c=>!Mi t c.fId).map am.fId):=by
 unfold uW
 dsimp only
 have e:gb s t=fun acc x=>if (!Mi t x.fId)=true then (aX acc [x.fId]).map (fun a=>(.inl a:List Int⊕(List Int×Int))) else some (.inl acc):=by
  funext acc x
  unfold gb
  simp only [kP t x.fId ht,zb]
  split
  ·cases aX acc [x.fId] <;> rfl
  ·rfl
 rw [zL s t [] hl,e,cr (fun c:am=>!Mi t c.fId) am.fId _ s.ac [] (by simpa using hl)]
 simp
theorem Nx {B:Nat} {s:aa} (h:SzS B s) (hB:B≤1000000) (id t:Int) : ∃ r,nU s id t=some r∧SzS B r∧r.aq=s.aq∧r.ac.length=s.ac.length:=by
 have k2:=h.conts
 have hl:s.ac.length≤1000000:=by omega
 unfold nU
 rw [aF (by simp; omega)]
 simp only [zb,List.nil_append]
 obtain ⟨r,r1,r2⟩:=aJ (f:=qa t id) (fun st=>∃ i:Nat,st.2=(i:Int)∧i≤s.ac.length∧st.1.length=s.ac.length) (fun st=>s.ac.length - st.2.toNat) (fun r=>r.1.length=s.ac.length) (fun st ⟨i,h1,h2,h3⟩=>by
  unfold qa
  simp only [h1]
  by_cases hlt:i < st.1.length
  ·have g1:st.1[i]? = some st.1[i]:=zq hlt
   simp only [bK g1,if_true,aE g1,zt,zb,aY hlt (show st.1.length≤1000000 by omega)]
   split
   ·exact .inl ⟨_,rfl,⟨i + 1,rfl,by omega,by simp; omega⟩,by simp only [zt]; omega⟩
   ·exact .inl ⟨_,rfl,⟨i + 1,rfl,by omega,h3⟩,by simp only [zt]; omega⟩
  ·have:i=st.1.length:=by omega
   subst this
   simp only [bE,zf,if_false]
   exact .inr ⟨_,rfl,h3⟩) ab (s.ac,0) ⟨0,rfl,Nat.zero_le _,rfl⟩ (by have:=an hl; omega)
 rw [r1]
 exact ⟨_,rfl,h.cont (by omega),rfl,r2⟩
structure OkS (M:Nat) (s:aa) : Prop where
 m:SzM M s
 srt:iM aC.fId s.aq
theorem OkS.mono {M N:Nat} {s:aa} (h:OkS M s) (hn:M≤N) : OkS N s:=⟨h.m.mono hn,h.srt⟩
theorem OkS.sz {M:Nat} {s:aa} (h:OkS M s) : SzS M s:=h.m.sz
theorem Hf (s:aa) (c:am) (hl:s.ac.length≤1000000) : ∃ r,p9 s c=some r:=by
 unfold p9
 dsimp only
 obtain ⟨r,r1,_⟩:=aJ (f:=mS s c) (fun st=>∃ i:Nat,st.2=(i:Int)∧i≤s.ac.length) (fun st=>s.ac.length - st.2.toNat) (fun _=>True) (fun st ⟨i,h1,h2⟩=>by
  unfold mS
  simp only [h1]
  by_cases hlt:i < s.ac.length
  ·have g1:s.ac[i]? = some s.ac[i]:=zq hlt
   simp only [bK g1,if_true,aE g1,dN,zb,aY hlt hl]
   split
   ·split
    ·exact .inl ⟨_,rfl,⟨i + 1,rfl,hlt⟩,by simp only [zt]; omega⟩
    ·exact .inl ⟨_,rfl,⟨i + 1,rfl,hlt⟩,by simp only [zt]; omega⟩
   ·exact .inr ⟨_,rfl,trivial⟩
  ·have:i=s.ac.length:=by omega
   subst this
   simp only [bE,zf,if_false,zb]
   exact .inr ⟨_,rfl,trivial⟩) ab (0,0) ⟨0,rfl,Nat.zero_le _⟩ (by have:=an hl; show s.ac.length - (0:Int).toNat < ab; omega)
 rw [r1]
 exact ⟨_,rfl⟩
theorem Jo {k:Nat} (hk:k≤1000000) : i64.wrap ((k:Int) - 1)=(k:Int) - 1:=by rw [IntKind.wrap_i64]; omega
theorem OkS.note {M:Nat} {s:aa} (h:OkS M s) (hM:M≤1000000) (id t:Int) : ∃ r,nU s id t=some r∧OkS M r∧r.ac.length=s.ac.length:=by
 obtain ⟨⟨B,h1,h2⟩,h3⟩:=h
 obtain ⟨r,r1,r2,r3,r4⟩:=Nx h1 (by omega) id t
 exact ⟨r,r1,⟨⟨B,r2,by rw [r4]; exact h2⟩,by rw [r3]; exact h3⟩,r4⟩
theorem NA {M:Nat} {s:aa} (h:OkS M s) (hM:M + 1≤1000000) (k:Int) : ∃ r,zH s k=some r∧OkS M r∧r.ac.length≤s.ac.length:=by
 have hc:=h.sz.conts
 have hl:s.ac.length≤1000000:=by omega
 unfold zH
 dsimp only
 rw [Jo hl]
 obtain ⟨r,r1,r2⟩:=aJ (f:=qd s k) (fun st=>∃ i:Nat,st.2=(i:Int) - 1∧i≤s.ac.length∧st.1.length + i≤s.ac.length) (fun st=>(st.2 + 1).toNat) (fun r=>r.1.length≤s.ac.length) (fun st ⟨i,h1,h2,h3⟩=>by
  unfold qd
  simp only [h1]
  by_cases hlt : 0 < i
  ·obtain ⟨j,rfl⟩ : ∃ j,i=j + 1:=⟨i - 1,by omega⟩
   have hj:((j + 1:Nat) : Int) - 1=(j:Int):=by omega
   have g1:s.ac[j]? = some s.ac[j]:=zq (by omega)
   have hd:decide ((j:Int)≥0)=true:=by simp
   simp only [hj,hd,if_true,aE g1,dN,zb,Jo (show j≤1000000 by omega)]
   split
   ·rw [aF (by simp; omega)]
    exact .inl ⟨_,rfl,⟨j,rfl,by omega,by simp; omega⟩,by show ((j:Int) - 1 + 1).toNat < ((j:Int) + 1).toNat; omega⟩
   ·exact .inl ⟨_,rfl,⟨j,rfl,by omega,by show st.1.length + j≤_; omega⟩,by show ((j:Int) - 1 + 1).toNat < ((j:Int) + 1).toNat; omega⟩
  ·have:i=0:=by omega
   subst this
   have hd:decide (((0:Nat) : Int) - 1≥0)=false:=by simp
   simp only [hd,zf,if_false]
   exact .inr ⟨_,rfl,by show st.1.length≤_; omega⟩) ab ([],(s.ac.length:Int) - 1) ⟨s.ac.length,rfl,Nat.le_refl _,by simp⟩ (by have:=an hl; show ((s.ac.length:Int) - 1 + 1).toNat < ab; omega)
 rw [r1]
 simp only [zb]
 rw [zG r.1 k s (by omega)]
 obtain ⟨q,q1,q2⟩:=aW (g:=f6 r.1 k) (fin:=fun b=>(b,(r.1.length:Int))) (fun _ b=>OkS M b∧b.ac.length≤s.ac.length) (fun r=>OkS M r.1∧r.1.ac.length≤s.ac.length) r.1 0 s (fun j t x hx ⟨ht,hle⟩=>by
  have hz:=ht.sz
  have k1:=hz.apps; have k2:=hz.conts
  unfold f6
  dsimp only
  rw [kP t _ (by omega)]
  simp only [zb]
  split
  ·exact ⟨_,rfl,fun a' e=>(by injection e with e; subst e; exact ⟨ht,hle⟩),fun r e=>(by cases e)⟩
  obtain ⟨u,hu⟩:=ff hz (by omega) (ch t (mr t x.fId).bF).bP k
  obtain ⟨o,ho⟩:=Hf t (mr t x.fId) (by omega)
  obtain ⟨mm,hmm⟩:=Qw hz hz.conf.deep (by omega) k (ch t (mr t x.fId).bF).bP
  obtain ⟨ls,l1,l2,l3,l4⟩:=Gu ht.m ht.srt [(mr t x.fId).fId] (by simp) (by omega)
  obtain ⟨nt,n1,n2,n3⟩:=ht.note (by omega) (mr t x.fId).fId 0
  simp only [uV t _ (show t.aq.length≤1000000 by omega),hu,ho,hmm,l1,n1,zb]
  split
  ·exact ⟨_,rfl,fun a' e=>(by injection e with e; subst e; exact ⟨⟨l2,l3⟩,by omega⟩),fun r e=>(by cases e)⟩
  ·exact ⟨_,rfl,fun a' e=>(by injection e with e; subst e; exact ⟨n2,by omega⟩),fun r e=>(by cases e)⟩) (fun b hb=>hb) ⟨h,Nat.le_refl _⟩
 rw [q1]
 exact ⟨_,rfl,q2⟩
theorem KX {M:Nat} {s:aa} (h:OkS M s) (hM:M + 1≤1000000) : ∃ r,vR s=some r∧OkS M r.1∧r.1.ac.length≤s.ac.length:=by
 have hc:=h.sz.conts
 unfold vR
 dsimp only
 obtain ⟨r,r1,r2⟩:=aJ (f:=ol) (fun st=>∃ i:Nat,st.2=(i:Int)∧i≤1000∧OkS M st.1∧st.1.ac.length≤s.ac.length) (fun st=>1000 - st.2.toNat) (fun r=>OkS M r.1∧r.1.ac.length≤s.ac.length) (fun st ⟨i,h1,h2,h3,h4⟩=>by
  unfold ol
  simp only [h1]
  split
  ·rename_i hlt
   have hlab:=h3.sz.conf.sz.labels
   have hlt:i < st.1.bC.ai.length:=by have:=zd hlt; omega
   obtain ⟨a,a1,a2,a3⟩:=NA h3 hM (i:Int)
   have hac:=a2.sz.conts
   obtain ⟨p,p1,p2⟩:=NF a2.sz (by omega) (i:Int)
   have hp:p.length≤1000000:=by omega
   simp only [a1,p1,zb]
   rw [xR p a hp]
   obtain ⟨q,q1,q2⟩:=aW (g:=fa p) (fin:=fun b=>(b,(p.length:Int))) (fun _ b=>OkS M b∧b.ac.length≤s.ac.length) (fun r=>OkS M r.1∧r.1.ac.length≤s.ac.length) p 0 a (fun j t x hx ⟨ht,hle⟩=>by
    obtain ⟨nt,n1,n2,n3⟩:=ht.note (by omega) x (if 1 > t.bQ then 1 else t.bQ)
    unfold fa
    simp only [n1,zb]
    exact ⟨_,rfl,fun a' e=>(by injection e with e; subst e; exact ⟨n2,by omega⟩),fun r e=>(by cases e)⟩) (fun b hb=>hb) ⟨a2,by omega⟩
   rw [q1]
   simp only [zb,aY (show i < 1000 by omega) (show 1000≤1000000 by omega)]
   exact .inl ⟨_,rfl,⟨i + 1,rfl,by omega,q2.1,q2.2⟩,by simp only [zt]; omega⟩
  ·exact .inr ⟨_,rfl,h3,h4⟩) ab (s,0) ⟨0,rfl,by omega,h,Nat.le_refl _⟩ (by show 1000 - (0:Int).toNat < ab; unfold ab; omega)
 rw [r1]
 simp only [zb]
 have hrc:=r2.1.sz.conts
 rw [CB s r.1 (by omega) (by omega)]
 exact ⟨_,rfl,r2⟩
theorem Rl {s:ByteArray} {a b:Nat} (h1:a≤b) (h2:b≤s.size) : JC s (a:Int) (b:Int)=some (s.extract a b):=by
 unfold JC
 rw [if_pos ⟨by omega,by omega,by simpa using h1,by simpa using h2⟩]
 simp
theorem Rk {s:ByteArray} {a:Nat} (h1:a≤s.size) : SN s (a:Int)=some (s.extract a s.size):=by
 unfold SN
 rw [if_pos ⟨by omega,by simpa using h1⟩]
 simp
theorem Rm {s:ByteArray} {a:Nat} (h1:a≤s.size) : Ox s (a:Int)=some (s.extract 0 a):=by
 unfold Ox
 rw [if_pos ⟨by omega,by simpa using h1⟩]
 simp
theorem yP (s:ByteArray) (a b:Nat) : (s.extract a b).size≤s.size:=by simp only [ByteArray.size_extract]; omega
theorem wC {k:Nat} (hk:k≤1000000) : i64.wrap ((k:Int) + 1)=((k + 1:Nat) : Int):=by rw [IntKind.wrap_i64]; omega
theorem ltS {k n:Nat} (h:k < n) : decide ((k:Int) < (n:Int))=true:=by simpa using h
theorem geS {k:Nat} : decide ((k:Int) < (k:Int))=false:=by simp
theorem Jc (s:ByteArray) (c:Int) (hs:s.size≤100000) : ∃ r,FY s c=some r∧r.length≤s.size + 1∧∀ x∈r,x.size≤s.size:=by
 unfold FY
 dsimp only
 obtain ⟨r,r1,r2⟩:=aJ (f:=tn s c) (fun st=>∃ i a:Nat,st.2.2=(i:Int)∧st.2.1=(a:Int)∧i≤s.size∧a≤i∧st.1.length≤i∧∀ x∈st.1,x.size≤s.size) (fun st=>s.size - st.2.2.toNat) (fun r=>∃ a:Nat,r.2.1=(a:Int)∧a≤s.size∧r.1.length≤s.size∧∀ x∈r.1,x.size≤s.size) (fun st ⟨i,a,h1,h2,h3,h4,h5,h6⟩=>by
  unfold tn
  simp only [h1,h2]
  by_cases hlt:i < s.size
  ·obtain ⟨b,hb⟩:=pu (s:=s) (k:=(i:Int)) (by omega) (by simpa using hlt)
   simp only [ltS hlt,if_true,hb,zb,wC (show i≤1000000 by omega)]
   split
   ·rw [Rl h4 h3]
    simp only [zb]
    rw [aF (by simp; omega)]
    refine .inl ⟨_,rfl,⟨i + 1,i + 1,rfl,rfl,hlt,Nat.le_refl _,by simp; omega,fun x hx=>?_⟩,by simp only [zt]; omega⟩
    simp only [List.mem_append,List.mem_singleton] at hx
    rcases hx with hx | rfl
    ·exact h6 x hx
    ·exact yP _ _ _
   ·exact .inl ⟨_,rfl,⟨i + 1,a,rfl,rfl,hlt,by omega,by show st.1.length≤i + 1; omega,h6⟩,by simp only [zt]; omega⟩
  ·have:i=s.size:=by omega
   subst this
   simp only [geS,zf,if_false]
   exact .inr ⟨_,rfl,a,rfl,h4,h5,h6⟩) ab ([],0,0) ⟨0,0,rfl,rfl,Nat.zero_le _,Nat.le_refl _,Nat.le_refl _,fun x hx=>by cases hx⟩ (by show s.size - (0:Int).toNat < ab; unfold ab; omega)
 rw [r1]
 obtain ⟨a,k1,k2,k3,k4⟩:=r2
 simp only [zb,k1]
 split
 ·rw [Rk k2]
  simp only [zb]
  rw [aF (by simp; omega)]
  refine ⟨_,rfl,by simp; omega,fun x hx=>?_⟩
  simp only [List.mem_append,List.mem_singleton] at hx
  rcases hx with hx | rfl
  ·exact k4 x hx
  ·exact yP _ _ _
 ·exact ⟨_,rfl,by show r.1.length≤_; omega,k4⟩
theorem Ni (s:ByteArray) (hs:s.size≤100000) : ∃ r,zj s=some r∧r.length≤s.size + 1∧∀ x∈r,x.size≤s.size:=by
 obtain ⟨l,l1,l2,l3⟩:=Jc s 32 hs
 have hl:l.length≤1000000:=by omega
 unfold zj
 simp only [l1,zb]
 obtain ⟨r,r1,r2⟩:=aJ (f:=pQ l) (fun st=>∃ i:Nat,st.2=(i:Int)∧i≤l.length∧st.1.length≤i∧∀ x∈st.1,x.size≤s.size) (fun st=>l.length - st.2.toNat) (fun r=>r.1.length≤s.size + 1∧∀ x∈r.1,x.size≤s.size) (fun st ⟨i,h1,h2,h3,h4⟩=>by
  unfold pQ
  simp only [h1]
  by_cases hlt:i < l.length
  ·have g1:l[i]? = some l[i]:=zq hlt
   simp only [bK g1,if_true,aE g1,zb,aY hlt hl]
   split
   ·rw [aF (by simp; omega)]
    refine .inl ⟨_,rfl,⟨i + 1,rfl,hlt,by simp; omega,fun x hx=>?_⟩,by simp only [zt]; omega⟩
    simp only [List.mem_append,List.mem_singleton] at hx
    rcases hx with hx | rfl
    ·exact h4 x hx
    ·exact l3 _ (List.getElem_mem _)
   ·exact .inl ⟨_,rfl,⟨i + 1,rfl,hlt,by show st.1.length≤i + 1; omega,h4⟩,by simp only [zt]; omega⟩
  ·have:i=l.length:=by omega
   subst this
   simp only [bE,zf,if_false]
   exact .inr ⟨_,rfl,by show st.1.length≤_; omega,h4⟩) ab ([],0) ⟨0,rfl,Nat.zero_le _,Nat.le_refl _,fun x hx=>by cases hx⟩ (by have:=an hl; show l.length - (0:Int).toNat < ab; omega)
 rw [r1]
 exact ⟨_,rfl,r2⟩
theorem tm (s:ByteArray) (hs:s.size≤100000) : ∃ r,pf s=some r:=by
 unfold pf
 simp only [orB,zb]
 by_cases h0:s.size < 1∨s.size > 7
 ·have:(decide ((s.size:Int) < 1)||decide ((s.size:Int) > 7))=true:=by
   rcases h0 with h | h
   ·have:decide ((s.size:Int) < 1)=true:=by simp; omega
    rw [this]; rfl
   ·have:decide ((s.size:Int) > 7)=true:=by simp; omega
    rw [this]; simp
  simp only [this,if_true,zb]
  exact ⟨_,rfl⟩
 ·have:(decide ((s.size:Int) < 1)||decide ((s.size:Int) > 7))=false:=by
   have h1:decide ((s.size:Int) < 1)=false:=by simp; omega
   have h2:decide ((s.size:Int) > 7)=false:=by simp; omega
   rw [h1,h2]; rfl
  obtain ⟨b,hb⟩:=pu (s:=s) (k:=0) (by omega) (by simp; omega)
  simp only [this,zf,if_false,hb,dN,zb]
  split
  ·exact ⟨_,rfl⟩
  ·obtain ⟨r,r1,_⟩:=aJ (f:=oh s) (fun st=>∃ i:Nat,st.2=(i:Int)∧i≤s.size) (fun st=>s.size - st.2.toNat) (fun _=>True) (fun st ⟨i,h1,h2⟩=>by
    unfold oh
    simp only [h1]
    by_cases hlt:i < s.size
    ·obtain ⟨b,hb⟩:=pu (s:=s) (k:=(i:Int)) (by omega) (by simpa using hlt)
     simp only [ltS hlt,if_true,hb,orB,zb,wC (show i≤1000000 by omega)]
     split
     ·exact .inr ⟨_,rfl,trivial⟩
     ·exact .inl ⟨_,rfl,⟨i + 1,rfl,hlt⟩,by simp only [zt]; omega⟩
    ·have:i=s.size:=by omega
     subst this
     simp only [geS,zf,if_false]
     exact .inr ⟨_,rfl,trivial⟩) ab (0,0) ⟨0,rfl,Nat.zero_le _⟩ (by show s.size - (0:Int).toNat < ab; unfold ab; omega)
   rw [r1]
   simp only [zb]
   cases r <;> exact ⟨_,rfl⟩
theorem Nj (s:ByteArray) (hs:s.size≤100000) : ∃ r,zk s=some r:=by
 unfold zk
 dsimp only
 obtain ⟨r,r1,i,r2,r3⟩:=aJ (f:=pR s) (fun st=>∃ i:Nat,st=(i:Int)∧i≤s.size) (fun st=>s.size - st.toNat) (fun st=>∃ i:Nat,st=(i:Int)∧i≤s.size) (fun st ⟨i,h1,h2⟩=>by
  unfold pR
  simp only [h1]
  by_cases hlt:i < s.size
  ·obtain ⟨b,hb⟩:=pu (s:=s) (k:=(i:Int)) (by omega) (by simpa using hlt)
   simp only [ltS hlt,if_true,hb,zb,wC (show i≤1000000 by omega)]
   split
   ·exact .inl ⟨_,rfl,⟨i + 1,rfl,hlt⟩,by simp only [zt]; omega⟩
   ·exact .inr ⟨_,rfl,i,rfl,h2⟩
  ·have:i=s.size:=by omega
   subst this
   simp only [geS,zf,if_false,zb]
   exact .inr ⟨_,rfl,_,rfl,Nat.le_refl _⟩) ab 0 ⟨0,rfl,Nat.zero_le _⟩ (by show s.size - (0:Int).toNat < ab; unfold ab; omega)
 rw [r1]
 subst r2
 simp only [zb]
 split
 ·exact ⟨_,rfl⟩
 ·rename_i hne
  have hlt:i < s.size:=by
   have:i≠s.size:=fun e=>hne (by rw [e]; simp)
   omega
  obtain ⟨a,ha⟩:=tm (s.extract 0 i) (Nat.le_trans (yP _ _ _) hs)
  obtain ⟨b,hb⟩:=tm (s.extract (i + 1) s.size) (Nat.le_trans (yP _ _ _) hs)
  rw [Rm (Nat.le_of_lt hlt)]
  simp only [zb,ha,wC (show i≤1000000 by omega)]
  rw [Rk hlt]
  simp only [zb,hb,dN]
  exact ⟨_,rfl⟩
theorem Nk (w:List ByteArray) (n:Nat) (hn:n≤1000) (hw:w.length≤100001) (hs:∀ x∈w,x.size≤100000) : ∃ r,zl w (n:Int)=some r∧r.1.bl.length≤100001∧r.1.aI.size≤100000:=by
 have hwr:i64.wrap (3 + (n:Int))=((3 + n:Nat) : Int):=by rw [IntKind.wrap_i64]; omega
 unfold zl
 simp only [hwr]
 by_cases hl:w.length=3 + n
 ·have hl':((w.length:Int) != ((3 + n:Nat) : Int))=false:=by rw [hl]; simp
  have g0:w[0]? = some w[0]:=zq (by omega)
  have g1:w[1]? = some w[1]:=zq (by omega)
  have g2:w[2]? = some w[2]:=zq (by omega)
  have i0:=aE g0
  have i1:=aE g1
  have i2:=aE g2
  obtain ⟨m,hm⟩:=tm w[2] (hs _ (List.getElem_mem _))
  have i0':au w 0=some w[0]:=i0
  have i1':au w 1=some w[1]:=i1
  have i2':au w 2=some w[2]:=i2
  simp only [hl',zf,if_false,i0',zb]
  split
  ·exact ⟨_,rfl,by simp,Nat.zero_le _⟩
  ·simp only [i2',hm,i1',zb]
   obtain ⟨r,r1,r2⟩:=aJ (f:=pT w) (fun st=>∃ i:Nat,st.2.2=(i:Int)∧i≤w.length∧st.2.1.bl.length≤i∧st.2.1.aI.size≤100000) (fun st=>w.length - st.2.2.toNat) (fun r=>r.2.1.bl.length≤100001∧r.2.1.aI.size≤100000) (fun st ⟨i,h1,h2,h3,h4⟩=>by
    unfold pT
    simp only [h1]
    by_cases hlt:i < w.length
    ·have g1:w[i]? = some w[i]:=zq hlt
     obtain ⟨c,hc⟩:=Nj w[i] (hs _ (List.getElem_mem _))
     simp only [bK g1,if_true,aE g1,hc,zb,aY hlt (show w.length≤1000000 by omega)]
     split
     ·rw [aF (by simp; omega)]
      exact .inl ⟨_,rfl,⟨i + 1,rfl,hlt,by simp; omega,h4⟩,by simp only [zt]; omega⟩
     ·exact .inr ⟨_,rfl,by show st.2.1.bl.length≤_; omega,h4⟩
    ·have:i=w.length:=by omega
     subst this
     simp only [bE,zf,if_false,zb]
     exact .inr ⟨_,rfl,by show st.2.1.bl.length≤_; omega,h4⟩) ab (m.2,(⟨w[1],[],m.1⟩ : aB),3) ⟨3,rfl,by omega,by simp,hs _ (List.getElem_mem _)⟩ (by show w.length - (3:Int).toNat < ab; unfold ab; omega)
   rw [r1]
   exact ⟨_,rfl,r2⟩
 ·have hl':((w.length:Int) != ((3 + n:Nat) : Int))=true:=by simp; omega
  simp only [hl',if_true,zb]
  exact ⟨_,rfl,by simp,Nat.zero_le _⟩
structure na (c:ax) : Prop where
 labels:c.ai.length≤3
 label:∀ x∈c.ai,x.size≤100000
 queues:c.ae.length≤2001
 paths:∀ q∈c.ae,q.aI.size≤100000
 caps:∀ q∈c.ae,q.bl.length≤100001
theorem na.nil:na ⟨[],[]⟩:=⟨by simp,fun x hx=>(by cases hx),by simp,fun x hx=>(by cases hx),fun x hx=>(by cases hx)⟩
theorem Nn (s:ByteArray) : ∃ r,zo s=some r∧na r.1:=by
 unfold zo
 by_cases h0:s.size > 2000
 ·have:decide ((s.size:Int) > 2000)=true:=by simp; omega
  simp only [this,if_true]
  exact ⟨_,rfl,.nil⟩
 have hd:decide ((s.size:Int) > 2000)=false:=by simp; omega
 simp only [hd,zf,if_false]
 obtain ⟨l,l1,l2,l3⟩:=Jc s 10 (by omega)
 have hl:l.length≤1000000:=by omega
 simp only [l1,zb]
 obtain ⟨r,r1,r2⟩:=aJ (f:=pV l) (fun st=>∃ i:Nat,st.2.2=(i:Int)∧i≤l.length∧st.1.ae.length≤i∧na st.1) (fun st=>l.length - st.2.2.toNat) (fun r=>match r with | .inl m=>na m.1 | .inr m=>na m.1) (fun st ⟨i,h1,h2,hq,hp⟩=>by
  unfold pV
  simp only [h1]
  by_cases hlt:i < l.length
  ·have g1:l[i]? = some l[i]:=zq hlt
   have hls:=l3 _ (List.getElem_mem hlt)
   obtain ⟨w,w1,w2,w3⟩:=Ni l[i] (by omega)
   simp only [bK g1,if_true,aE g1,w1,zb,aY hlt hl]
   split
   ·exact .inl ⟨_,rfl,⟨i + 1,rfl,hlt,by show st.1.ae.length≤i + 1; omega,hp⟩,by simp only [zt]; omega⟩
   rename_i hw0
   have hw : 0 < w.length:=by
    rcases Nat.eq_zero_or_pos w.length with e | e
    ·rw [e] at hw0; simp at hw0
    ·exact e
   have i0':au w 0=some w[0]:=aE (zq hw)
   split
   ·simp only [i0',zb]
    split
    ·exact .inr ⟨_,rfl,.nil⟩
    split
    ·exact .inr ⟨_,rfl,.nil⟩
    rename_i h3
    have h3:w.length≤3:=by have : ¬ ((w.length:Int) > 3):=fun e=>h3 (by simpa using e); omega
    have hlo:loO w 1=some (w.drop 1):=kt (l:=w) (k:=1) hw
    simp only [hlo,zb]
    rw [aF (by simp; omega)]
    simp only [zb]
    refine .inl ⟨_,rfl,⟨i + 1,rfl,hlt,by show st.1.ae.length≤i + 1; omega,⟨by simp; omega,fun x hx=>?_,hp.queues,hp.paths,hp.caps⟩⟩,by simp only [zt]; omega⟩
    simp only [List.singleton_append,List.mem_cons] at hx
    rcases hx with rfl | hx
    ·exact Nat.zero_le _
    ·have:=w3 x (List.mem_of_mem_drop hx); omega
   ·simp only [i0',dN,zb]
    split
    ·exact .inr ⟨_,rfl,.nil⟩
    obtain ⟨q,q1,q2,q3⟩:=Nk w st.1.ai.length (by have:=hp.labels; omega) (by omega) (fun x hx=>by have:=w3 x hx; omega)
    simp only [q1,zb]
    split
    ·exact .inr ⟨_,rfl,.nil⟩
    obtain ⟨K,k1,k2,k3,k4⟩:=aJ (f:=pU st.1 q.1) (fun st2=>∃ j:Nat,st2=(j:Int)∧j≤st.1.ae.length) (fun st2=>st.1.ae.length - st2.toNat) (fun st2=>∃ j:Nat,st2=(j:Int)∧j≤st.1.ae.length) (fun st2 ⟨j,e1,e2⟩=>by
     unfold pU
     simp only [e1]
     by_cases hj:j < st.1.ae.length
     ·have g2:st.1.ae[j]? = some st.1.ae[j]:=zq hj
      simp only [bK g2,if_true,aE g2,zb,aY hj (show st.1.ae.length≤1000000 by omega)]
      split
      ·exact .inl ⟨_,rfl,⟨j + 1,rfl,hj⟩,by simp only [zt]; omega⟩
      ·exact .inr ⟨_,rfl,j,rfl,e2⟩
     ·have:j=st.1.ae.length:=by omega
      subst this
      simp only [bE,zf,if_false,zb]
      exact .inr ⟨_,rfl,_,rfl,Nat.le_refl _⟩) ab 0 ⟨0,rfl,Nat.zero_le _⟩ (by have:=an (show st.1.ae.length≤1000000 by omega); show st.1.ae.length - (0:Int).toNat < ab; omega)
    subst k3
    have fin:∀ tw:Bool,(∃ s',(Option.bind (hiO st.1.ae ((k2:Nat) : Int)) fun b16=>Option.bind (aX ([] : (List aB)) b16) fun b17=>Option.bind (aX b17 [q.1]) fun b18=>Option.bind (loO st.1.ae ((k2:Nat) : Int)) fun b19=>Option.bind (aX b18 b19) fun b20=>some (Sum.inl ({ st.1 with ae:=b20 },tw,((i + 1:Nat) : Int)) : (ax×Bool×Int)⊕((ax×Bool×Int)⊕(ax×Int))))=some (.inl s')∧(∃ i:Nat,s'.2.2=(i:Int)∧i≤l.length∧s'.1.ae.length≤i∧na s'.1)∧l.length - s'.2.2.toNat < l.length - ((i:Nat) : Int).toNat):=by
     intro tw
     rw [oa k4]
     simp only [zb]
     rw [aF (by simp; omega)]
     simp only [zb]
     rw [aF (by simp; omega)]
     simp only [zb]
     rw [kt k4]
     simp only [zb]
     rw [aF (by simp; omega)]
     simp only [zb]
     have mem:∀ x∈([] ++ st.1.ae.take k2 ++ [q.1])++st.1.ae.drop k2,x∈st.1.ae∨x=q.1:=by
      intro x hx
      simp only [List.nil_append,List.mem_append,List.mem_singleton] at hx
      rcases hx with (hx | hx) | hx
      ·exact .inl (List.mem_of_mem_take hx)
      ·exact .inr hx
      ·exact .inl (List.mem_of_mem_drop hx)
     refine ⟨_,rfl,⟨i + 1,rfl,hlt,by simp; omega,⟨hp.labels,hp.label,by simp; omega,fun x hx=>?_,fun x hx=>?_⟩⟩,by simp only [zt]; omega⟩
     ·rcases mem x hx with hx | rfl
      ·exact hp.paths x hx
      ·exact q3
     ·rcases mem x hx with hx | rfl
      ·exact hp.caps x hx
      ·exact q2
    simp only [k1,orB,zb]
    by_cases hj:k2 < st.1.ae.length
    ·have g2:st.1.ae[k2]? = some st.1.ae[k2]:=zq hj
     simp only [bK g2,if_true,aE g2,zb]
     by_cases ht:st.2.1=true
     ·simp only [ht,if_true,zb]
      exact .inl (fin _)
     ·simp only [ht,zf,if_false,zb]
      exact .inl (fin _)
    ·have:k2=st.1.ae.length:=by omega
     subst this
     simp only [bE,zf,if_false,zb]
     by_cases ht:st.2.1=true
     ·simp only [ht,if_true,zb]
      exact .inl (fin _)
     ·simp only [ht,zf,if_false,zb]
      exact .inl (fin _)
  ·have:i=l.length:=by omega
   subst this
   simp only [bE,zf,if_false]
   exact .inr ⟨_,rfl,hp⟩) ab ((⟨[],[]⟩ : ax),false,0) ⟨0,rfl,Nat.zero_le _,by simp,.nil⟩ (by have:=an hl; show l.length - (0:Int).toNat < ab; omega)
 rw [r1]
 simp only [zb]
 cases r with
 | inr m=>exact ⟨_,rfl,r2⟩
 | inl m =>
  dsimp only
  split
  ·exact ⟨_,rfl,.nil⟩
  split
  ·exact ⟨_,rfl,.nil⟩
  ·exact ⟨_,rfl,r2⟩
def inI (n:Int) : Prop:=-9223372036854775808≤n∧n≤9223372036854775807
theorem eS {s t:ByteArray} (h:s.size + t.size≤9223372036854775807) : mq s t=some (s++t):=by unfold mq; rw [if_pos h]
theorem Vm (n:Int) : ∃ r,XH [n] = some r∧r.size=1:=⟨_,rfl,by simp [ByteArray.size_push]⟩
theorem Ph:∀ (d:Nat) (n:Int),0≤n→n < 10 ^ (d + 1)→d≤30→n≤9223372036854775807→∀ f,d < f→∃ r,dk f n=some r∧r.size≤d + 1
 | d,n,h0,h1,hd,h2,0,hf=>by omega
 | d,n,h0,h1,hd,h2,f + 1,hf=>by
  unfold dk
  have e1:decide (n < 0)=false:=by simp; omega
  simp only [e1,zf,if_false]
  by_cases hn:n≥10
  ·have e2:decide (n≥10)=true:=by simpa using hn
   match d,h1,hd,hf with
   | 0,h1,_,_=>simp at h1; omega
   | d + 1,h1,hd,hf =>
   have hq:n.tdiv 10=n / 10:=Int.tdiv_eq_ediv_of_nonneg h0
   have hm:n.tmod 10=n % 10:=Int.tmod_eq_emod_of_nonneg h0
   have hw:i64.wrap (n / 10)=n / 10:=by rw [IntKind.wrap_i64]; omega
   have hlt:n / 10 < 10 ^ (d + 1):=by
    have e:(10:Int) ^ (d + 1 + 1)=10 ^ (d + 1) * 10:=by rw [Int.pow_succ]
    rw [e] at h1
    generalize (10:Int) ^ (d + 1)=P at h1 ⊢
    omega
   obtain ⟨a,a1,a2⟩:=Ph d (n / 10) (by omega) hlt (by omega) (by omega) f (by omega)
   obtain ⟨b,b1,b2⟩:=Ph 0 (n % 10) (by omega) (by simp; omega) (by omega) (by omega) f (by omega)
   simp only [e2,if_true,hq,hm,hw,a1,b1,zb]
   rw [eS (by omega)]
   exact ⟨_,rfl,by simp only [ByteArray.size_append]; omega⟩
  ·have e2:decide (n≥10)=false:=by simp; omega
   obtain ⟨r,r1,r2⟩:=Vm (IntKind.u8.wrap (i64.wrap (48 + n)))
   simp only [e2,zf,if_false,r1,zb]
   exact ⟨_,rfl,by omega⟩
theorem Se {n:Int} (h0 : 0≤n) (h:n≤9223372036854775807) {f:Nat} (hf : 18 < f) : ∃ r,dk f n=some r∧r.size≤19:=Ph 18 n h0 (Int.lt_of_le_of_lt h (by decide)) (by omega) h f hf
theorem rn {n:Int} (h:inI n) : ∃ r,dk ab n=some r∧r.size≤30:=by
 by_cases h0 : 0≤n
 ·obtain ⟨r,r1,r2⟩:=Se h0 h.2 (f:=ab) (by unfold ab; omega)
  exact ⟨r,r1,by omega⟩
 ·have hr:ab=999999999 + 1:=rfl
  rw [hr]
  have hneg:∀ f,18 < f→∃ r,dk (f + 1) n=some r∧r.size≤30:=fun f hf=>by
   unfold dk
   have e1:decide (n < 0)=true:=by simp; omega
   simp only [e1,if_true]
   split
   ·exact ⟨_,rfl,by decide⟩
   ·rename_i hne
    have hne:n≠-9223372036854775808:=by simpa using hne
    have hw:i64.wrap (0 - n)=0 - n:=by rw [IntKind.wrap_i64]; have:=h.1; omega
    obtain ⟨a,a1,a2⟩:=Se (n:=0 - n) (by omega) (by have:=h.1; omega) (f:=f) hf
    simp only [hw,a1,zb]
    have e3:(⟨#[45]⟩ : ByteArray).size=1:=rfl
    rw [eS (by rw [e3]; omega)]
    exact ⟨_,rfl,by simp only [ByteArray.size_append,e3]; omega⟩
  exact hneg 999999999 (by omega)
structure W3 (c:ax) : Prop where
 labels:c.ai.length≤1000
 label:∀ x∈c.ai,x.size≤100000
 queues:c.ae.length≤1000
 paths:∀ q∈c.ae,q.aI.size≤100000
 caps:∀ q∈c.ae,q.bl.length≤1000
 user:∀ q∈c.ae,inI q.cZ
 nums:∀ q∈c.ae,∀ x∈q.bl,inI x.kw∧inI x.rU
theorem F3 {c:ax} (h:W3 c) : ∃ r,zn c=some r:=by
 have s1:(⟨#[32]⟩ : ByteArray).size=1:=rfl
 have s2:(⟨#[10]⟩ : ByteArray).size=1:=rfl
 have s3:(⟨#[47]⟩ : ByteArray).size=1:=rfl
 have s4:(⟨#[113,117,101,117,101,32]⟩ : ByteArray).size=6:=rfl
 have s5:(⟨#[108,97,98,101,108,115]⟩ : ByteArray).size=6:=rfl
 have hl:=h.labels
 have hq:=h.queues
 unfold zn
 dsimp only
 obtain ⟨r,r1,r2⟩:=aJ (f:=rh c) (fun st=>∃ i:Nat,st.2=(i:Int)∧i≤1001∧st.1.size≤10 + i * 200000) (fun st=>c.ai.length - st.2.toNat) (fun r=>r.1.size≤300000000) (fun st ⟨i,h1,h2,h3⟩=>by
  unfold rh
  simp only [h1]
  by_cases hlt:i < c.ai.length
  ·have g1:c.ai[i]? = some c.ai[i]:=zq hlt
   have hs:=h.label _ (List.getElem_mem hlt)
   simp only [bK g1,if_true,aE g1,zb,aY hlt (show c.ai.length≤1000000 by omega)]
   rw [eS (by rw [s1]; omega)]
   simp only [zb]
   rw [eS (by simp only [ByteArray.size_append,s1]; omega)]
   exact .inl ⟨_,rfl,⟨i + 1,rfl,by omega,by simp only [ByteArray.size_append,s1]; omega⟩,by simp only [zt]; omega⟩
  ·have:decide ((i:Int) < (c.ai.length:Int))=false:=by simp; omega
   simp only [this,zf,if_false]
   exact .inr ⟨_,rfl,by show st.1.size≤_; omega⟩) ab ((⟨#[108,97,98,101,108,115]⟩ : ByteArray),1) ⟨1,rfl,by omega,by rw [s5]; omega⟩ (by show c.ai.length - (1:Int).toNat < ab; unfold ab; omega)
 rw [r1]
 simp only [zb]
 rw [eS (by rw [s2]; omega)]
 simp only [zb]
 obtain ⟨q,q1,_⟩:=aJ (f:=rg c) (fun st=>∃ i:Nat,st.2=(i:Int)∧i≤c.ae.length∧st.1.size≤400000000 + i * 1000000) (fun st=>c.ae.length - st.2.toNat) (fun _=>True) (fun st ⟨i,h1,h2,h3⟩=>by
  unfold rg
  simp only [h1]
  by_cases hlt:i < c.ae.length
  ·have g1:c.ae[i]? = some c.ae[i]:=zq hlt
   have hm:=List.getElem_mem hlt
   generalize c.ae[i] = Q at g1 hm
   have hp:=h.paths _ hm
   have hc:=h.caps _ hm
   have hn:=h.nums _ hm
   obtain ⟨u,u1,u2⟩:=rn (h.user _ hm)
   simp only [bK g1,if_true,aE g1,u1,zb,aY hlt (show c.ae.length≤1000000 by omega)]
   rw [eS (by rw [s4]; omega)]
   simp only [zb]
   rw [eS (by simp only [ByteArray.size_append,s4]; omega)]
   simp only [zb]
   rw [eS (by simp only [ByteArray.size_append,s4,s1]; omega)]
   simp only [zb]
   rw [eS (by simp only [ByteArray.size_append,s4,s1]; omega)]
   simp only [zb]
   generalize hX:st.1++(⟨#[113,117,101,117,101,32]⟩ : ByteArray)++Q.aI++(⟨#[32]⟩ : ByteArray)++u=X
   have hXs:X.size≤400000000 + i * 1000000 + 200000:=by rw [← hX]; simp only [ByteArray.size_append,s4,s1]; omega
   obtain ⟨w,w1,w2⟩:=aJ (f:=rf Q) (fun st2=>∃ j:Nat,st2.2=(j:Int)∧j≤Q.bl.length∧st2.1.size≤X.size + j * 100) (fun st2=>Q.bl.length - st2.2.toNat) (fun r=>r.1.size≤X.size + 100000) (fun st2 ⟨j,e1,e2,e3⟩=>by
    unfold rf
    simp only [e1]
    by_cases hj:j < Q.bl.length
    ·have g2:Q.bl[j]? = some Q.bl[j]:=zq hj
     obtain ⟨n1,n2⟩:=hn _ (List.getElem_mem hj)
     obtain ⟨a,a1,a2⟩:=rn n1
     obtain ⟨b,b1,b2⟩:=rn n2
     simp only [bK g2,if_true,aE g2,a1,b1,zb,aY hj (show Q.bl.length≤1000000 by omega)]
     rw [eS (by rw [s1]; omega)]
     simp only [zb]
     rw [eS (by simp only [ByteArray.size_append,s1]; omega)]
     simp only [zb]
     rw [eS (by simp only [ByteArray.size_append,s1,s3]; omega)]
     simp only [zb]
     rw [eS (by simp only [ByteArray.size_append,s1,s3]; omega)]
     exact .inl ⟨_,rfl,⟨j + 1,rfl,hj,by simp only [ByteArray.size_append,s1,s3]; omega⟩,by simp only [zt]; omega⟩
    ·have:j=Q.bl.length:=by omega
     subst this
     simp only [bE,zf,if_false]
     exact .inr ⟨_,rfl,by show st2.1.size≤_; omega⟩) ab (X,0) ⟨0,rfl,Nat.zero_le _,by simp⟩ (by show Q.bl.length - (0:Int).toNat < ab; unfold ab; omega)
   rw [w1]
   simp only [zb]
   rw [eS (by rw [s2]; omega)]
   exact .inl ⟨_,rfl,⟨i + 1,rfl,hlt,by simp only [ByteArray.size_append,s2]; omega⟩,by simp only [zt]; omega⟩
  ·have:i=c.ae.length:=by omega
   subst this
   simp only [bE,zf,if_false]
   exact .inr ⟨_,rfl,trivial⟩) ab (r.1++(⟨#[10]⟩ : ByteArray),0) ⟨0,rfl,Nat.zero_le _,by simp only [ByteArray.size_append,s2]; omega⟩ (by show c.ae.length - (0:Int).toNat < ab; unfold ab; omega)
 rw [q1]
 exact ⟨_,rfl⟩
def cnt (s:ByteArray) (k:Nat) : Nat:=((s.data.toList.take k).filter (fun c=>c==46)).length
def dots (s:ByteArray) : Nat:=cnt s s.size
theorem HH {s:ByteArray} {i:Nat} {b:Int} (h:lc s (i:Int)=some b) : ∃ c:UInt8,s.data.toList[i]? = some c∧b=(c.toNat:Int):=by
 unfold lc at h
 rw [if_pos (by omega)] at h
 rw [zt,zm] at h
 obtain ⟨c,h1,h2⟩:=h
 exact ⟨c,h1,h2.symm⟩
theorem Fx {s:ByteArray} {i:Nat} {c:UInt8} (h:s.data.toList[i]? = some c) : cnt s (i + 1)=cnt s i + (if c=46 then 1 else 0):=by
 unfold cnt
 rw [List.take_add_one,h,List.filter_append,List.length_append]
 by_cases hc:c=46
 ·subst hc; simp
 ·have:(c==46)=false:=by simpa using hc
  simp [hc,this]
theorem WE (s:ByteArray) {i j:Nat} (h:i≤j) : cnt s i≤cnt s j:=by
 unfold cnt
 exact (List.Sublist.filter _ ((List.take_prefix_take_left h).sublist)).length_le
theorem Wv {c:UInt8} (h:((c.toNat:Int) != 46)=false) : c=46:=by
 have h:(c.toNat:Int)=46:=by simpa using h
 have h:c.toNat=46:=by omega
 exact UInt8.toNat_inj.1 (by rw [h]; rfl)
theorem VK {c:UInt8} (h:((c.toNat:Int) != 46)=true) : c≠46:=by
 intro e
 subst e
 simp at h
theorem Wu {s:ByteArray} {k:Nat} (hk:k≤s.size) : dots (s.extract 0 k)=cnt s k:=by
 unfold dots cnt
 have e1:(s.extract 0 k).data.toList=s.data.toList.take k:=by
  simp [ByteArray.data_extract]
 have e2:(s.extract 0 k).size=k:=by simp only [ByteArray.size_extract]; omega
 rw [e1,e2,List.take_take,Nat.min_self]
theorem Pw {p r:ByteArray} (hp:p.size≤1000000) (h:dP p=some r) : r.size=0∨dots r + 1≤dots p:=by
 unfold dP at h
 dsimp only at h
 obtain ⟨k,hk,h⟩:=bq h
 have hq:k < 0∨lc p k=some 46:=by
  refine mI (f:=iY p) (fun _=>True) (fun k=>k < 0∨lc p k=some 46) (fun st r _ h=>?_) _ _ k trivial hk
  unfold iY at h
  dsimp only at h
  obtain ⟨q,hq,h⟩:=bq h
  split at h
  ·injection h with h; subst h; trivial
  ·rename_i hf
   injection h with h
   subst h
   show st < 0∨lc p st=some 46
   split at hq
   ·obtain ⟨b,hb,hq⟩:=bq hq
    injection hq with hq
    have:b=46:=by rw [← hq] at hf; simpa using hf
    exact .inr (by rw [hb,this])
   ·rename_i hge
    exact .inl (by have : ¬ (st≥0):=fun e=>hge (by simpa using e); omega)
 split at h
 ·injection h with h; subst h; exact .inl rfl
 ·rename_i hge
  have hge : ¬ k < 0:=fun e=>hge (by simpa using e)
  obtain ⟨b,hb,h⟩:=bq h
  injection h with h
  subst h
  rcases hq with hq | hq
  ·exact absurd hq hge
  ·obtain ⟨n,rfl⟩ : ∃ n:Nat,k=(n:Int):=⟨k.toNat,by omega⟩
   obtain ⟨c,hc,e⟩:=HH hq
   have hlt:n < p.size:=by have:=(zg.1 hc).1; simpa using this
   rw [Rm (Nat.le_of_lt hlt)] at hb
   injection hb with hb
   subst hb
   refine .inr ?_
   rw [Wu (Nat.le_of_lt hlt)]
   have hc46:c=46:=Wv (by rw [← e]; rfl)
   have h1:=Fx hc
   rw [if_pos hc46] at h1
   have h2:=WE p (i:=n + 1) (j:=p.size) hlt
   unfold dots
   omega
theorem sf {p:ByteArray} (hp:p.size≤1000000) : dP p=some (eO p)∧((eO p).size < p.size∨(eO p).size=0):=by
 obtain ⟨r,h1,h2⟩:=nR p hp
 unfold eO
 rw [h1]
 exact ⟨rfl,h2⟩
theorem Fp:∀ (n:Nat) (p:ByteArray),p.size≤1000000→du n p≤dots p + 1
 | 0,p,_=>Nat.zero_le _
 | n + 1,p,hp=>by
  unfold du
  split
  ·exact Nat.zero_le _
  ·obtain ⟨h1,h2⟩:=sf hp
   have ih:=Fp n (eO p) (by omega)
   rcases Pw hp h1 with h | h
   ·have:du n (eO p)=0:=by
     cases n with
     | zero=>rfl
     | succ n=>unfold du; rw [if_pos h]
    omega
   ·omega
theorem FX (s:ByteArray) : ∃ r,vN s=some r:=by
 unfold vN
 simp only [orB,zb]
 by_cases h0:s.size < 1∨s.size > 12
 ·have:(decide ((s.size:Int) < 1)||decide ((s.size:Int) > 12))=true:=by
   rcases h0 with h | h
   ·have:decide ((s.size:Int) < 1)=true:=by simp; omega
    rw [this]; rfl
   ·have:decide ((s.size:Int) > 12)=true:=by simp; omega
    rw [this]; simp
  simp only [this,if_true]
  exact ⟨_,rfl⟩
 ·have:(decide ((s.size:Int) < 1)||decide ((s.size:Int) > 12))=false:=by
   have h1:decide ((s.size:Int) < 1)=false:=by simp; omega
   have h2:decide ((s.size:Int) > 12)=false:=by simp; omega
   rw [h1,h2]; rfl
  simp only [this,zf,if_false]
  obtain ⟨r,r1,_⟩:=aJ (f:=rc s) (fun st=>∃ i:Nat,st=(i:Int)∧i≤s.size) (fun st=>s.size - st.toNat) (fun _=>True) (fun st ⟨i,h1,h2⟩=>by
   unfold rc
   simp only [h1]
   by_cases hlt:i < s.size
   ·obtain ⟨b,hb⟩:=pu (s:=s) (k:=(i:Int)) (by omega) (by simpa using hlt)
    simp only [ltS hlt,if_true,hb,orB,dN,zb,wC (show i≤1000000 by omega)]
    split
    ·exact .inr ⟨_,rfl,trivial⟩
    ·exact .inl ⟨_,rfl,⟨i + 1,rfl,hlt⟩,by simp only [zt]; omega⟩
   ·have:i=s.size:=by omega
    subst this
    simp only [geS,zf,if_false]
    exact .inr ⟨_,rfl,trivial⟩) ab 0 ⟨0,rfl,Nat.zero_le _⟩ (by show s.size - (0:Int).toNat < ab; unfold ab; omega)
  rw [r1]
  simp only [zb]
  cases r <;> exact ⟨_,rfl⟩
theorem KI (s:ByteArray) (hs:s.size≤100000) : ∃ r,vM s=some r∧(r=true→dots s≤3):=by
 unfold vM
 dsimp only
 have hcn:∀ k,cnt s k≤100000:=fun k=>by
  unfold cnt
  refine Nat.le_trans (List.length_filter_le _ _) (Nat.le_trans (List.length_take_le' _ _) ?_)
  simpa using hs
 obtain ⟨r,r1,r2⟩:=aJ (f:=og s) (fun st=>∃ i a n:Nat,st.2.2=(i:Int)∧st.1=(a:Int)∧st.2.1=(n:Int)∧a≤i∧((i≤s.size∧n=cnt s i)∨(i=s.size + 1∧n=cnt s s.size + 1))) (fun st=>s.size + 1 - st.2.2.toNat) (fun r=>match r with | .inl m=>m.2.1=((cnt s s.size + 1:Nat) : Int) | .inr b=>b=false) (fun st ⟨i,a,n,h1,h2,h3,h4,h5⟩=>by
  unfold og
  simp only [h1,h2,h3]
  rcases h5 with ⟨h5,h6⟩ | ⟨h5,h6⟩
  ·have hle:decide ((i:Int)≤(s.size:Int))=true:=by simp; omega
   have hn:n≤100000:=by rw [h6]; exact hcn i
   obtain ⟨nm,hnm⟩:=FX (s.extract a i)
   simp only [hle,if_true]
   have body:∀ n',(n' = n + 1)→(i=s.size∨cnt s (i + 1)=n + 1)→∃ o,(Option.bind (JC s (a:Int) (i:Int)) fun b5=>Option.bind (vN b5) fun c6=>Option.bind (if (!c6)=true then some true else Option.bind (if ((n:Int)==0)=true then Option.bind (JC s (a:Int) (i:Int)) fun b7=>some (!(b7.toList==(⟨#[114,111,111,116]⟩ : ByteArray).toList)) else some false) fun q8=>some q8) fun q9=>if q9=true then some (Sum.inr (Sum.inr false) : (Int×Int×Int)⊕((Int×Int×Int)⊕Bool)) else some (.inl (i64.wrap ((i:Int) + 1),i64.wrap ((n:Int) + 1),i64.wrap ((i:Int) + 1))))=some o∧(o = .inr (.inr false)∨o = .inl (((i + 1:Nat) : Int),((n + 1:Nat) : Int),((i + 1:Nat) : Int))):=by
    intro n' _ _
    simp only [Rl h4 h5,hnm,zb,wC (show i≤1000000 by omega),wC (show n≤1000000 by omega)]
    have:∀ q:Bool,∃ o,(if q=true then some (Sum.inr (Sum.inr false) : (Int×Int×Int)⊕((Int×Int×Int)⊕Bool)) else some (.inl (((i + 1:Nat) : Int),((n + 1:Nat) : Int),((i + 1:Nat) : Int))))=some o∧(o = .inr (.inr false)∨o = .inl (((i + 1:Nat) : Int),((n + 1:Nat) : Int),((i + 1:Nat) : Int))):=fun q=>by
     cases q
     ·exact ⟨_,rfl,.inr rfl⟩
     ·exact ⟨_,rfl,.inl rfl⟩
    cases nm with
    | false=>simp only [Bool.not_false,if_true,zb]; exact ⟨_,rfl,.inl rfl⟩
    | true =>
     simp only [Bool.not_true,zf,if_false]
     split
     ·simp only [zb]; exact this _
     ·simp only [zb]; exact this _
   by_cases hlt:i < s.size
   ·obtain ⟨b,hb⟩:=pu (s:=s) (k:=(i:Int)) (by omega) (by simpa using hlt)
    obtain ⟨c,hc,e⟩:=HH hb
    simp only [ltS hlt,if_true,hb,zb]
    cases hbd:(b != 46) with
    | true =>
     simp only [if_true,wC (show i≤1000000 by omega)]
     have hnd:=VK (c:=c) (by rw [← e]; exact hbd)
     exact .inl ⟨_,rfl,⟨i + 1,a,n,rfl,rfl,rfl,by omega,.inl ⟨hlt,by rw [Fx hc,if_neg hnd]; exact h6⟩⟩,by simp only [zt]; omega⟩
    | false =>
     simp only [zf,if_false]
     have hdt:=Wv (c:=c) (by rw [← e]; exact hbd)
     have hcs:cnt s (i + 1)=n + 1:=by rw [Fx hc,if_pos hdt,h6]
     obtain ⟨o,o1,o2⟩:=body (n + 1) rfl (.inr hcs)
     rw [o1]
     rcases o2 with rfl | rfl
     ·exact .inr ⟨_,rfl,rfl⟩
     ·exact .inl ⟨_,rfl,⟨i + 1,i + 1,n + 1,rfl,rfl,rfl,Nat.le_refl _,.inl ⟨hlt,hcs.symm⟩⟩,by simp only [zt]; omega⟩
   ·have hi:i=s.size:=by omega
    subst hi
    simp only [geS,zf,if_false,zb]
    obtain ⟨o,o1,o2⟩:=body (n + 1) rfl (.inl rfl)
    rw [o1]
    rcases o2 with rfl | rfl
    ·exact .inr ⟨_,rfl,rfl⟩
    ·exact .inl ⟨_,rfl,⟨s.size + 1,s.size + 1,n + 1,rfl,rfl,rfl,Nat.le_refl _,.inr ⟨rfl,by rw [h6]⟩⟩,by simp only [zt]; omega⟩
  ·have hle:decide ((i:Int)≤(s.size:Int))=false:=by simp; omega
   simp only [hle,zf,if_false]
   exact .inr ⟨_,rfl,by show (n:Int) = _; rw [h6]⟩) ab (0,0,0) ⟨0,0,0,rfl,rfl,rfl,Nat.le_refl _,.inl ⟨Nat.zero_le _,by simp [cnt]⟩⟩ (by show s.size + 1 - (0:Int).toNat < ab; unfold ab; omega)
 rw [r1]
 simp only [zb]
 cases r with
 | inr m=>exact ⟨_,rfl,fun e=>by rw [show m=false from r2] at e; cases e⟩
 | inl m =>
  refine ⟨_,rfl,fun e=>?_⟩
  have r2:m.2.1=((cnt s s.size + 1:Nat) : Int):=r2
  rw [r2] at e
  have:=zd e
  unfold dots
  omega
theorem KH {c:ax} (h:na c) : ∃ r,si c=some r∧(r=0→1≤c.ai.length∧c.ai.length≤3∧c.ae.length≤16):=by
 have hl:=h.labels
 have hq:=h.queues
 unfold si
 simp only [orB,zb]
 cases hb:(decide ((c.ai.length:Int) < 1)||decide ((c.ai.length:Int) > 3)||decide ((c.ae.length:Int) > 16)) with
 | true=>simp only [if_true]; exact ⟨_,rfl,fun e=>by cases e⟩
 | false =>
  simp only [Bool.or_eq_false_iff,decide_eq_false_iff_not] at hb
  obtain ⟨⟨b1,b2⟩,b3⟩:=hb
  have good : 1≤c.ai.length∧c.ai.length≤3∧c.ae.length≤16:=⟨by omega,by omega,by omega⟩
  have hpos : 0 < c.ai.length:=by omega
  have i0:au c.ai 0=some c.ai[0]:=aE (zq hpos)
  simp only [zf,if_false,i0,zb]
  split
  ·exact ⟨_,rfl,fun _=>good⟩
  obtain ⟨r,r1,_⟩:=aJ (f:=oe c) (fun st=>∃ i:Nat,st=(i:Int)) (fun st=>c.ai.length - st.toNat) (fun _=>True) (fun st ⟨i,h1⟩=>by
   unfold oe
   simp only [h1]
   by_cases hlt:i < c.ai.length
   ·have g1:c.ai[i]? = some c.ai[i]:=zq hlt
    obtain ⟨n,hn⟩:=FX c.ai[i]
    simp only [bK g1,if_true,aE g1,hn,zb,aY hlt (show c.ai.length≤1000000 by omega)]
    split
    ·exact .inr ⟨_,rfl,trivial⟩
    ·exact .inl ⟨_,rfl,⟨i + 1,rfl⟩,by simp only [zt]; omega⟩
   ·have:decide ((i:Int) < (c.ai.length:Int))=false:=by simp; omega
    simp only [this,zf,if_false]
    exact .inr ⟨_,rfl,trivial⟩) ab 1 ⟨1,rfl⟩ (by show c.ai.length - (1:Int).toNat < ab; unfold ab; omega)
  rw [r1]
  simp only [zb]
  cases r with
  | inr m=>exact ⟨_,rfl,fun _=>good⟩
  | inl m =>
   dsimp only
   obtain ⟨q,q1,_⟩:=aJ (f:=od c) (fun st=>∃ i:Nat,st=(i:Int)) (fun st=>c.ai.length - st.toNat) (fun _=>True) (fun st ⟨i,h1⟩=>by
    unfold od
    simp only [h1]
    by_cases hlt:i < c.ai.length
    ·have g1:c.ai[i]? = some c.ai[i]:=zq hlt
     obtain ⟨w,w1,_⟩:=aJ (f:=ob (i:Int) c) (fun st=>∃ j:Nat,st=(j:Int)) (fun st=>i - st.toNat) (fun _=>True) (fun st ⟨j,e1⟩=>by
      unfold ob
      simp only [e1]
      by_cases hj:j < i
      ·have g2:c.ai[j]? = some c.ai[j]:=zq (by omega)
       have hd:decide ((j:Int) < (i:Int))=true:=by simpa using hj
       simp only [hd,if_true,aE g1,aE g2,zb,wC (show j≤1000000 by omega)]
       split
       ·exact .inr ⟨_,rfl,trivial⟩
       ·exact .inl ⟨_,rfl,⟨j + 1,rfl⟩,by simp only [zt]; omega⟩
      ·have hd:decide ((j:Int) < (i:Int))=false:=by simp; omega
       simp only [hd,zf,if_false]
       exact .inr ⟨_,rfl,trivial⟩) ab 1 ⟨1,rfl⟩ (by show i - (1:Int).toNat < ab; unfold ab; omega)
     simp only [bK g1,if_true,w1,zb]
     cases w with
     | inr m=>exact .inr ⟨_,rfl,trivial⟩
     | inl m =>
      simp only [aY hlt (show c.ai.length≤1000000 by omega)]
      exact .inl ⟨_,rfl,⟨i + 1,rfl⟩,by simp only [zt]; omega⟩
    ·have:decide ((i:Int) < (c.ai.length:Int))=false:=by simp; omega
     simp only [this,zf,if_false]
     exact .inr ⟨_,rfl,trivial⟩) ab 1 ⟨1,rfl⟩ (by show c.ai.length - (1:Int).toNat < ab; unfold ab; omega)
   rw [q1]
   simp only [zb]
   cases q with
   | inr m=>exact ⟨_,rfl,fun _=>good⟩
   | inl m=>exact ⟨_,rfl,fun _=>good⟩
structure vf (c:ax) (i:Nat) (q:aB) : Prop where
 dots:dots q.aI≤3
 above : 0 < i→isQ c (eO q.aI)=true
 caps:q.bl.length=c.ai.length
theorem na.sz {c:ax} (h:na c) (hc:∀ q∈c.ae,q.bl.length≤1000) (hq:c.ae.length≤16) : SzC c :=
 ⟨Nat.le_trans h.labels (by decide),Nat.le_trans hq (by decide),hc,fun q hq=>Nat.le_trans (h.paths q hq) (by decide)⟩
theorem Ug (c:ax) (p:ByteArray) (hq:c.ae.length≤1000000) (hc:∀ q∈c.ae,q.bl.length≤1000000) : jr c p=some (EN c p,isQ c p):=by
 unfold jr EN isQ
 dsimp only
 rw [sj c p () hq]
 have hg:dH c p=fun (_:Unit) q=>if (q.aI.toList==p.toList)=true then Option.bind (aX [] q.bl) fun b=>some (.inr (.inr ({ q with bl:=b },true))) else some (.inl ()):=rfl
 obtain ⟨r,h1,h2⟩ : ∃ r,bk (dH c p) (fun _=>(.inl (c.ae.length:Int) : Int⊕(aB×Bool))) () c.ae=some r∧r=(match c.ae.find? fun q=>q.aI.toList==p.toList with | some q=>.inr (q,true) | none=>.inl (c.ae.length:Int)):=by
  rw [hg]
  have:∀ l:List aB,(∀ q∈l,q.bl.length≤1000000)→bk (fun (_:Unit) q=>if (q.aI.toList==p.toList)=true then Option.bind (aX [] q.bl) fun b=>some (.inr (.inr ({ q with bl:=b },true))) else some (.inl ())) (fun _=>(.inl (c.ae.length:Int) : Int⊕(aB×Bool))) () l=some (match l.find? fun q=>q.aI.toList==p.toList with | some q=>.inr (q,true) | none=>.inl (c.ae.length:Int)):=by
   intro l
   induction l with
   | nil=>intro _; rfl
   | cons q l ih =>
    intro hl
    simp only [bk,List.find?_cons]
    cases hb:(q.aI.toList==p.toList) with
    | true =>
     simp only [if_true]
     rw [aF (by have:=hl q List.mem_cons_self; simp; omega)]
     simp
    | false =>
     simp only [zf,if_false]
     exact ih (fun x hx=>hl x (List.mem_cons_of_mem _ hx))
  exact ⟨_,this _ hc,rfl⟩
 rw [h1,h2]
 cases hf:c.ae.find? fun q=>q.aI.toList==p.toList with
 | none =>
  have:(c.ae.any fun q=>q.aI.toList==p.toList)=false:=by
   rw [List.any_eq_false]; intro x hx; have:=List.find?_eq_none.1 hf x hx; simpa using this
  rw [this]; rfl
 | some q =>
  have:(c.ae.any fun q=>q.aI.toList==p.toList)=true:=by rw [List.any_eq_true]; exact ⟨q,List.mem_of_find?_eq_some hf,List.find?_some (p:=fun q:aB=>q.aI.toList==p.toList) hf⟩
  rw [this]; rfl
theorem Nb {c:ax} (h:na c) (i:Nat) (hi:i < c.ae.length) : ∃ r,uN c (i:Int)=some r∧(r=0→vf c i c.ae[i]):=by
 have hq:=h.queues
 have g1:c.ae[i]? = some c.ae[i]:=zq hi
 have hm:=List.getElem_mem hi
 have hps:=h.paths _ hm
 have hcs:=h.caps _ hm
 obtain ⟨b,b1,b2⟩:=KI c.ae[i].aI hps
 obtain ⟨a1,a2⟩:=sf (p:=c.ae[i].aI) (by omega)
 have hfind:=Ug c (eO c.ae[i].aI) (by omega) (fun q hq=>Nat.le_trans (h.caps q hq) (by decide))
 unfold uN
 simp only [aE g1,b1,zb]
 cases b with
 | false=>simp only [Bool.not_false,if_true]; exact ⟨_,rfl,fun e=>by cases e⟩
 | true =>
  have hd:=b2 rfl
  simp only [Bool.not_true,zf,if_false]
  have step:∀ q4:Bool,∃ r,(if q4=true then some 7 else Option.bind (dP c.ae[i].aI) fun c5=>Option.bind (jr c c5) fun c6=>Option.bind (if decide ((i:Int) > 0)=true then some (!c6.2) else some false) fun q7=>if q7=true then some 12 else Option.bind (if decide (c.ae[i].cZ < 1)=true then some true else some (decide (c.ae[i].cZ > 1000000))) fun q8=>Option.bind (if q8=true then some true else some ((c.ae[i].bl.length:Int) != (c.ai.length:Int))) fun q9=>if q9=true then some 1 else Option.bind (ah (lB c.ae[i]) ab 0) fun r15=>match r15 with | .inr m16=>some m16 | .inl m16=>some (0:Int))=some r∧(r=0→vf c i c.ae[i]):=by
   intro q4
   cases q4 with
   | true=>simp only [if_true]; exact ⟨_,rfl,fun e=>by cases e⟩
   | false =>
    simp only [zf,if_false,a1,hfind,zb,orB,dN]
    split
    ·exact ⟨_,rfl,fun e=>by cases e⟩
    rename_i h7
    split
    ·exact ⟨_,rfl,fun e=>by cases e⟩
    rename_i h9
    have good:vf c i c.ae[i]:=⟨hd,fun h0=>by
     have hdd:decide ((i:Int) > 0)=true:=by simpa using h0
     rw [hdd] at h7
     simpa using h7,by
     have : ¬ ((c.ae[i].bl.length:Int) != (c.ai.length:Int))=true:=fun e=>h9 (by rw [e]; simp)
     have:(c.ae[i].bl.length:Int)=(c.ai.length:Int):=by simpa using this
     omega⟩
    obtain ⟨w,w1,_⟩:=aJ (f:=lB c.ae[i]) (fun st=>∃ j:Nat,st=(j:Int)) (fun st=>c.ae[i].bl.length - st.toNat) (fun _=>True) (fun st ⟨j,e1⟩=>by
     unfold lB
     simp only [e1]
     by_cases hj:j < c.ae[i].bl.length
     ·have g2:c.ae[i].bl[j]? = some c.ae[i].bl[j]:=zq hj
      simp only [bK g2,if_true,aE g2,orB,zb,aY hj (show c.ae[i].bl.length≤1000000 by omega)]
      split
      ·exact .inr ⟨_,rfl,trivial⟩
      ·exact .inl ⟨_,rfl,⟨j + 1,rfl⟩,by simp only [zt]; omega⟩
     ·have hd:decide ((j:Int) < (c.ae[i].bl.length:Int))=false:=by simp; omega
      simp only [hd,zf,if_false]
      exact .inr ⟨_,rfl,trivial⟩) ab 0 ⟨0,rfl⟩ (by show c.ae[i].bl.length - (0:Int).toNat < ab; unfold ab; omega)
    rw [w1]
    simp only [zb]
    cases w with
    | inr m=>exact ⟨_,rfl,fun _=>good⟩
    | inl m=>exact ⟨_,rfl,fun _=>good⟩
  by_cases h0 : 0 < i
  ·have hdd:decide ((i:Int) > 0)=true:=by simpa using h0
   obtain ⟨k,rfl⟩ : ∃ k,i=k + 1:=⟨i - 1,by omega⟩
   have hk:i64.wrap (((k + 1:Nat) : Int) - 1)=(k:Int):=by rw [Jo (by omega)]; omega
   have g2:c.ae[k]? = some c.ae[k]:=zq (by omega)
   simp only [hdd,if_true,hk,aE g2,zb]
   have:=step (Op.bytesLess c.ae[k + 1].aI.toList c.ae[k].aI.toList||c.ae[k + 1].aI.toList==c.ae[k].aI.toList)
   simp only [hdd,if_true] at this
   exact this
  ·have hdd:decide ((i:Int) > 0)=false:=by simp; omega
   simp only [hdd,zf,if_false,zb]
   have:=step false
   simp only [hdd,zf,if_false] at this
   exact this
theorem uO (c:ax) (p:ByteArray) (h:SzC c) : ∃ r,eX c p=some r∧r.length≤c.ae.length∧∀ x∈r,∃ q∈c.ae,q.aI=x∧(!(p.toList==(⟨#[]⟩ : ByteArray).toList))=true∧eO x=p:=by
 unfold eX
 have hs:=jq c p [] (by have:=h.queues; omega)
 dsimp only
 rw [hs]
 obtain ⟨r,h1,h2⟩:=aW (g:=cA c p) (fin:=fun a=>(a,(c.ae.length:Int))) (fun k a=>a.length≤k∧∀ x∈a,∃ q∈c.ae,q.aI=x∧(!(p.toList==(⟨#[]⟩ : ByteArray).toList))=true∧eO x=p) (fun r=>r.1.length≤c.ae.length∧∀ x∈r.1,∃ q∈c.ae,q.aI=x∧(!(p.toList==(⟨#[]⟩ : ByteArray).toList))=true∧eO x=p) c.ae 0 [] (fun j a x hx ⟨h1,h2⟩=>by
  have hm:=List.mem_of_getElem? hx
  have hj:=(zg.1 hx).1
  obtain ⟨hr,_⟩:=sf (h.paths x hm)
  have hqs:=h.queues
  unfold cA
  simp only [hr,zb,dN]
  split
  ·rename_i hc
   rw [Bool.and_eq_true] at hc
   rw [aF (by simp; omega)]
   refine ⟨_,rfl,fun a' e=>?_,fun r e=>by cases e⟩
   injection e with e
   subst e
   refine ⟨by simp; omega,fun y hy=>?_⟩
   simp only [List.mem_append,List.mem_singleton] at hy
   rcases hy with hy | rfl
   ·exact h2 y hy
   ·exact ⟨x,hm,rfl,hc.1,rY hc.2⟩
  ·refine ⟨_,rfl,fun a' e=>?_,fun r e=>by cases e⟩
   injection e with e
   subst e
   exact ⟨by omega,h2⟩) (fun a ⟨h1,h2⟩=>⟨by simpa using h1,h2⟩) ⟨by simp,by simp⟩
 rw [h1]
 exact ⟨_,rfl,h2⟩
theorem Du {c:ax} {q:aB} (h:q∈c.ae) : isQ c q.aI=true:=by
 unfold isQ
 rw [List.any_eq_true]
 exact ⟨q,h,by simp⟩
theorem M9:eO ⟨#[114,111,111,116]⟩=⟨#[]⟩:=by kernel_rfl
theorem PK {c:ax} (h:SzC c) (hc:∀ q∈c.ae,q.bl.length=c.ai.length) : ∃ r,DD c=some r:=by
 have hq:=h.queues
 have hl:=h.labels
 unfold DD
 dsimp only
 rw [BG c () (by omega)]
 obtain ⟨r,r1,_⟩:=aW (g:=g9 c) (fin:=fun _=>(.inl (c.ae.length:Int) : Int⊕Bool)) (fun _ _=>True) (fun _=>True) c.ae 0 () (fun j a x hx _=>by
  obtain ⟨ks,k1,k2,k3⟩:=uO c x.aI h
  have hkl:ks.length≤1000000:=by omega
  unfold g9
  simp only [k1,zb]
  obtain ⟨w,w1,_⟩:=aJ (f:=nq c ks) (fun st=>∃ i:Nat,st=(i:Int)) (fun st=>c.ai.length - st.toNat) (fun _=>True) (fun st ⟨i,h1⟩=>by
   unfold nq
   simp only [h1,dN]
   by_cases hlt:i < c.ai.length
   ·obtain ⟨v,v1,_⟩ : ∃ v,ah (jR ks c (i:Int)) ab (0,0)=some v∧True:=by
     rw [BF ks c (i:Int) 0 hkl]
     exact aW (g:=g8 ks c (i:Int)) (fin:=fun a=>(a,(ks.length:Int))) (fun _ _=>True) (fun _=>True) ks 0 0 (fun j2 a y hy _=>by
      obtain ⟨q,q1,q2,_⟩:=k3 y (List.mem_of_getElem? hy)
      have hqq:isQ c y=true:=by rw [← q2]; exact Du q1
      have hcl:=hc _ (yM hqq).1
      have g2:(EN c y).bl[i]? = some (EN c y).bl[i]:=zq (by omega)
      unfold g8
      simp only [mR c y h,zb,aE g2]
      exact ⟨_,rfl,fun _ _=>trivial,fun _ _=>trivial⟩) (fun _ _=>trivial) trivial
    simp only [v1,zb,wC (show i≤1000000 by omega)]
    split
    ·split
     ·exact .inr ⟨_,rfl,trivial⟩
     ·exact .inl ⟨_,rfl,⟨i + 1,rfl⟩,by simp only [zt]; omega⟩
    ·exact .inr ⟨_,rfl,trivial⟩
   ·have hd:decide ((i:Int) < (c.ai.length:Int))=false:=by simp; omega
    simp only [hd,Bool.false_and,zf,if_false]
    exact .inr ⟨_,rfl,trivial⟩) ab 0 ⟨0,rfl⟩ (by show c.ai.length - (0:Int).toNat < ab; unfold ab; omega)
  rw [w1]
  simp only [zb]
  cases w <;> exact ⟨_,rfl,fun _ _=>trivial,fun _ _=>trivial⟩) (fun _ _=>trivial) trivial
 rw [r1]
 simp only [zb]
 cases r <;> exact ⟨_,rfl⟩
structure Y9 (c:ax) : Prop where
 form:AD c
 lab1 : 1≤c.ai.length
 lab3:c.ai.length≤3
 leaf:∃ q∈c.ae,Cf c q.aI=true
theorem EZ {α : Type} (f : α→Nat) : ∀ (l:List α),l≠[]→∃ x∈l,∀ y∈l,f y≤f x
 | [],h=>absurd rfl h
 | [x],_=>⟨x,List.mem_cons_self,fun y hy=>by simp at hy; subst hy; exact Nat.le_refl _⟩
 | x::z::l,_=>by
  obtain ⟨m,hm,hmax⟩:=EZ f (z::l) (by simp)
  by_cases h:f m≤f x
  ·refine ⟨x,List.mem_cons_self,fun y hy=>?_⟩
   rcases List.mem_cons.1 hy with rfl | hy
   ·exact Nat.le_refl _
   ·exact Nat.le_trans (hmax y hy) h
  ·refine ⟨m,List.mem_cons_of_mem _ hm,fun y hy=>?_⟩
   rcases List.mem_cons.1 hy with rfl | hy
   ·omega
   ·exact hmax y hy
theorem RM {c:ax} (h:SzC c) (hne:c.ae≠[]) : ∃ q∈c.ae,Cf c q.aI=true:=by
 obtain ⟨q,hq,hmax⟩:=EZ (fun q:aB=>q.aI.size) c.ae hne
 refine ⟨q,hq,?_⟩
 obtain ⟨ks,k1,k2,k3⟩:=uO c q.aI h
 have hnil:ks = []:=by
  cases ks with
  | nil=>rfl
  | cons x ks =>
   exfalso
   obtain ⟨q2,m1,m2,m3,m4⟩:=k3 x List.mem_cons_self
   have h0:=qH m3
   subst m2
   rcases (sf (h.paths q2 m1)).2 with e | e
   ·have:=hmax q2 m1
    rw [m4] at e
    omega
   ·rw [m4] at e; omega
 have:jV c q.aI=some true:=by
  unfold jV
  simp only [mR c _ h,Du hq,if_true,k1,hnil,zb]
  rfl
 unfold Cf
 rw [this]; rfl
theorem Ye {c:ax} (h:na c) (hl : 1≤c.ai.length∧c.ai.length≤3∧c.ae.length≤16) (hroot:∃ q,c.ae[0]? = some q∧q.aI=⟨#[114,111,111,116]⟩) (hq:∀ i (hi:i < c.ae.length),vf c i c.ae[i]) : Y9 c:=by
 have hmem:∀ q∈c.ae,∃ i,vf c i q∧(i=0→q.aI=⟨#[114,111,111,116]⟩):=fun q hm=>by
  obtain ⟨i,hi,rfl⟩:=List.getElem_of_mem hm
  refine ⟨i,hq i hi,fun e=>?_⟩
  subst e
  obtain ⟨q0,e1,e2⟩:=hroot
  rw [zq hi] at e1
  injection e1 with e1
  rw [e1]; exact e2
 have hcap:∀ q∈c.ae,q.bl.length=c.ai.length:=fun q hm=>by
  obtain ⟨i,hp,_⟩:=hmem q hm
  exact hp.caps
 have hsz:SzC c:=h.sz (fun q hm=>by rw [hcap q hm]; omega) hl.2.2
 have hne:c.ae≠[]:=by
  obtain ⟨q0,e1,_⟩:=hroot
  intro e
  rw [e] at e1
  cases e1
 refine ⟨⟨hsz,hcap,fun q hm r hr=>?_,⟨hl.2.2,fun q hm=>?_⟩,hl.1,RM hsz hne,fun x hx=>Nat.le_trans (h.label x hx) (by decide)⟩,hl.1,hl.2.1,RM hsz hne⟩
 ·unfold zi at hr
  dsimp only at hr
  obtain ⟨st,hst,hr⟩:=bq hr
  injection hr with hr
  subst hr
  refine mI (f:=nS) (fun st=>(∀ x∈st.1,isQ c x=true)∧(0 < st.2.size→isQ c st.2=true)) (fun t=>∀ x∈t.1,isQ c x=true) (fun st r ⟨i1,i2⟩ h1=>?_) _ ([],q.aI) st ⟨fun x hx=>(by cases hx),fun _=>Du hm⟩ hst
  unfold nS at h1
  dsimp only at h1
  split at h1
  ·rename_i hne2
   have h0:=qH hne2
   have hq2:=i2 h0
   obtain ⟨b,hb,h1⟩:=bq h1
   obtain ⟨a,ha,h1⟩:=bq h1
   injection h1 with h1
   subst h1
   obtain ⟨g1,g2⟩:=yM hq2
   have ge:=rY g2
   obtain ⟨i,hp,hrt⟩:=hmem _ g1
   rw [ge] at hrt
   have hav:a=eO st.2:=by
    unfold eO
    rw [ha]; rfl
   refine ⟨fun x hx=>?_,fun ha0=>?_⟩
   ·have hb2:=(y6 hb).2
    subst hb2
    simp only [List.mem_append,List.mem_singleton] at hx
    rcases hx with hx | rfl
    ·exact i1 x hx
    ·exact hq2
   ·show isQ c a=true
    rcases Nat.eq_zero_or_pos i with e | e
    ·have:=hrt e
     exfalso
     have:a=⟨#[]⟩:=by rw [hav,this]; exact M9
     rw [show (((b,a) : List ByteArray×ByteArray).2)=a from rfl,this] at ha0
     exact absurd ha0 (by decide)
    ·have:=hp.above e
     rw [ge] at this
     rw [hav]; exact this
  ·injection h1 with h1
   subst h1
   exact i1
 ·obtain ⟨i,hp,_⟩:=hmem q hm
  have:=Fp 6 q.aI (by have:=h.paths q hm; omega)
  have:=hp.dots
  omega
theorem Nh {c:ax} (h:na c) : ∃ r,uP c=some r∧(r=0→Y9 c):=by
 obtain ⟨e,e1,e2⟩:=KH h
 have hqs:=h.queues
 unfold uP
 simp only [e1,zb]
 by_cases he:e=0
 ·subst he
  have hl:=e2 rfl
  have n0:((0:Int) != 0)=false:=by decide
  simp only [n0,zf,if_false]
  by_cases hq0:c.ae.length=0
  ·have:((c.ae.length:Int)==0)=true:=by simp [hq0]
   simp only [this,if_true,zb]
   exact ⟨_,rfl,fun e=>by cases e⟩
  ·have hb:((c.ae.length:Int)==0)=false:=by simp; intro e; exact hq0 (by rw [e]; rfl)
   have hpos : 0 < c.ae.length:=by omega
   have i0:au c.ae 0=some c.ae[0]:=aE (zq hpos)
   simp only [hb,zf,if_false,i0,zb]
   cases hr:(!(c.ae[0].aI.toList==(⟨#[114,111,111,116]⟩ : ByteArray).toList)) with
   | true=>simp only [if_true]; exact ⟨_,rfl,fun e=>by cases e⟩
   | false =>
    have hrt:c.ae[0].aI=⟨#[114,111,111,116]⟩:=rY (by simpa using hr)
    simp only [zf,if_false]
    obtain ⟨w,w1,w2⟩:=aJ (f:=pP c) (fun st=>∃ i:Nat,st=(i:Int)∧i≤c.ae.length∧∀ j (hj:j < c.ae.length),j < i→vf c j c.ae[j]) (fun st=>c.ae.length - st.toNat) (fun r=>match r with | .inl _=>∀ j (hj:j < c.ae.length),vf c j c.ae[j] | .inr m=>m≠0) (fun st ⟨i,h1,h2,h3⟩=>by
     unfold pP
     simp only [h1]
     by_cases hlt:i < c.ae.length
     ·have g1:c.ae[i]? = some c.ae[i]:=zq hlt
      obtain ⟨b,b1,b2⟩:=Nb h i hlt
      simp only [bK g1,if_true,b1,zb,aY hlt (show c.ae.length≤1000000 by omega)]
      split
      ·rename_i hne
       exact .inr ⟨_,rfl,by simpa using hne⟩
      ·rename_i hz
       have hz:b=0:=by simpa using hz
       refine .inl ⟨_,rfl,⟨i + 1,rfl,hlt,fun j hj hji=>?_⟩,by simp only [zt]; omega⟩
       rcases Nat.lt_or_ge j i with h4 | h4
       ·exact h3 j hj h4
       ·have:j=i:=by omega
        subst this
        exact b2 hz
     ·have:i=c.ae.length:=by omega
      subst this
      simp only [bE,zf,if_false]
      exact .inr ⟨_,rfl,fun j hj=>h3 j hj hj⟩) ab 0 ⟨0,rfl,Nat.zero_le _,fun j _ hj=>by omega⟩ (by show c.ae.length - (0:Int).toNat < ab; unfold ab; omega)
    rw [w1]
    simp only [zb]
    cases w with
    | inr m=>exact ⟨_,rfl,fun e=>absurd e w2⟩
    | inl m =>
     dsimp only
     have w2:∀ j (hj:j < c.ae.length),vf c j c.ae[j]:=w2
     have hform:=Ye h hl ⟨_,zq hpos,hrt⟩ w2
     have hcap0:=(w2 0 hpos).caps
     obtain ⟨v,v1,v2⟩:=aJ (f:=pO c) (fun st=>∃ i:Nat,st=(i:Int)) (fun st=>c.ai.length - st.toNat) (fun _=>True) (fun st ⟨i,h1⟩=>by
      unfold pO
      simp only [h1]
      by_cases hlt:i < c.ai.length
      ·have g1:c.ai[i]? = some c.ai[i]:=zq hlt
       have g2:c.ae[0].bl[i]? = some c.ae[0].bl[i]:=zq (by omega)
       simp only [bK g1,if_true,i0,aE g2,zb,aY hlt (show c.ai.length≤1000000 by omega)]
       split
       ·exact .inr ⟨_,rfl,trivial⟩
       ·exact .inl ⟨_,rfl,⟨i + 1,rfl⟩,by simp only [zt]; omega⟩
      ·have hd:decide ((i:Int) < (c.ai.length:Int))=false:=by simp; omega
       simp only [hd,zf,if_false]
       exact .inr ⟨_,rfl,trivial⟩) ab 0 ⟨0,rfl⟩ (by show c.ai.length - (0:Int).toNat < ab; unfold ab; omega)
     rw [v1]
     simp only [zb]
     cases v with
     | inr m=>exact ⟨_,rfl,fun _=>hform⟩
     | inl m =>
      dsimp only
      obtain ⟨s,s1⟩:=PK hform.form.sz hform.form.each
      rw [s1]
      simp only [zb]
      cases s <;> exact ⟨_,rfl,fun _=>hform⟩
 ·have:(e != 0)=true:=by simpa using he
  simp only [this,if_true]
  exact ⟨_,rfl,fun e0=>absurd e0 he⟩
def cY (oL:Int) (v_n:Int) : Option (Int) :=
 (CS oL v_n).bind fun b1=>let v_k:Int:=b1
 (if (decide (v_k < 0))=true then
 let v_k:Int:=(i64.wrap (v_k + v_n))
 some v_k
 else
 some v_k).bind fun j2=>let v_k:=j2
 some v_k
def kj (fw:(List Int)) (v_i:Int) : Option (Int) :=
 if ((fw.length:Int)==0)=true then
 some v_i
 else
 (CS v_i (fw.length:Int)).bind fun b1=>(au fw b1).bind fun b2=>some b2
def d8 (v_c:ax) (st:aB×Int) : Option ((aB×Int)⊕((aB×Int))) :=
 let v_q:=st.1
 let v_k:=st.2
 if (decide (v_k < (v_c.ai.length:Int)))=true then
 (aX v_q.bl [(⟨10000,10000⟩ : ec)]).bind fun b11=>let v_q:aB:={ v_q with bl:=b11 }
 let v_k:Int:=(i64.wrap (v_k + 1))
 some (.inl (v_q,v_k))
 else
 some (.inr (v_q,v_k))
def dp (v_l:(List ByteArray)) (fw:(List Int)) (st:ax×Int) : Option ((ax×Int)⊕((ax×Int))) :=
 let v_c:=st.1
 let v_i:=st.2
 if (decide (v_i < (v_l.length:Int)))=true then
 (au v_l v_i).bind fun b5=>let v_q:aB:=(⟨b5,[],1000000⟩ : aB)
 (if (decide (v_i < (fw.length:Int)))=true then (au fw v_i).bind fun b6=>some ((Int.tmod b6 3)==0) else some false).bind fun q7=>(if q7=true then
 (au fw v_i).bind fun b9=>(cY b9 20000).bind fun c10=>let v_q:aB:={ v_q with cZ:=(i64.wrap (1 + c10)) }
 some v_q
 else
 some v_q).bind fun j8=>let v_q:=j8
 let v_k:Int:=0
 (ah (d8 v_c) ab (v_q,v_k)).bind fun r12 =>
 let v_q:=r12.1
 let v_k:=r12.2
 (aX v_c.ae [v_q]).bind fun b13=>let v_c:ax:={ v_c with ae:=b13 }
 let v_i:Int:=(i64.wrap (v_i + 1))
 some (.inl (v_c,v_i))
 else
 some (.inr (v_c,v_i))
def dZ (kY:Int) (v_n:Int) (cn:Int) (v_j:Int) (bz:(List ByteArray)) (st:ax×Int) : Option ((ax×Int)⊕((ax×Int))) :=
 let v_c:=st.1
 let v_m:=st.2
 if (decide (v_m < (v_c.ae.length:Int)))=true then
 (au v_c.ae v_m).bind fun b28=>(au bz v_j).bind fun b29=>if (b28.aI.toList==b29.toList)=true then
 (au v_c.ae v_m).bind fun b30=>(au b30.bl kY).bind fun b31=>(au v_c.ae v_m).bind fun b32=>let v_c:ax:={ v_c with ae:=(List.set v_c.ae (Int.toNat v_m) ({ b32 with bl:=(List.set b30.bl (Int.toNat kY) (⟨v_n,cn⟩ : ec)) })) }
 let v_m:Int:=(i64.wrap (v_m + 1))
 some (.inl (v_c,v_m))
 else
 let v_m:Int:=(i64.wrap (v_m + 1))
 some (.inl (v_c,v_m))
 else
 some (.inr (v_c,v_m))
def cT (bz:(List ByteArray)) (fw:(List Int)) (aK:Int) (kY:Int) (st:Int×ax×Int) : Option ((Int×ax×Int)⊕((Int×ax×Int))) :=
 let co:=st.1
 let v_c:=st.2.1
 let v_j:=st.2.2
 if (decide (v_j < (bz.length:Int)))=true then
 let v_n:Int:=co
 (if (decide (v_j < (i64.wrap ((bz.length:Int) - 1))))=true then
 (kj fw (i64.wrap ((i64.wrap (aK + v_j)) + kY))).bind fun c18=>(cY c18 (i64.wrap (co + 1))).bind fun c19=>(kj fw (i64.wrap ((i64.wrap (aK * v_j)) + kY))).bind fun c20=>(cY c20 4).bind fun c21=>(au ([0,(i64.wrap (Int.tdiv co 2)),co,c19] : (List Int)) c21).bind fun b22=>let v_n:Int:=b22
 some v_n
 else
 some v_n).bind fun j17=>let v_n:=j17
 let co:Int:=(i64.wrap (co - v_n))
 (kj fw (i64.wrap (v_j + kY))).bind fun c23=>(cY c23 (i64.wrap ((i64.wrap (10000 - v_n)) + 1))).bind fun c24=>(kj fw (i64.wrap (aK + (i64.wrap (2 * v_j))))).bind fun c25=>(cY c25 3).bind fun c26=>(au ([10000,v_n,(i64.wrap (v_n + c24))] : (List Int)) c26).bind fun b27=>let cn:Int:=b27
 let v_m:Int:=0
 (ah (dZ kY v_n cn v_j bz) ab (v_c,v_m)).bind fun r33 =>
 let v_c:=r33.1
 let v_m:=r33.2
 let v_j:Int:=(i64.wrap (v_j + 1))
 some (.inl (co,v_c,v_j))
 else
 some (.inr (co,v_c,v_j))
def dn (fw:(List Int)) (aK:Int) (bz:(List ByteArray)) (st:ax×Int) : Option ((ax×Int)⊕((ax×Int))) :=
 let v_c:=st.1
 let kY:=st.2
 if (decide (kY < (v_c.ai.length:Int)))=true then
 let co:Int:=10000
 let v_j:Int:=0
 (ah (cT bz fw aK kY) ab (co,v_c,v_j)).bind fun r34 =>
 let co:=r34.1
 let v_c:=r34.2.1
 let v_j:=r34.2.2
 let kY:Int:=(i64.wrap (kY + 1))
 some (.inl (v_c,kY))
 else
 some (.inr (v_c,kY))
def cN (v_l:(List ByteArray)) (fw:(List Int)) (st:ax×Int) : Option ((ax×Int)⊕((ax×Int))) :=
 let v_c:=st.1
 let aK:=st.2
 if (decide (aK < (v_l.length:Int)))=true then
 (au v_l aK).bind fun b15=>(eX v_c b15).bind fun c16=>let bz:(List ByteArray):=c16
 let kY:Int:=0
 (ah (dn fw aK bz) ab (v_c,kY)).bind fun r35 =>
 let v_c:=r35.1
 let kY:=r35.2
 let aK:Int:=(i64.wrap (aK + 1))
 some (.inl (v_c,aK))
 else
 some (.inr (v_c,aK))
def fH (Rc:Int) (fw:(List Int)) : Option (ax) :=
 let XB:(List (List ByteArray)):=([([(⟨#[114,111,111,116]⟩ : ByteArray)] : (List ByteArray)),([(⟨#[114,111,111,116]⟩ : ByteArray),(⟨#[114,111,111,116,46,97]⟩ : ByteArray),(⟨#[114,111,111,116,46,98]⟩ : ByteArray)] : (List ByteArray)),([(⟨#[114,111,111,116]⟩ : ByteArray),(⟨#[114,111,111,116,46,97]⟩ : ByteArray),(⟨#[114,111,111,116,46,97,46,120]⟩ : ByteArray),(⟨#[114,111,111,116,46,97,46,121]⟩ : ByteArray),(⟨#[114,111,111,116,46,98]⟩ : ByteArray)] : (List ByteArray)),([(⟨#[114,111,111,116]⟩ : ByteArray),(⟨#[114,111,111,116,46,97]⟩ : ByteArray),(⟨#[114,111,111,116,46,98]⟩ : ByteArray),(⟨#[114,111,111,116,46,98,46,120]⟩ : ByteArray),(⟨#[114,111,111,116,46,98,46,120,46,112]⟩ : ByteArray),(⟨#[114,111,111,116,46,98,46,120,46,113]⟩ : ByteArray),(⟨#[114,111,111,116,46,99]⟩ : ByteArray)] : (List ByteArray)),([(⟨#[114,111,111,116]⟩ : ByteArray),(⟨#[114,111,111,116,46,97]⟩ : ByteArray)] : (List ByteArray))] : (List (List ByteArray)))
 (cY (i64.wrap (Int.tdiv Rc 5)) 2).bind fun c2=>(hiO ([(⟨#[]⟩ : ByteArray),(⟨#[103,112,117]⟩ : ByteArray)] : (List ByteArray)) (i64.wrap (1 + c2))).bind fun b1=>let v_c:ax:=(⟨b1,[]⟩ : ax)
 (cY Rc 5).bind fun c3=>(au XB c3).bind fun b4=>let v_l:(List ByteArray):=b4
 let v_i:Int:=0
 (ah (dp v_l fw) ab (v_c,v_i)).bind fun r14 =>
 let v_c:=r14.1
 let v_i:=r14.2
 let aK:Int:=0
 (ah (cN v_l fw) ab (v_c,aK)).bind fun r36 =>
 let v_c:=r36.1
 let aK:=r36.2
 some v_c
def ij (v_c:ax) (st:aB) (x_:ByteArray) : Option ((aB)⊕((aB×Int))) :=
 let v_q:=st
 (aX v_q.bl [(⟨10000,10000⟩ : ec)]).bind fun b12=>let v_q:aB:={ v_q with bl:=b12 }
 some (.inl v_q)
theorem sC (v_c:ax) (a_:aB) (hl:v_c.ai.length≤1000000) : ah (d8 v_c) ab (a_,(0))=bk (ij v_c) (fun a_=>(a_,((v_c.ai.length:Int)))) a_ v_c.ai :=
 ay v_c.ai (S:=aB×Int) (fun a_ k_=>(a_,(k_))) (ij v_c) (fun a_=>(a_,((v_c.ai.length:Int)))) (an hl) (fun k a x hx=>by
  unfold d8 ij; exact bI)
  (fun a=>by unfold d8; exact cE) a_
def ik (v_l:(List ByteArray)) (fw:(List Int)) (st:ax) (v_i:Int) (x_:ByteArray) : Option ((ax)⊕((ax×Int))) :=
 let v_c:=st
 let v_q:aB:=(⟨x_,[],1000000⟩ : aB)
 (if (decide (v_i < (fw.length:Int)))=true then (au fw v_i).bind fun b14=>some ((Int.tmod b14 3)==0) else some false).bind fun q15=>(if q15=true then
 (au fw v_i).bind fun b17=>(cY b17 20000).bind fun c18=>let v_q:aB:={ v_q with cZ:=(i64.wrap (1 + c18)) }
 some v_q
 else
 some v_q).bind fun j16=>let v_q:=j16
 let v_k:Int:=0
 (ah (d8 v_c) ab (v_q,v_k)).bind fun r19 =>
 let v_q:=r19.1
 let v_k:=r19.2
 (aX v_c.ae [v_q]).bind fun b20=>let v_c:ax:={ v_c with ae:=b20 }
 some (.inl v_c)
theorem B4 (v_l:(List ByteArray)) (fw:(List Int)) (a_:ax) (hl:v_l.length≤1000000) : ah (dp v_l fw) ab (a_,(0))=nB (ik v_l fw) (fun a_=>(a_,((v_l.length:Int)))) a_ 0 v_l :=
 eV v_l (S:=ax×Int) (fun a_ k_=>(a_,(k_))) (ik v_l fw) (fun a_=>(a_,((v_l.length:Int)))) (an hl) (fun k a x hx=>by
  unfold dp ik; exact bI)
  (fun a=>by unfold dp; exact cE) a_
def ic (bz:(List ByteArray)) (fw:(List Int)) (aK:Int) (kY:Int) (st:Int×ax) (v_j:Int) (x_:ByteArray) : Option ((Int×ax)⊕((Int×ax×Int))) :=
 let co:=st.1
 let v_c:=st.2
 let v_n:Int:=co
 (if (decide (v_j < (i64.wrap ((bz.length:Int) - 1))))=true then
 (kj fw (i64.wrap ((i64.wrap (aK + v_j)) + kY))).bind fun c35=>(cY c35 (i64.wrap (co + 1))).bind fun c36=>(kj fw (i64.wrap ((i64.wrap (aK * v_j)) + kY))).bind fun c37=>(cY c37 4).bind fun c38=>(au ([0,(i64.wrap (Int.tdiv co 2)),co,c36] : (List Int)) c38).bind fun b39=>let v_n:Int:=b39
 some v_n
 else
 some v_n).bind fun j34=>let v_n:=j34
 let co:Int:=(i64.wrap (co - v_n))
 (kj fw (i64.wrap (v_j + kY))).bind fun c40=>(cY c40 (i64.wrap ((i64.wrap (10000 - v_n)) + 1))).bind fun c41=>(kj fw (i64.wrap (aK + (i64.wrap (2 * v_j))))).bind fun c42=>(cY c42 3).bind fun c43=>(au ([10000,v_n,(i64.wrap (v_n + c41))] : (List Int)) c43).bind fun b44=>let cn:Int:=b44
 let v_m:Int:=0
 (ah (dZ kY v_n cn v_j bz) ab (v_c,v_m)).bind fun r45 =>
 let v_c:=r45.1
 let v_m:=r45.2
 some (.inl (co,v_c))
theorem BZ (bz:(List ByteArray)) (fw:(List Int)) (aK:Int) (kY:Int) (a_:Int×ax) (hl:bz.length≤1000000) : ah (cT bz fw aK kY) ab (a_.1,a_.2,(0))=nB (ic bz fw aK kY) (fun a_=>(a_.1,a_.2,((bz.length:Int)))) a_ 0 bz :=
 eV bz (S:=Int×ax×Int) (fun a_ k_=>(a_.1,a_.2,(k_))) (ic bz fw aK kY) (fun a_=>(a_.1,a_.2,((bz.length:Int)))) (an hl) (fun k a x hx=>by
  unfold cT ic; exact bI)
  (fun a=>by unfold cT; exact cE) a_
def ig (v_l:(List ByteArray)) (fw:(List Int)) (st:ax) (aK:Int) (x_:ByteArray) : Option ((ax)⊕((ax×Int))) :=
 let v_c:=st
 (eX v_c x_).bind fun c36=>let bz:(List ByteArray):=c36
 let kY:Int:=0
 (ah (dn fw aK bz) ab (v_c,kY)).bind fun r37 =>
 let v_c:=r37.1
 let kY:=r37.2
 some (.inl v_c)
theorem B3 (v_l:(List ByteArray)) (fw:(List Int)) (a_:ax) (hl:v_l.length≤1000000) : ah (cN v_l fw) ab (a_,(0))=nB (ig v_l fw) (fun a_=>(a_,((v_l.length:Int)))) a_ 0 v_l :=
 eV v_l (S:=ax×Int) (fun a_ k_=>(a_,(k_))) (ig v_l fw) (fun a_=>(a_,((v_l.length:Int)))) (an hl) (fun k a x hx=>by
  unfold cN ig; exact bI)
  (fun a=>by unfold cN; exact cE) a_
theorem gR (a:Int) {n:Int} (h0 : 0 < n) (h1:n≤1000000000) : Ok (cY a n) (fun k=>0≤k∧k < n):=by
 unfold cY CS
 rw [if_neg (by omega)]
 have h:=Di (a:=a) h0
 simp only [zb]
 refine Ok.bind (P:=fun k=>0≤k∧k < n) (Ok.ite (fun hc=>?_) fun hc=>?_) fun r hr=>Ok.pure hr
 ·have:=zd hc
  refine Ok.pure ?_
  rw [IntKind.wrap_i64]; omega
 ·have:=of_decide_eq_false (by simpa using hc:decide (a.tmod n < 0)=false)
  exact Ok.pure (by omega)
theorem tD (ns:List Int) {i:Int} (h : 0≤i) : Ok (kj ns i) (fun _=>True):=by
 unfold kj
 refine Ok.ite (fun _=>Ok.pure trivial) fun hc=>?_
 have hn:(ns.length:Int)≠0:=fun e=>hc (by rw [e]; rfl)
 unfold CS
 rw [if_neg hn]
 simp only [zb]
 refine Ok.bind (jm (Int.tmod_nonneg _ h) (Di (by omega)).2) fun r _=>Ok.pure trivial
structure QG (L:Nat) (q:aB) : Prop where
 path:q.aI.size≤100
 caps:q.bl.length=L
 user:inI q.cZ
 nums:∀ x∈q.bl,inI x.kw∧inI x.rU
structure CG (L:Nat) (c:ax) : Prop where
 labels:c.ai.length=L
 label:∀ x∈c.ai,x.size≤100
 queues:∀ q∈c.ae,QG L q
theorem CG.text {L:Nat} {c:ax} (h:CG L c) (hL:L≤10) (hn:c.ae.length≤10) : W3 c :=
 ⟨by have:=h.labels; omega,fun x hx=>Nat.le_trans (h.label x hx) (by omega),by omega,fun q hq=>Nat.le_trans (h.queues q hq).path (by omega),fun q hq=>by have:=(h.queues q hq).caps; omega,fun q hq=>(h.queues q hq).user,fun q hq=>(h.queues q hq).nums⟩
theorem CG.sz {L:Nat} {c:ax} (h:CG L c) (hL:L≤10) (hn:c.ae.length≤10) : SzC c :=
 ⟨by have:=h.labels; omega,by omega,fun q hq=>by have:=(h.queues q hq).caps; omega,fun q hq=>Nat.le_trans (h.queues q hq).path (by omega)⟩
theorem pe {n:Int} (h : -1000000000≤n∧n≤1000000000) : inI n:=by unfold inI; omega
theorem RG {α : Type} {l:List α} {i:Nat} {a x : α} (h:x∈l.set i a) : x∈l∨x=a:=List.mem_or_eq_of_mem_set h
theorem Xj {L:Nat} {k:Nat} (hk:k < L) {n most:Int} (hn:inI n) (hm:inI most) {kids:List ByteArray} {j:Nat} (hj:j < kids.length) {N:Nat} (hN:N≤10) {c:ax} (hc:CG L c) (hcn:c.ae.length=N) : Ok (ah (dZ (k:Int) n most (j:Int) kids) ab (c,0)) (fun r=>CG L r.1∧r.1.ae.length=N):=by
 refine aJ (fun st=>∃ m:Nat,st.2=(m:Int)∧m≤N∧CG L st.1∧st.1.ae.length=N) (fun st=>N - st.2.toNat) _ (fun st ⟨m,h1,h2,h3,h4⟩=>?_) ab (c,0) ⟨0,rfl,Nat.zero_le _,hc,hcn⟩ (by show N - (0:Int).toNat < ab; unfold ab; omega)
 unfold dZ
 simp only [h1]
 split
 ·rename_i hlt
  have hlt:m < st.1.ae.length:=by have:=zd hlt; omega
  have e1:=zq hlt
  have e2:=zq hj
  have hq:=h3.queues _ (List.getElem_mem hlt)
  have hkk:k < st.1.ae[m].bl.length:=by rw [hq.caps]; exact hk
  have e3:=zq hkk
  simp only [aE e1,aE e2,aE e3,zb,aY (show m < 10 by omega) (show 10≤1000000 by omega),zt]
  left
  split
  ·refine ⟨_,rfl,⟨m + 1,rfl,by omega,⟨h3.labels,h3.label,fun q hq'=>?_⟩,by simpa using h4⟩,by simp only [zt]; omega⟩
   rcases RG hq' with h | h
   ·exact h3.queues q h
   ·subst h
    refine ⟨hq.path,by simpa using hq.caps,hq.user,fun x hx=>?_⟩
    rcases RG hx with h | h
    ·exact hq.nums x h
    ·subst h; exact ⟨hn,hm⟩
  ·exact ⟨_,rfl,⟨m + 1,rfl,by omega,h3,h4⟩,by simp only [zt]; omega⟩
 ·exact .inr ⟨_,rfl,h3,h4⟩
theorem w64 {n:Int} (h : -1000000000000≤n∧n≤1000000000000) : i64.wrap n=n:=by rw [IntKind.wrap_i64]; omega
theorem Xl {L:Nat} {k:Nat} (hk:k < L) (hL:L≤10) {kids:List ByteArray} (hkd:kids.length≤10) (ns:List Int) {i:Nat} (hi:i≤10) {N:Nat} (hN:N≤10) {c:ax} (hc:CG L c) (hcn:c.ae.length=N) : Ok (ah (cT kids ns (i:Int) (k:Int)) ab (10000,c,0)) (fun r=>CG L r.2.1∧r.2.1.ae.length=N):=by
 have:=BZ kids ns (i:Int) (k:Int) (10000,c) (by omega)
 dsimp only at this
 rw [this]
 refine Ok.weak (ub (g:=ic kids ns (i:Int) (k:Int)) (fin:=fun a_=>(a_.1,a_.2,((kids.length:Int)))) (fun _ st=>(0≤st.1∧st.1≤10000)∧CG L st.2∧st.2.ae.length=N) kids (10000,c) (fun j st x hx ⟨⟨l0,l1⟩,h2,h3⟩=>?_) ⟨⟨by omega,by omega⟩,hc,hcn⟩) (fun r ⟨a,e,h⟩=>by subst e; exact h.2)
 have hj:=(zg.1 hx).1
 obtain ⟨left,c⟩:=st
 dsimp only at l0 l1 h2 h3
 unfold ic
 dsimp only
 have hij:(i:Int) * (j:Int)≤100:=by
  have:i * j≤10 * 10:=Nat.mul_le_mul hi (by omega)
  exact_mod_cast this
 have hij0 : 0≤(i:Int) * (j:Int):=Int.mul_nonneg (by omega) (by omega)
 refine Ok.bind (P:=fun n=>0≤n∧n≤left) (Ok.ite (fun _=>?_) fun _=>Ok.pure ⟨l0,Int.le_refl _⟩) fun n hn=>?_
 ·have h2d:left.tdiv 2=left / 2:=Int.tdiv_eq_ediv_of_nonneg l0
  rw [h2d,w64 (n:=(i:Int) + j) (by omega),w64 (n:=(i:Int) + j + k) (by omega),w64 (n:=left + 1) (by omega),w64 (n:=(i:Int) * j) (by omega),w64 (n:=(i:Int) * j + k) (by omega),w64 (n:=left / 2) (by omega)]
  refine Ok.bind (tD ns (by omega)) fun p _=>Ok.bind (gR p (by omega) (by omega)) fun v hv=>Ok.bind (tD ns (by omega)) fun p2 _=>Ok.bind (gR p2 (by omega) (by omega)) fun u hu=>Ok.bind (jm hu.1 hu.2) fun b hb=>Ok.pure ?_
  simp only [List.mem_cons,List.not_mem_nil,or_false] at hb
  omega
 ·rw [w64 (n:=left - n) (by omega),w64 (n:=(j:Int) + k) (by omega),w64 (n:=10000 - n) (by omega),w64 (n:=10000 - n + 1) (by omega),w64 (n:=2 * (j:Int)) (by omega),w64 (n:=(i:Int) + 2 * j) (by omega)]
  refine Ok.bind (tD ns (by omega)) fun p _=>Ok.bind (gR p (by omega) (by omega)) fun v hv=>Ok.bind (tD ns (by omega)) fun p2 _=>Ok.bind (gR p2 (by omega) (by omega)) fun u hu=>Ok.bind (jm hu.1 hu.2) fun b hb=>?_
  rw [w64 (n:=n + v) (by omega)] at hb
  simp only [List.mem_cons,List.not_mem_nil,or_false] at hb
  refine Ok.bind (Xj hk (pe (n:=n) (by omega)) (pe (n:=b) (by omega)) hj hN h2 h3) fun r hr=>Ok.pure ⟨_,rfl,⟨by show 0≤left - n; omega,by show left - n≤10000; omega⟩,hr.1,hr.2⟩
theorem Xm {L:Nat} (hL:L≤10) {kids:List ByteArray} (hkd:kids.length≤10) (ns:List Int) {i:Nat} (hi:i≤10) {N:Nat} (hN:N≤10) {c:ax} (hc:CG L c) (hcn:c.ae.length=N) : Ok (ah (dn ns (i:Int) kids) ab (c,0)) (fun r=>CG L r.1∧r.1.ae.length=N):=by
 refine aJ (fun st=>∃ m:Nat,st.2=(m:Int)∧m≤L∧CG L st.1∧st.1.ae.length=N) (fun st=>L - st.2.toNat) _ (fun st ⟨m,h1,h2,h3,h4⟩=>?_) ab (c,0) ⟨0,rfl,Nat.zero_le _,hc,hcn⟩ (by show L - (0:Int).toNat < ab; unfold ab; omega)
 unfold dn
 simp only [h1]
 split
 ·rename_i hlt
  have hlt:m < L:=by have:=zd hlt; have:=h3.labels; omega
  obtain ⟨r,r1,r2,r3⟩:=Xl hlt hL hkd ns hi hN h3 h4
  simp only [r1,zb,aY (show m < 10 by omega) (show 10≤1000000 by omega)]
  exact .inl ⟨_,rfl,⟨m + 1,rfl,by omega,r2,r3⟩,by simp only [zt]; omega⟩
 ·exact .inr ⟨_,rfl,h3,h4⟩
theorem Xo {L:Nat} {c:ax} (hl:c.ai.length=L) (hL:L≤10) {q:aB} (hp:q.aI.size≤100) (hu:inI q.cZ) (hc:q.bl = []) : Ok (ah (d8 c) ab (q,0)) (fun r=>QG L r.1):=by
 rw [sC c q (by omega)]
 refine Ok.weak (D1 (g:=ij c) (fin:=fun a_=>(a_,((c.ai.length:Int)))) (fun k b=>QG k b) c.ai q (fun j b x hx hb=>?_) ⟨hp,by rw [hc]; rfl,hu,by rw [hc]; intro x hx; cases hx⟩) (fun r ⟨a,e,h⟩=>by subst e; rw [hl] at h; exact h)
 have hj:=(zg.1 hx).1
 have:=hb.caps
 unfold ij
 dsimp only
 rw [aF (by simp; omega)]
 refine Ok.pure ⟨_,rfl,hb.path,by simpa using this,hb.user,fun y hy=>?_⟩
 simp only [List.mem_append,List.mem_singleton] at hy
 rcases hy with h | h
 ·exact hb.nums y h
 ·subst h; exact ⟨pe (by decide),pe (by decide)⟩
theorem Xq {L:Nat} (hL:L≤10) {l:List ByteArray} (hl:l.length≤10) (hs:∀ x∈l,x.size≤100) (ns:List Int) {c:ax} (hc:CG L c) (hq:c.ae = []) : Ok (ah (dp l ns) ab (c,0)) (fun r=>CG L r.1∧r.1.ae.length=l.length):=by
 rw [B4 l ns c (by omega)]
 refine Ok.weak (ub (g:=ik l ns) (fin:=fun a_=>(a_,((l.length:Int)))) (fun k b=>CG L b∧b.ae.length=k) l c (fun j b x hx ⟨hb,hn⟩=>?_) ⟨hc,by rw [hq]; rfl⟩) (fun r ⟨a,e,h⟩=>by subst e; exact h)
 have hj:=(zg.1 hx).1
 unfold ik
 dsimp only
 refine Ok.bind (P:=fun t=>t=true→j < ns.length) (Ok.ite (fun hd=>?_) fun _=>Ok.pure (fun e=>by cases e)) fun t ht=>?_
 ·have hd:=zd hd
  exact Ok.bind (jm (by omega) hd) fun b _=>Ok.pure (fun _=>by omega)
 refine Ok.bind (P:=fun q:aB=>q.aI=x∧q.bl = []∧inI q.cZ) (Ok.ite (fun hd=>?_) fun _=>Ok.pure ⟨rfl,rfl,(by show inI 1000000; exact pe (by decide))⟩) fun q ⟨q1,q2,q3⟩=>?_
 ·have:=ht hd
  refine Ok.bind (jm (by omega) (by omega)) fun b _=>Ok.bind (gR b (by omega) (by omega)) fun v hv=>Ok.pure ⟨rfl,rfl,?_⟩
  show inI (i64.wrap (1 + v))
  rw [w64 (by omega)]
  exact pe (by omega)
 ·refine Ok.bind (Xo hb.labels hL (by rw [q1]; exact hs x (List.mem_of_getElem? hx)) q3 q2) fun r hr=>?_
  rw [aF (by simp; omega)]
  refine Ok.pure ⟨_,rfl,⟨hb.labels,hb.label,fun y hy=>?_⟩,by simp; omega⟩
  simp only [List.mem_append,List.mem_singleton] at hy
  rcases hy with h | h
  ·exact hb.queues y h
  ·subst h; exact hr
theorem Xn {L:Nat} (hL:L≤10) {l:List ByteArray} (hl:l.length≤10) (ns:List Int) {N:Nat} (hN:N≤10) {c:ax} (hc:CG L c) (hq:c.ae.length=N) : Ok (ah (cN l ns) ab (c,0)) (fun r=>CG L r.1∧r.1.ae.length=N):=by
 rw [B3 l ns c (by omega)]
 refine Ok.weak (ub (g:=ig l ns) (fin:=fun a_=>(a_,((l.length:Int)))) (fun k b=>CG L b∧b.ae.length=N) l c (fun j b x hx ⟨hb,hn⟩=>?_) ⟨hc,hq⟩) (fun r ⟨a,e,h⟩=>by subst e; exact h)
 have hj:=(zg.1 hx).1
 unfold ig
 dsimp only
 obtain ⟨kd,k1,k2,_⟩:=uO b x (hb.sz hL (by omega))
 refine Ok.bind (P:=fun kd=>kd.length≤10) ⟨kd,k1,by omega⟩ fun kd hkd=>Ok.bind (Xm hL hkd ns (by omega) hN hb hn) fun r hr=>Ok.pure ⟨_,rfl,hr.1,hr.2⟩
theorem GS (shape:Int) (ns:List Int) : Ok (fH shape ns) W3:=by
 unfold fH
 dsimp only
 refine Ok.bind (gR _ (by omega) (by omega)) fun w hw=>?_
 rw [w64 (n:=1 + w) (by omega)]
 obtain ⟨W,rfl⟩ : ∃ W:Nat,w=(W:Int):=⟨w.toNat,by omega⟩
 rw [show (1 + (W:Int))=((1 + W:Nat) : Int) by omega,oa (by simp; omega)]
 simp only [zb]
 refine Ok.bind (gR _ (by omega) (by omega)) fun t ht=>Ok.bind (jm ht.1 ht.2) fun l hl=>?_
 have key:l.length≤7∧∀ x∈l,x.size≤100:=by
  simp only [List.mem_cons,List.not_mem_nil,or_false] at hl
  rcases hl with h | h | h | h | h <;> subst h <;> decide
 have hL:(List.take (1 + W) [(⟨#[]⟩ : ByteArray),⟨#[103,112,117]⟩]).length≤10:=Nat.le_trans (List.length_take_le' _ _) (by decide)
 refine Ok.bind (Xq hL (by omega) key.2 ns ⟨rfl,fun x hx=>?_,fun q hq=>by cases hq⟩ rfl) fun r hr=>Ok.bind (Xn hL (by omega) ns (by omega) hr.1 hr.2) fun q hq=>Ok.pure (hq.1.text hL (by have:=hq.2; omega))
 have:=List.mem_of_mem_take hx
 simp only [List.mem_cons,List.not_mem_nil,or_false] at this
 rcases this with h | h <;> subst h <;> decide
section
def bT (l:Tx) : ByteArray:=⟨l.toArray⟩
def gP (c:Int×Int) : ec:=⟨c.1,c.2⟩
def gQ (d:QD) : aB:=⟨bT d.path,d.caps.map gP,d.user⟩
def gC (nl:Nat) (ds:List QD) : ax:=⟨(CV nl).map bT,ds.map gQ⟩
theorem WR {a b:Tx} : ((bT a).toList==(bT b).toList)=decide (a=b):=by
 by_cases h:a=b
 ·subst h; simp
 ·have:bT a≠bT b:=fun e=>h (by
   have:=congrArg (fun x:ByteArray=>x.data.toList) e
   simpa [bT] using this)
  rw [decide_eq_false h]
  cases hb:((bT a).toList==(bT b).toList) with
  | false=>rfl
  | true=>exact absurd (rY hb) this
theorem gS (a:Int) {n:Int} (h0 : 0 < n) (h1:n≤1125899906842625) : cY a n=some (a % n):=by
 have l1:a.tmod n < n:=Int.tmod_lt_of_pos a h0
 have l2 : -n < a.tmod n:=by have:=Int.lt_tmod_of_pos a h0; omega
 unfold cY CS
 rw [if_neg (by omega)]
 simp only [zb]
 by_cases hneg:a.tmod n < 0
 ·rw [MF h0 hneg]
  simp only [hneg,decide_true,if_true,zb]
  rw [IntKind.wrap_i64]
  congr 1
  omega
 ·rw [ME h0 hneg]
  simp only [hneg,decide_false,zf,if_false,zb]
def gU (xs:List Int) (i:Int) : Int:=if xs.length=0 then i else xs.getD (i % (xs.length:Int)).toNat 0
theorem tE (xs:List Int) {i:Int} (h : 0≤i) : kj xs i=some (gU xs i):=by
 unfold kj gU
 by_cases hz:xs.length=0
 ·rw [if_pos (by rw [hz]; rfl),if_pos hz]
 ·have hn:(xs.length:Int)≠0:=by omega
  rw [if_neg (by simpa using hz),if_neg hz]
  unfold CS
  rw [if_neg hn]
  simp only [zb]
  have e:i.tmod (xs.length:Int)=i % (xs.length:Int):=Int.tmod_eq_emod_of_nonneg h
  rw [e]
  have h0:=Int.emod_nonneg i hn
  have h1:=Int.emod_lt_of_pos i (show (0:Int) < xs.length by omega)
  obtain ⟨m,hm⟩ : ∃ m:Nat,i % (xs.length:Int)=(m:Int):=⟨(i % (xs.length:Int)).toNat,by omega⟩
  rw [hm] at h1 ⊢
  have hmx:m < xs.length:=by omega
  rw [aE (zq hmx)]
  simp [List.getD,zq hmx]
def EJ (xs:List Int) (k:Nat) : Bool:=decide (k < xs.length)&&((xs.getD k 0).tmod 3==0)
def Ic (xs:List Int) (k:Nat) : Int:=if EJ xs k=true then 1 + xs.getD k 0 % 20000 else 1000000
theorem Xp {nl:Nat} (hnl:nl≤2) (c:ax) (hc:c.ai.length=nl) (p:ByteArray) (u:Int) : ah (d8 c) ab (⟨p,[],u⟩,0)=some (⟨p,(List.replicate nl ru).map gP,u⟩,(nl:Int)):=by
 rw [sC c _ (by omega)]
 obtain ⟨ls,qs⟩:=c
 dsimp only at hc ⊢
 subst hc
 rcases ls with _ | ⟨a,_ | ⟨b,_ | ⟨d,ls⟩⟩⟩
 ·rfl
 ·rfl
 ·rfl
 ·simp only [List.length_cons] at hnl; omega
theorem Q6 {nl:Nat} (hnl:nl≤2) (ps:List Tx) (xs:List Int) (ds:List QD) {k:Nat} (hk:k < ps.length) (hps:ps.length≤7) (hds:ds.length≤7) : dp (ps.map bT) xs (gC nl ds,(k:Int))=some (.inl (gC nl (ds ++ [⟨ps[k],List.replicate nl ru,Ic xs k⟩]),((k + 1:Nat) : Int))):=by
 have e1:(ps.map bT)[k]? = some (bT ps[k]):=by simp [hk]
 have d1:decide ((k:Int) < ((ps.map bT).length:Int))=true:=by simp; omega
 have hl:(gC nl ds).ai.length=nl:=by show ((CV nl).map bT).length=nl; rw [List.length_map,qJ hnl]
 unfold dp
 dsimp only
 rw [if_pos d1,aE e1]
 simp only [zb]
 have fin:∀ u:Int,(Option.bind (ah (d8 (gC nl ds)) ab ((⟨bT ps[k],[],u⟩ : aB),(0:Int))) fun r12=>Option.bind (aX (gC nl ds).ae [r12.1]) fun b13=>some (Sum.inl ((⟨(gC nl ds).ai,b13⟩ : ax),i64.wrap ((k:Int) + 1)) : (ax×Int)⊕(ax×Int)))=some (.inl (gC nl (ds ++ [⟨ps[k],List.replicate nl ru,u⟩]),((k + 1:Nat) : Int))):=by
  intro u
  rw [Xp hnl _ hl]
  simp only [zb]
  rw [aF (by show (ds.map gQ).length + 1≤_; rw [List.length_map]; omega)]
  simp only [zb,aY (show k < 7 by omega) (show 7≤1000000 by omega)]
  unfold gC
  simp only [List.map_append,List.map_cons,List.map_nil,gQ]
 unfold Ic EJ
 by_cases hN:k < xs.length
 ·have e2:xs[k]? = some xs[k]:=zq hN
  have e3:xs.getD k 0=xs[k]:=by simp [List.getD,e2]
  have d2:decide ((k:Int) < (xs.length:Int))=true:=by simp; omega
  simp only [d2,if_true,aE e2,zb,hN,decide_true,Bool.true_and,e3]
  by_cases ht:(xs[k].tmod 3==0)=true
  ·have h0:=Int.emod_nonneg xs[k] (show (20000:Int)≠0 by decide)
   have h1:=Int.emod_lt_of_pos xs[k] (show (0:Int) < 20000 by decide)
   simp only [ht,if_true,gS xs[k] (show (0:Int) < 20000 by decide) (by decide),zb,w64 (n:=1 + xs[k] % 20000) (by omega)]
   exact fin _
  ·simp only [ht,if_false,zb,zf]
   exact fin _
 ·have d2:decide ((k:Int) < (xs.length:Int))=false:=by simp; omega
  simp only [d2,zf,if_false,zb,hN,decide_false,Bool.false_and]
  exact fin _
theorem Et {α β : Type} (f : α→β) (g : α→α) (b : β) : ∀ (l:List α) (m:Nat) (h:m < l.length),b=f (g l[m])→(l.modify m g).map f=(l.map f).set m b
 | x::l,0,h,e=>by subst e; rfl
 | x::l,m + 1,h,e=>by
  simp only [List.modify_succ_cons,List.map_cons,List.set_cons_succ]
  rw [Et f g b l m (by simpa using h) e]
theorem Xk {nl:Nat} {ks:List Tx} {ds:List QD} {k j:Nat} (hj:j < ks.length) (n mo:Int) (hN:ds.length≤7) (hc:∀ q∈ds,q.caps.length=nl) (hk:k < nl) : ah (dZ (k:Int) n mo (j:Int) (ks.map bT)) ab (gC nl ds,0)=some (gC nl (iy ks[j] k n mo ds),(ds.length:Int)):=by
 have hp:∃ r,ah (dZ (k:Int) n mo (j:Int) (ks.map bT)) ab (gC nl ds,0)=some r∧r=(gC nl (iy ks[j] k n mo ds),(ds.length:Int)):=by
  refine aJ (f:=dZ (k:Int) n mo (j:Int) (ks.map bT)) (fun st=>∃ m:Nat,m≤ds.length∧st=(gC nl (eL ks[j] k n mo ds m),(m:Int))) (fun st=>ds.length - st.2.toNat) (fun r=>r=(gC nl (iy ks[j] k n mo ds),(ds.length:Int))) (fun st ⟨m,hm,hst⟩=>?_) ab (gC nl ds,0) ⟨0,Nat.zero_le _,by rw [D0]; rfl⟩ (by show ds.length - (0:Int).toNat < ab; unfold ab; omega)
  subst hst
  unfold dZ
  dsimp only
  have hlen:(gC nl (eL ks[j] k n mo ds m)).ae.length=ds.length:=by show ((eL _ _ _ _ ds m).map gQ).length = _; rw [List.length_map,gF]
  rw [hlen]
  rcases Nat.lt_or_ge m ds.length with hlt | hge
  ·left
   have d1:decide ((m:Int) < (ds.length:Int))=true:=by simpa using hlt
   have hml:m < (eL ks[j] k n mo ds m).length:=by rw [gF]; exact hlt
   have e1:(gC nl (eL ks[j] k n mo ds m)).ae[m]? = some (gQ ds[m]):=by
    show ((eL _ _ _ _ ds m).map gQ)[m]? = _
    rw [List.getElem?_map,zq hml,AM _ _ _ _ _ _ hlt]
    rfl
   have e2:(ks.map bT)[j]? = some (bT ks[j]):=by simp [hj]
   have e3:(gQ ds[m]).bl[k]? = some (gP (ds[m].caps[k]'(by rw [hc _ (List.getElem_mem hlt)]; exact hk))):=by
    show (ds[m].caps.map gP)[k]? = _
    rw [List.getElem?_map,zq (by rw [hc _ (List.getElem_mem hlt)]; exact hk)]
    rfl
   rw [if_pos d1,aE e1,aE e2]
   simp only [zb,aE e3,aY (show m < 7 by omega) (show 7≤1000000 by omega),zt]
   rw [show (gQ ds[m]).aI=bT ds[m].path from rfl,WR]
   by_cases he:ds[m].path=ks[j]
   ·rw [if_pos (by simpa using he)]
    refine ⟨_,rfl,⟨m + 1,hlt,?_⟩,by simp only [zt]; omega⟩
    rw [HB hlt he]
    congr 1
    unfold gC
    congr 1
    dsimp only
    refine (Et gQ _ _ _ m hml ?_).symm
    rw [AM _ _ _ _ _ _ hlt]
    unfold gQ
    simp [List.map_set,gP]
   ·rw [if_neg (by simpa using he)]
    exact ⟨_,rfl,⟨m + 1,hlt,by rw [LC hlt he]⟩,by simp only [zt]; omega⟩
  ·right
   have hm2:m=ds.length:=by omega
   subst hm2
   have d1:decide ((ds.length:Int) < (ds.length:Int))=false:=by simp
   rw [if_neg (by rw [d1]; decide)]
   exact ⟨_,rfl,by rw [HF]⟩
 obtain ⟨r,h1,h2⟩:=hp
 rw [h1,h2]
theorem B9 {σ α τ : Type} {g g' : σ→α→Option (σ⊕τ)} (fin : σ→τ) : ∀ (l:List α) (a : σ),(∀ x∈l,∀ a,g a x=g' a x)→bk g fin a l=bk g' fin a l
 | [],a,_=>rfl
 | x::l,a,h=>by
  simp only [bk]
  rw [h x (List.mem_cons_self ..)]
  cases g' a x with
  | none=>rfl
  | some o=>cases o with
   | inl a'=>exact B9 fin l a' (fun y hy=>h y (List.mem_cons_of_mem _ hy))
   | inr r=>rfl
theorem Pv (y:Nat) : ∀ x∈my y,eO (bT x)=bT (above x):=by
 unfold my
 split
 all_goals
  intro x hx
  simp only [List.mem_cons,List.not_mem_nil,or_false] at hx
  repeat (first | (subst hx; kernel_rfl) | (rcases hx with h | hx; (subst h; kernel_rfl)))
theorem YN (nl:Nat) {ds:List QD} {ps:List Tx} {y:Nat} (hy:ps=my y) (hd:ds.map (·.path)=ps) {p:Tx} (hp:p∈ps) : eX (gC nl ds) (bT p)=some ((Ch p ps).map bT):=by
 have hlen:ds.length≤7:=by
  have h1:=congrArg List.length hd
  have h2:=Lu y
  rw [hy,List.length_map] at h1
  omega
 have hsz:∀ q∈(gC nl ds).ae,q.aI.size≤1000000:=fun q hq=>by
  obtain ⟨d,hd2,rfl⟩:=List.mem_map.1 hq
  have h1:d.path∈ps:=by rw [← hd]; exact List.mem_map_of_mem hd2
  rw [hy] at h1
  have h2:=Ls y _ h1
  show (bT d.path).size≤_
  have:(bT d.path).size=d.path.length:=by simp [bT,ByteArray.size]
  omega
 unfold eX
 dsimp only
 rw [jq (gC nl ds) (bT p) [] (by show (ds.map gQ).length≤_; rw [List.length_map]; omega)]
 rw [B9 (g':=fun acc x=>if (!((bT p).toList==(⟨#[]⟩ : ByteArray).toList)&&((eO x.aI).toList==(bT p).toList))=true then (aX acc [x.aI]).map (fun a=>(.inl a:List ByteArray⊕(List ByteArray×Int))) else some (.inl acc)) _ _ _ (fun x hx acc=>by
  unfold cA
  simp only [(sf (hsz x hx)).1,zb,dN]
  split
  ·cases aX acc [x.aI] <;> rfl
  ·rfl)]
 rw [cr (fun x:aB=>!((bT p).toList==(⟨#[]⟩ : ByteArray).toList)&&((eO x.aI).toList==(bT p).toList)) aB.aI _ _ [] (by show 0 + (ds.map gQ).length≤_; rw [List.length_map]; omega)]
 simp only [zb,List.nil_append]
 congr 1
 have e1:((gC nl ds).ae.filter fun x:aB=>!((bT p).toList==(⟨#[]⟩ : ByteArray).toList)&&((eO x.aI).toList==(bT p).toList)).map aB.aI=(ps.filter fun x=>!((bT p).toList==(bT []).toList)&&((eO (bT x)).toList==(bT p).toList)).map bT:=by
  rw [← hd]
  show ((ds.map gQ).filter _).map _ = _
  rw [List.filter_map,List.filter_map,List.map_map,List.map_map]
  rfl
 rw [e1]
 congr 1
 unfold Ch
 refine List.filter_congr fun x hx=>?_
 rw [hy] at hx
 rw [Pv y x hx,WR,WR]
 simp
theorem oH {α β : Type} {o:Option α} {f : α→Option β} {r : α} {x:Option β} (h1:o=some r) (h2:f r=x) : Option.bind o f=x:=by subst h1; exact h2
def nV (xs:List Int) (i jj kk nk:Nat) (L:Int) : Int:=if jj + 1 < nk then [0,L / 2,L,gU xs ((i:Int) + jj + kk) % (L + 1)].getD (gU xs ((i:Int) * jj + kk) % 4).toNat 0 else L
def mV (xs:List Int) (i jj kk:Nat) (n:Int) : Int:=[10000,n,n + gU xs ((jj:Int) + kk) % (10000 - n + 1)].getD (gU xs ((i:Int) + 2 * jj) % 3).toNat 0
theorem Ib (l:List Int) (a:Int) (hl : 0 < l.length) : au l (a % (l.length:Int))=some (l.getD (a % (l.length:Int)).toNat 0):=by
 have h0:=Int.emod_nonneg a (show (l.length:Int)≠0 by omega)
 have h1:=Int.emod_lt_of_pos a (show (0:Int) < l.length by omega)
 obtain ⟨m,hm⟩ : ∃ m:Nat,a % (l.length:Int)=(m:Int):=⟨(a % (l.length:Int)).toNat,by omega⟩
 rw [hm] at h1 ⊢
 have hmx:m < l.length:=by omega
 rw [aE (zq hmx)]
 simp [List.getD,zq hmx]
theorem ZZ (xs:List Int) (i jj kk nk:Nat) {L:Int} (h0 : 0≤L) : 0≤nV xs i jj kk nk L∧nV xs i jj kk nk L≤L:=by
 unfold nV
 split
 ·have a0:=Int.emod_nonneg (gU xs ((i:Int) * jj + kk)) (show (4:Int)≠0 by decide)
  have a1:=Int.emod_lt_of_pos (gU xs ((i:Int) * jj + kk)) (show (0:Int) < 4 by decide)
  have b0:=Int.emod_nonneg (gU xs ((i:Int) + jj + kk)) (show (L + 1)≠0 by omega)
  have b1:=Int.emod_lt_of_pos (gU xs ((i:Int) + jj + kk)) (show (0:Int) < L + 1 by omega)
  generalize gU xs ((i:Int) + jj + kk) % (L + 1)=b at b0 b1
  obtain ⟨m,hm⟩ : ∃ m:Nat,(gU xs ((i:Int) * jj + kk) % 4)=(m:Int):=⟨(gU xs ((i:Int) * jj + kk) % 4).toNat,by omega⟩
  rw [hm] at a1 ⊢
  rcases m with _ | _ | _ | _ | m
  ·exact ⟨Int.le_refl _,h0⟩
  ·show 0≤L / 2∧L / 2≤L; omega
  ·exact ⟨h0,Int.le_refl _⟩
  ·show 0≤b∧b≤L; omega
  ·omega
 ·exact ⟨h0,Int.le_refl _⟩
theorem Q5 {nl:Nat} {ks:List Tx} {ds:List QD} {xs:List Int} {i jj kk:Nat} {L:Int} (hj:jj < ks.length) (hks:ks.length≤7) (hi:i≤7) (hnl:nl≤2) (hkk:kk < nl) (h0 : 0≤L) (h1:L≤10000) (hN:ds.length≤7) (hc:∀ q∈ds,q.caps.length=nl) :
  cT (ks.map bT) xs (i:Int) (kk:Int) (L,gC nl ds,(jj:Int))=some (.inl (L - nV xs i jj kk ks.length L,gC nl (iy ks[jj] kk (nV xs i jj kk ks.length L) (mV xs i jj kk (nV xs i jj kk ks.length L)) ds),((jj + 1:Nat) : Int))):=by
 have hij:(i:Int) * (jj:Int)≤100:=by
  have:i * jj≤7 * 7:=Nat.mul_le_mul hi (by omega)
  have h2:((i * jj:Nat) : Int)≤49:=by omega
  rw [Int.natCast_mul] at h2
  omega
 have hij0 : 0≤(i:Int) * (jj:Int):=Int.mul_nonneg (by omega) (by omega)
 have hn:=ZZ xs i jj kk ks.length h0
 have d1:decide ((jj:Int) < ((ks.map bT).length:Int))=true:=by simp; omega
 unfold cT
 dsimp only
 rw [if_pos d1]
 refine oH (r:=nV xs i jj kk ks.length L) ?_ ?_
 ·unfold nV
  by_cases hl:jj + 1 < ks.length
  ·have d2:decide ((jj:Int) < i64.wrap (((ks.map bT).length:Int) - 1))=true:=by
    rw [List.length_map,w64 (by omega)]
    simp; omega
   have h2d:L.tdiv 2=L / 2:=Int.tdiv_eq_ediv_of_nonneg h0
   rw [if_pos d2,if_pos hl,h2d,w64 (n:=(i:Int) + jj) (by omega),w64 (n:=(i:Int) + jj + kk) (by omega),w64 (n:=L + 1) (by omega),w64 (n:=(i:Int) * jj) (by omega),w64 (n:=(i:Int) * jj + kk) (by omega),w64 (n:=L / 2) (by omega)]
   refine oH (tE xs (by omega)) (oH (gS _ (by omega) (by omega)) (oH (tE xs (by omega)) (oH (gS _ (by omega) (by omega)) (oH ?_ rfl))))
   exact Ib [0,L / 2,L,_] _ (by simp)
  ·have d2:decide ((jj:Int) < i64.wrap (((ks.map bT).length:Int) - 1))=false:=by
    rw [List.length_map,w64 (by omega)]
    simp; omega
   rw [if_neg (by rw [d2]; decide),if_neg hl]
 ·generalize nV xs i jj kk ks.length L=n at hn
  rw [w64 (n:=L - n) (by omega),w64 (n:=(jj:Int) + kk) (by omega),w64 (n:=10000 - n) (by omega),w64 (n:=10000 - n + 1) (by omega),w64 (n:=2 * (jj:Int)) (by omega),w64 (n:=(i:Int) + 2 * jj) (by omega)]
  have b0:=Int.emod_nonneg (gU xs ((jj:Int) + kk)) (show (10000 - n + 1)≠0 by omega)
  have b1:=Int.emod_lt_of_pos (gU xs ((jj:Int) + kk)) (show (0:Int) < 10000 - n + 1 by omega)
  refine oH (tE xs (by omega)) (oH (gS _ (by omega) (by omega)) (oH (tE xs (by omega)) (oH (gS _ (by omega) (by omega)) (oH (r:=mV xs i jj kk n) ?_ ?_))))
  ·rw [w64 (n:=n + gU xs ((jj:Int) + kk) % (10000 - n + 1)) (by omega)]
   exact Ib [10000,n,_] _ (by simp)
  ·refine oH (Xk hj n (mV xs i jj kk n) hN hc hkk) ?_
   rw [aY (show jj < 7 by omega) (show 7≤1000000 by omega)]
theorem L7 {σ τ : Type} {f : σ→Option (σ⊕τ)} {s s' : σ} {n:Nat} (h:f s=some (.inl s')) : ah f (n + 1) s=ah f n s':=by simp only [ah,h]
theorem vz {σ τ : Type} {f : σ→Option (σ⊕τ)} {s : σ} {r : τ} {n:Nat} (h:f s=some (.inr r)) : ah f (n + 1) s=some r:=by simp only [ah,h]
def E1 (sh:Int) (xs:List Int) (nl:Nat) (ps:List Tx) (k:Nat) (ds:List QD) : Prop:=∃ n,n + k=ab∧fH sh xs=Option.bind (ah (dp (ps.map bT) xs) n (gC nl ds,(k:Int))) fun r=>Option.bind (ah (cN (ps.map bT) xs) ab (r.1,0)) fun r=>some r.1
def E3 (sh:Int) (xs:List Int) (nl:Nat) (ps:List Tx) (i:Nat) (ds:List QD) : Prop:=∃ n,n + i=ab∧fH sh xs=Option.bind (ah (cN (ps.map bT) xs) n (gC nl ds,(i:Int))) fun r=>some r.1
def E4 (sh:Int) (xs:List Int) (nl:Nat) (ps:List Tx) (i:Nat) (ks:List Tx) (kk:Nat) (ds:List QD) : Prop:=∃ n3,n3 + (i + 1)=ab∧∃ n,n + kk=ab∧fH sh xs=Option.bind (Option.bind (ah (dn xs (i:Int) (ks.map bT)) n (gC nl ds,(kk:Int))) fun r=>ah (cN (ps.map bT) xs) n3 (r.1,((i + 1:Nat) : Int))) fun r=>some r.1
def E5 (sh:Int) (xs:List Int) (nl:Nat) (ps:List Tx) (i:Nat) (ks:List Tx) (kk jj:Nat) (L:Int) (ds:List QD) : Prop:=∃ n3,n3 + (i + 1)=ab∧∃ n4,n4 + (kk + 1)=ab∧∃ n,n + jj=ab∧fH sh xs=Option.bind (Option.bind (Option.bind (ah (cT (ks.map bT) xs (i:Int) (kk:Int)) n (L,gC nl ds,(jj:Int))) fun r=>ah (dn xs (i:Int) (ks.map bT)) n4 (r.2.1,((kk + 1:Nat) : Int))) fun r=>ah (cN (ps.map bT) xs) n3 (r.1,((i + 1:Nat) : Int))) fun r=>some r.1
section
variable {sh:Int} {xs:List Int} {nl:Nat} {ps:List Tx} {ds:List QD}
theorem E1.step {k:Nat} (h:E1 sh xs nl ps k ds) (hnl:nl≤2) (hk:k < ps.length) (hps:ps.length≤7) (hds:ds.length≤7) : E1 sh xs nl ps (k + 1) (ds ++ [⟨ps[k],List.replicate nl ru,Ic xs k⟩]):=by
 obtain ⟨n,h1,h2⟩:=h
 obtain ⟨n,rfl⟩ : ∃ m,n=m + 1:=⟨n - 1,by unfold ab at h1; omega⟩
 rw [L7 (Q6 hnl ps xs ds hk hps hds)] at h2
 exact ⟨n,by omega,h2⟩
theorem E1.end (h:E1 sh xs nl ps ps.length ds) (hps:ps.length≤7) : E3 sh xs nl ps 0 ds:=by
 obtain ⟨n,h1,h2⟩:=h
 obtain ⟨n,rfl⟩ : ∃ m,n=m + 1:=⟨n - 1,by unfold ab at h1; omega⟩
 rw [vz (r:=(gC nl ds,(ps.length:Int))) (by unfold dp; simp)] at h2
 exact ⟨ab,rfl,h2⟩
theorem E3.open {i:Nat} (h:E3 sh xs nl ps i ds) (hi:i < ps.length) (hps:ps.length≤7) {y:Nat} (hy:ps=my y) (hd:ds.map (·.path)=ps) : E4 sh xs nl ps i (Ch ps[i] ps) 0 ds:=by
 obtain ⟨n,h1,h2⟩:=h
 obtain ⟨n,rfl⟩ : ∃ m,n=m + 1:=⟨n - 1,by unfold ab at h1; omega⟩
 refine ⟨n,by omega,ab,rfl,h2.trans ?_⟩
 have e1:(ps.map bT)[i]? = some (bT ps[i]):=by simp [hi]
 have d1:decide ((i:Int) < ((ps.map bT).length:Int))=true:=by simp; omega
 congr 1
 rw [ah]
 unfold cN
 dsimp only
 rw [if_pos d1,aE e1]
 simp only [zb,YN nl hy hd (List.getElem_mem hi),aY (show i < 7 by omega) (show 7≤1000000 by omega)]
 cases ah (dn xs (i:Int) ((Ch ps[i] ps).map bT)) ab (gC nl ds,0) <;> rfl
theorem E4.open {i kk:Nat} {ks:List Tx} (h:E4 sh xs nl ps i ks kk ds) (hk:kk < nl) (hnl:nl≤2) : E5 sh xs nl ps i ks kk 0 10000 ds:=by
 obtain ⟨n3,h3,n,h1,h2⟩:=h
 obtain ⟨n,rfl⟩ : ∃ m,n=m + 1:=⟨n - 1,by unfold ab at h1; omega⟩
 refine ⟨n3,h3,n,by omega,ab,rfl,h2.trans ?_⟩
 have hl:(gC nl ds).ai.length=nl:=by show ((CV nl).map bT).length=nl; rw [List.length_map,qJ hnl]
 have d1:decide ((kk:Int) < ((gC nl ds).ai.length:Int))=true:=by rw [hl]; simpa using hk
 congr 1
 congr 1
 rw [ah]
 unfold dn
 dsimp only
 rw [if_pos d1]
 simp only [aY (show kk < 7 by omega) (show 7≤1000000 by omega)]
 cases ah (cT (ks.map bT) xs (i:Int) (kk:Int)) ab (10000,gC nl ds,0) <;> rfl
theorem E5.step {i kk jj:Nat} {ks:List Tx} {L:Int} (h:E5 sh xs nl ps i ks kk jj L ds) (hj:jj < ks.length) (hks:ks.length≤7) (hi:i≤7) (hnl:nl≤2) (hkk:kk < nl) (h0 : 0≤L) (hL:L≤10000) (hN:ds.length≤7) (hc:∀ q∈ds,q.caps.length=nl) :
  E5 sh xs nl ps i ks kk (jj + 1) (L - nV xs i jj kk ks.length L) (iy ks[jj] kk (nV xs i jj kk ks.length L) (mV xs i jj kk (nV xs i jj kk ks.length L)) ds):=by
 obtain ⟨n3,h3,n4,h4,n,h1,h2⟩:=h
 obtain ⟨n,rfl⟩ : ∃ m,n=m + 1:=⟨n - 1,by unfold ab at h1; omega⟩
 rw [L7 (Q5 hj hks hi hnl hkk h0 hL hN hc)] at h2
 exact ⟨n3,h3,n4,h4,n,by omega,h2⟩
theorem E5.end {i kk:Nat} {ks:List Tx} {L:Int} (h:E5 sh xs nl ps i ks kk ks.length L ds) (hks:ks.length≤7) : E4 sh xs nl ps i ks (kk + 1) ds:=by
 obtain ⟨n3,h3,n4,h4,n,h1,h2⟩:=h
 obtain ⟨n,rfl⟩ : ∃ m,n=m + 1:=⟨n - 1,by unfold ab at h1; omega⟩
 rw [vz (r:=(L,gC nl ds,(ks.length:Int))) (by unfold cT; simp)] at h2
 exact ⟨n3,h3,n4,h4,h2⟩
theorem E4.end {i:Nat} {ks:List Tx} (h:E4 sh xs nl ps i ks nl ds) (hnl:nl≤2) : E3 sh xs nl ps (i + 1) ds:=by
 obtain ⟨n3,h3,n,h1,h2⟩:=h
 obtain ⟨n,rfl⟩ : ∃ m,n=m + 1:=⟨n - 1,by unfold ab at h1; omega⟩
 have hl:(gC nl ds).ai.length=nl:=by show ((CV nl).map bT).length=nl; rw [List.length_map,qJ hnl]
 rw [vz (r:=(gC nl ds,(nl:Int))) (by unfold dn; simp [hl])] at h2
 exact ⟨n3,h3,h2⟩
theorem E3.end (h:E3 sh xs nl ps ps.length ds) (hps:ps.length≤7) : fH sh xs=some (gC nl ds):=by
 obtain ⟨n,h1,h2⟩:=h
 obtain ⟨n,rfl⟩ : ∃ m,n=m + 1:=⟨n - 1,by unfold ab at h1; omega⟩
 rw [vz (r:=(gC nl ds,(ps.length:Int))) (by unfold cN; simp)] at h2
 exact h2
end
theorem E1.start (sh:Int) (xs:List Int) {nl y:Nat} (hnl:(nl:Int)=1 + i64.wrap (sh.tdiv 5) % 2) (hy:(y:Int)=sh % 5) : E1 sh xs nl (my y) 0 []:=by
 refine ⟨ab,rfl,?_⟩
 have h0:=Int.emod_nonneg (i64.wrap (sh.tdiv 5)) (show (2:Int)≠0 by decide)
 have h1:=Int.emod_lt_of_pos (i64.wrap (sh.tdiv 5)) (show (0:Int) < 2 by decide)
 have y0:=Int.emod_nonneg sh (show (5:Int)≠0 by decide)
 have y1:=Int.emod_lt_of_pos sh (show (0:Int) < 5 by decide)
 unfold fH
 dsimp only
 refine oH (gS _ (by decide) (by decide)) ?_
 rw [w64 (n:=1 + i64.wrap (sh.tdiv 5) % 2) (by omega),← hnl]
 refine oH (oa (by simp; omega)) (oH (gS _ (by decide) (by decide)) ?_)
 rw [← hy]
 have hy5:y < 5:=by omega
 refine oH (r:=(my y).map bT) ?_ ?_
 ·rcases y with _ | _ | _ | _ | _ | y
  all_goals first | rfl | omega
 ·have e:(⟨List.take nl [(⟨#[]⟩ : ByteArray),⟨#[103,112,117]⟩],[]⟩ : ax)=gC nl []:=by
   unfold gC CV
   rw [List.map_take]
   rfl
  rw [e]
  rfl
end
theorem de {w:World} {b:Nat} {cs:Array Value} {t:TypeId} (h:w.heap[b]? = some (.cells cs t (0,0))) (j:Nat) (v:Value) (hv:cs[j]? = some v) : w.cell? ⟨b,j,none⟩=some v:=by
 rw [cell_of_row w b j cs t (0,0) h,hv]
theorem sa {w:World} {b:Nat} {cs:Array Value} {t:TypeId} (h:w.heap[b]? = some (.cells cs t (0,0))) (j:Nat) : w.frozen? ⟨b,j,none⟩=false:=by
 simp [World.frozen?,h]
noncomputable def rM (w:World) : World:=((((((((w.alloc (Obj.cells #[Value.slice none 0 0,Value.slice none 0 0] 34)).alloc (Obj.cells #[Value.string { data:=#[114,111,111,116] }] 9)).alloc (Obj.cells #[Value.string { data:=#[114,111,111,116] },Value.string { data:=#[114,111,111,116,46,97] },Value.string { data:=#[114,111,111,116,46,98] }] 9)).alloc (Obj.cells #[Value.string { data:=#[114,111,111,116] },Value.string { data:=#[114,111,111,116,46,97] },Value.string { data:=#[114,111,111,116,46,97,46,120] },Value.string { data:=#[114,111,111,116,46,97,46,121] },Value.string { data:=#[114,111,111,116,46,98] }] 9)).alloc (Obj.cells #[Value.string { data:=#[114,111,111,116] },Value.string { data:=#[114,111,111,116,46,97] },Value.string { data:=#[114,111,111,116,46,98] },Value.string { data:=#[114,111,111,116,46,98,46,120] },Value.string { data:=#[114,111,111,116,46,98,46,120,46,112] },Value.string { data:=#[114,111,111,116,46,98,46,120,46,113] },Value.string { data:=#[114,111,111,116,46,99] }] 9)).alloc (Obj.cells #[Value.string { data:=#[114,111,111,116] },Value.string { data:=#[114,111,111,116,46,97] }] 9)).alloc (Obj.cells #[Value.slice (some { block:=w.heap.size + 1,off:=0 }) 1 1,Value.slice (some { block:=w.heap.size + 1 + 1,off:=0 }) 3 3,Value.slice (some { block:=w.heap.size + 1 + 1 + 1,off:=0 }) 5 5,Value.slice (some { block:=w.heap.size + 1 + 1 + 1 + 1,off:=0 }) 7 7,Value.slice (some { block:=w.heap.size + 1 + 1 + 1 + 1 + 1,off:=0 }) 2 2] 31)).alloc (Obj.cells #[Value.string { data:=#[] },Value.string { data:=#[103,112,117] }] 9))
theorem Tm (w:World) : Ext w (rM w):=(((((((aO w _).trans (aO _ _)).trans (aO _ _)).trans (aO _ _)).trans (aO _ _)).trans (aO _ _)).trans (aO _ _)).trans (aO _ _)
theorem OZ (w:World) : (rM w).heap.size=w.heap.size + 8:=by simp [rM]
theorem Tk (w:World) : (rM w).heap[w.heap.size]? = some (.cells #[.slice none 0 0,.slice none 0 0] 34 (0,0)):=by
 have h:=heap_alloc_new w (.cells #[.slice none 0 0,.slice none 0 0] 34 (0,0))
 have x:Ext (w.alloc (.cells #[.slice none 0 0,.slice none 0 0] 34 (0,0))) (rM w):=((((((aO _ _).trans (aO _ _)).trans (aO _ _)).trans (aO _ _)).trans (aO _ _)).trans (aO _ _)).trans (aO _ _)
 exact (x.block _ (Array.getElem?_eq_some_iff.1 h).1).trans h
theorem O1 (w:World) : (rM w).heap[w.heap.size + 1 + 1 + 1 + 1 + 1 + 1 + 1]? = some (.cells #[.string ⟨#[]⟩,.string ⟨#[103,112,117]⟩] 9 (0,0)):=by
 have e:∀ (W1:World) (o:Obj) (n:Nat),W1.heap.size=n→(W1.alloc o).heap[n]? = some o:=by intro W1 o n h; subst h; exact heap_alloc_new W1 o
 unfold rM
 exact e _ _ _ (by simp)
theorem OY (w:World) (y:Nat) (hy:y < 5) : (rM w).cell? ⟨w.heap.size + 1 + 1 + 1 + 1 + 1 + 1,y,none⟩=some (.slice (some ⟨w.heap.size + 1 + y,0,none⟩) (my y).length (my y).length):=by
 unfold rM
 rcases y with _ | _ | _ | _ | _ | y
 all_goals first | omega | (simp [go_sem,my,Nat.add_assoc])
theorem O0 (w:World) (y:Nat) (hy:y < 5) (i:Nat) (hi:i < (my y).length) : (rM w).cell? ⟨w.heap.size + 1 + y,i,none⟩=some (.string ⟨((my y)[i]).toArray⟩):=by
 unfold rM
 rcases y with _ | _ | _ | _ | _ | y
 all_goals first | omega | skip
 all_goals (rcases i with _ | _ | _ | _ | _ | _ | _ | i)
 all_goals first | (exfalso; simp [my] at hi; done) | (exfalso; simp [my] at hi; omega) | (simp [go_sem,my,Nat.add_assoc])
theorem yx (v:Value) (xs:List Int) (i:Int) (w:World) (r0:Rd w v (xs.map (Value.int .i64))) (hn:xs.length≤9223372036854775807) (h0 : 0≤i) (h1:i≤1000000) :
  Calls prog 55 #[v,.int .i64 i] w fun e w'=>(∃ a:Int,e = .returned (.int .i64 a)∧a=gU xs i)∧w=w':=by
 obtain ⟨A,N,c,rfl,hN,hc1,hc2,hcell⟩:=H9 r0
 have HC:=Lib.hid hcell
 have HN:=Lib.hid hN
 have hN1:N≤9223372036854775807:=by omega
 clear hcell hN r0
 by_cases hz:N=0
 ·subst hz
  have hp:gU xs i=i:=by unfold gU; rw [if_pos (by have:=HN.out; omega)]
  rw [hp]
  clear hp
  go_enter Tryz.func55,Tryz.ntmps55
  go_wp2
  go_ret
  exact ⟨⟨_,rfl,rfl⟩,rfl⟩
 ·have q0:((N:Int)==0)=false:=by simp; omega
  obtain ⟨m,hm⟩ : ∃ m:Nat,i % (N:Int)=(m:Int):=⟨(i % (N:Int)).toNat,by have:=Int.emod_nonneg i (show (N:Int)≠0 by omega); omega⟩
  have hmN:m < N:=by have:=Int.emod_lt_of_pos i (show (0:Int) < N by omega); omega
  obtain ⟨a,rfl,hb,hcs⟩:=HC.out (by omega)
  have h3:=hcs m (by have:=HN.out; omega)
  have n1:(1:Int)≤(N:Int):=by omega
  have m0:(0:Int)≤(m:Int):=by omega
  have m1:(m:Int) < (N:Int):=by omega
  have hp:gU xs i=xs[m]'(by have:=HN.out; omega):=by
   unfold gU
   rw [if_neg (by have:=HN.out; omega),show (xs.length:Int)=(N:Int) by have:=HN.out; omega,hm]
   simp [List.getD,zq (show m < xs.length by have:=HN.out; omega)]
  generalize xs[m]'(by have:=HN.out; omega)=x at h3 hp
  rw [hp]
  clear hp
  clear hcs
  go_enter Tryz.func55,Tryz.ntmps55
  go_wp2
  go_ret
  exact ⟨⟨_,rfl,rfl⟩,rfl⟩
end Go.Proofs.YtchddofjajgopaaGreat
