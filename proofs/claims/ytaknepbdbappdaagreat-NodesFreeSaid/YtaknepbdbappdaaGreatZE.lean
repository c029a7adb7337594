/- My texts, in one. -/
import Derived.Test.YtaknepbdbappdaaGreatZD
set_option linter.all false
set_option maxRecDepth 100000
set_option maxHeartbeats 4000000
namespace Go.Proofs.YtaknepbdbappdaaGreat
open Go.RowKit
open IntKind (i64)
open Go.Proofs.Tryz (prog)
theorem N8 (n:Int) : vg n=some (decide (n≥1)&&decide (n≤1073741824)):=by
 unfold vg
 simp only [dM,zb]
def Y7 (a:aJ) (n:Int) : Int:=(lA a n).getD 0
theorem LZ (a:aJ) (n:Int) : lA a n=some (Y7 a n):=by
 have:∃ r,lA a n=some r:=by
  unfold lA
  simp only [N8,orB,dM,zb]
  simp only [rV]
  exact ⟨_,rfl⟩
 obtain ⟨r,hr⟩:=this
 unfold Y7
 rw [hr]; rfl
theorem Sk (l:List aJ) (a:aJ) (hl:l.length≤100000) : ∃ r,xf l a=some r∧r.1.length≤8:=by
 unfold xf
 dsimp only
 rw [Ce l { a with ke:=0 } ([],a.ja==0) (by omega)]
 obtain ⟨r,h1,h2⟩:=aV (g:=jb l { a with ke:=0 }) (fin:=fun b=>(b.1,b.2,(l.length:Int))) (fun k b=>b.1.length≤2 * k) (fun r=>r.1.length≤2 * l.length) l 0 ([],a.ja==0) (fun j b x hx hb=>by
  have hj:=(zg.1 hx).1
  unfold jb
  simp only [dM,zb]
  cases (!b.2&&decide (x.bD > a.bD)) with
  | true =>
   simp only [if_true]
   rw [aD (by simp; omega)]
   simp only [zb]
   cases (x.bD != a.bD) with
   | true =>
    simp only [if_true]
    rw [aD (by simp; omega)]
    exact ⟨_,rfl,fun a' e=>by injection e with e; subst e; simp; omega,fun r e=>by cases e⟩
   | false =>
    exact ⟨_,rfl,fun a' e=>by injection e with e; subst e; simp; omega,fun r e=>by cases e⟩
  | false =>
   simp only [zf,if_false,zb]
   cases (x.bD != a.bD) with
   | true =>
    simp only [if_true]
    rw [aD (by simp; omega)]
    exact ⟨_,rfl,fun a' e=>by injection e with e; subst e; simp; omega,fun r e=>by cases e⟩
   | false =>
    exact ⟨_,rfl,fun a' e=>by injection e with e; subst e; show b.1.length≤_; omega,fun r e=>by cases e⟩) (fun b hb=>by simpa using hb) (by simp)
 rw [h1]
 simp only [zb]
 have fin:∀ o:List aJ,∃ r,(if decide ((o.length:Int) > 8)=true then some (([] : List aJ),(4:Int)) else some (o,0))=some r∧r.1.length≤8:=by
  intro o
  by_cases h:(o.length:Int) > 8
  ·simp only [h,decide_true,if_true]; exact ⟨_,rfl,by simp⟩
  ·simp only [h,decide_false,zf,if_false]; exact ⟨_,rfl,by show o.length≤8; omega⟩
 cases (!r.2.1) with
 | true =>
  simp only [if_true]
  rw [aD (by simp; omega)]
  exact fin _
 | false=>exact fin _
def UB (l:List aJ) (p:Int) : aJ:=(l.find? fun x=>x.bD==p).getD aJ.zero
def isA (l:List aJ) (p:Int) : Bool:=l.any fun x=>x.bD==p
theorem So (l:List aJ) (p:Int) (hl:l.length≤1000000) : AM l p=some (UB l p,isA l p):=by
 unfold AM
 dsimp only
 rw [Cf l p () hl]
 have h2:=rZ (fun x:aJ=>x.bD==p) (fun x=>(Sum.inr (x,true) : Int⊕aJ×Bool)) (.inl (l.length:Int)) l
 rw [show ly l p=fun (_:Unit) x=>if (x.bD==p)=true then some (.inr (.inr (x,true))) else some (.inl ()) from rfl,h2]
 unfold UB isA
 cases hf:l.find? fun x=>x.bD==p with
 | none =>
  have:(l.any fun x=>x.bD==p)=false:=by
   rw [List.any_eq_false]; intro x hx; have:=List.find?_eq_none.1 hf x hx; simpa using this
  rw [this]; rfl
 | some q =>
  have:(l.any fun x=>x.bD==p)=true:=by
   rw [List.any_eq_true]; exact ⟨q,List.mem_of_find?_eq_some hf,by simpa using List.find?_some hf⟩
  rw [this]; rfl
theorem N9 (l:List aJ) (p:Int) (hl:l.length≤1000000) : ∃ r,vh l p=some r∧r.1.length≤l.length:=by
 unfold vh
 dsimp only
 rw [AL l p (false,[]) hl]
 obtain ⟨r,h1,h2⟩:=aV (g:=ic l p) (fin:=fun b=>(b.1,b.2,(l.length:Int))) (fun k b=>b.2.length≤k) (fun r=>r.2.1.length≤l.length) l 0 (false,[]) (fun j b x hx hb=>by
  have hj:=(zg.1 hx).1
  unfold ic
  dsimp only
  split
  ·split
   ·exact ⟨_,rfl,fun a' e=>by injection e with e; subst e; show b.2.length≤_; omega,fun r e=>by cases e⟩
   ·rw [aD (by simp; omega)]
    exact ⟨_,rfl,fun a' e=>by injection e with e; subst e; simp; omega,fun r e=>by cases e⟩
  ·rw [aD (by simp; omega)]
   exact ⟨_,rfl,fun a' e=>by injection e with e; subst e; simp; omega,fun r e=>by cases e⟩) (fun b hb=>by simpa using hb) (by simp)
 rw [h1]
 exact ⟨_,rfl,h2⟩
theorem Oa (l:List aJ) (p:Int) (hl:l.length≤1000000) : ∃ r,vi l p=some r∧r.length=l.length:=by
 unfold vi
 rw [aD (by simpa using hl)]
 simp only [zb,List.nil_append]
 have h:=aM (f:=ni p) (fun st=>st.1.length=l.length∧0≤st.2∧st.2≤(l.length:Int)) (fun st=>((l.length:Int) - st.2).toNat) (fun st=>st.1.length=l.length) (fun st ⟨h1,h2,h3⟩=>by
  unfold ni
  dsimp only
  by_cases hi:st.2 < (st.1.length:Int)
  ·obtain ⟨x,hx,_⟩:=K8 h2 hi
   have hw:i64.wrap (st.2 + 1)=st.2 + 1:=kJ (by omega) (by omega)
   simp only [hi,decide_true,if_true,hx,zb,hw]
   split
   ·exact .inl ⟨_,rfl,⟨by simpa using h1,by show 0≤st.2 + 1; omega,by show st.2 + 1≤_; omega⟩,by show ((l.length:Int) - (st.2 + 1)).toNat < ((l.length:Int) - st.2).toNat; omega⟩
   ·exact .inl ⟨_,rfl,⟨h1,by show 0≤st.2 + 1; omega,by show st.2 + 1≤_; omega⟩,by show ((l.length:Int) - (st.2 + 1)).toNat < ((l.length:Int) - st.2).toNat; omega⟩
  ·simp only [hi,decide_false,zf,if_false]
   exact .inr ⟨_,rfl,h1⟩) ac (l,0) ⟨rfl,Int.le_refl _,Int.natCast_nonneg _⟩ (by show ((l.length:Int) - 0).toNat < ac; unfold ac; omega)
 obtain ⟨r,h1,h2⟩:=h
 rw [h1]
 exact ⟨_,rfl,h2⟩
def Xq (l:List aJ) (k:Int) : av:=(kE l k).getD av.zero
theorem Gc (l:List aJ) (k:Int) (hl:l.length≤1000000) : kE l k=some (Xq l k):=by
 have:∃ r,kE l k=some r:=by
  unfold kE
  dsimp only
  rw [vI l k ⟨0,0⟩ hl]
  obtain ⟨r,h1,_⟩:=aV (g:=eD l k) (fin:=fun a=>(a,(l.length:Int))) (fun _ _=>True) (fun _=>True) l 0 ⟨0,0⟩ (fun j a x hx _=>by
   unfold eD
   simp only [dP,zb,rV]
   exact ⟨_,rfl,fun _ _=>trivial,fun _ _=>trivial⟩) (fun _ _=>trivial) trivial
  rw [h1]
  exact ⟨_,rfl⟩
 obtain ⟨r,hr⟩:=this
 unfold Xq
 rw [hr]; rfl
def jK (v_s:aa) (bC:Int) (st:Unit) (x_:az) : Option ((Unit)⊕((Int)⊕(az×Bool))) :=
 if (x_.fId==bC)=true then
 some (.inr (.inr (x_,true)))
 else
 some (.inl ())
theorem zy (v_s:aa) (bC:Int) (a_:Unit) (hl:v_s.ao.length≤1000000) : ah (jq v_s bC) ac (0)=bl (jK v_s bC) (fun a_=>(.inl ((v_s.ao.length:Int)))) a_ v_s.ao :=
 ax v_s.ao (S:=Int) (fun a_ k_=>(k_)) (jK v_s bC) (fun a_=>(.inl ((v_s.ao.length:Int)))) (an hl) (fun k a x hx=>by
  unfold jq jK; exact bE)
  (fun a=>by unfold jq; exact cA) a_
def eP (v_s:aa) (st:Bool×(List az)) (x_:az) : Option ((Bool×(List az))⊕((Bool×(List az)×Int))) :=
 let cn:=st.1
 let v_l:=st.2
 (if (!cn)=true then (dD x_).bind fun c6=>some (!c6) else some false).bind fun q7=>if q7=true then
 let cn:Bool:=true
 some (.inl (cn,v_l))
 else
 (aW v_l [x_]).bind fun b8=>let v_l:(List az):=b8
 some (.inl (cn,v_l))
theorem vQ (v_s:aa) (a_:Bool×(List az)) (hl:v_s.ao.length≤1000000) : ah (gG v_s) ac (a_.1,a_.2,(0))=bl (eP v_s) (fun a_=>(a_.1,a_.2,((v_s.ao.length:Int)))) a_ v_s.ao :=
 ax v_s.ao (S:=Bool×(List az)×Int) (fun a_ k_=>(a_.1,a_.2,(k_))) (eP v_s) (fun a_=>(a_.1,a_.2,((v_s.ao.length:Int)))) (an hl) (fun k a x hx=>by
  unfold gG eP; exact bE)
  (fun a=>by unfold gG; exact cA) a_
def eR (v_s:aa) (st:Int) (x_:az) : Option ((Int)⊕((Int×Int))) :=
 let kY:=st
 (dD x_).bind fun c13=>if c13=true then
 let kY:Int:=(i64.wrap (kY + 1))
 some (.inl kY)
 else
 some (.inl kY)
theorem vR (v_s:aa) (a_:Int) (hl:v_s.ao.length≤1000000) : ah (jI v_s) ac (a_,(0))=bl (eR v_s) (fun a_=>(a_,((v_s.ao.length:Int)))) a_ v_s.ao :=
 ax v_s.ao (S:=Int×Int) (fun a_ k_=>(a_,(k_))) (eR v_s) (fun a_=>(a_,((v_s.ao.length:Int)))) (an hl) (fun k a x hx=>by
  unfold jI eR; exact bE)
  (fun a=>by unfold jI; exact cA) a_
def gF (v_s:aa) (bC:Int) (st:(List Int)×(List ai)) (x_:ai) : Option (((List Int)×(List ai))⊕(((List Int)×(List ai)×Int))) :=
 let jP:=st.1
 let v_l:=st.2
 if (x_.bz==bC)=true then
 (aW jP [x_.fId]).bind fun b6=>let jP:(List Int):=b6
 some (.inl (jP,v_l))
 else
 (aW v_l [x_]).bind fun b7=>let v_l:(List ai):=b7
 some (.inl (jP,v_l))
theorem zw (v_s:aa) (bC:Int) (a_:(List Int)×(List ai)) (hl:v_s.ab.length≤1000000) : ah (dC v_s bC) ac (a_.1,a_.2,(0))=bl (gF v_s bC) (fun a_=>(a_.1,a_.2,((v_s.ab.length:Int)))) a_ v_s.ab :=
 ax v_s.ab (S:=(List Int)×(List ai)×Int) (fun a_ k_=>(a_.1,a_.2,(k_))) (gF v_s bC) (fun a_=>(a_.1,a_.2,((v_s.ab.length:Int)))) (an hl) (fun k a x hx=>by
  unfold dC gF; exact bE)
  (fun a=>by unfold dC; exact cA) a_
def gB (v_s:aa) (bC:Int) (st:(List bt)) (x_:bt) : Option (((List bt))⊕(((List bt)×Int))) :=
 let iK:=st
 if (x_.bz != bC)=true then
 (aW iK [x_]).bind fun b10=>let iK:(List bt):=b10
 some (.inl iK)
 else
 some (.inl iK)
theorem zv (v_s:aa) (bC:Int) (a_:(List bt)) (hl:v_s.aR.length≤1000000) : ah (gD v_s bC) ac (a_,(0))=bl (gB v_s bC) (fun a_=>(a_,((v_s.aR.length:Int)))) a_ v_s.aR :=
 ax v_s.aR (S:=(List bt)×Int) (fun a_ k_=>(a_,(k_))) (gB v_s bC) (fun a_=>(a_,((v_s.aR.length:Int)))) (an hl) (fun k a x hx=>by
  unfold gD gB; exact bE)
  (fun a=>by unfold gD; exact cA) a_
def jL (v_s:aa) (bC:Int) (st:Unit) (x_:ai) : Option ((Unit)⊕((Int)⊕(ai×Bool))) :=
 if (x_.fId==bC)=true then
 some (.inr (.inr (x_,true)))
 else
 some (.inl ())
theorem zB (v_s:aa) (bC:Int) (a_:Unit) (hl:v_s.ab.length≤1000000) : ah (l8 v_s bC) ac (0)=bl (jL v_s bC) (fun a_=>(.inl ((v_s.ab.length:Int)))) a_ v_s.ab :=
 ax v_s.ab (S:=Int) (fun a_ k_=>(k_)) (jL v_s bC) (fun a_=>(.inl ((v_s.ab.length:Int)))) (an hl) (fun k a x hx=>by
  unfold l8 jL; exact bE)
  (fun a=>by unfold l8; exact cA) a_
def gI (v_s:aa) (bC:Int) (st:(List ai)) (x_:ai) : Option (((List ai))⊕(((List ai)×Int))) :=
 let v_l:=st
 if (x_.fId != bC)=true then
 (aW v_l [x_]).bind fun b4=>let v_l:(List ai):=b4
 some (.inl v_l)
 else
 some (.inl v_l)
theorem zC (v_s:aa) (bC:Int) (a_:(List ai)) (hl:v_s.ab.length≤1000000) : ah (l9 v_s bC) ac (a_,(0))=bl (gI v_s bC) (fun a_=>(a_,((v_s.ab.length:Int)))) a_ v_s.ab :=
 ax v_s.ab (S:=(List ai)×Int) (fun a_ k_=>(a_,(k_))) (gI v_s bC) (fun a_=>(a_,((v_s.ab.length:Int)))) (an hl) (fun k a x hx=>by
  unfold l9 gI; exact bE)
  (fun a=>by unfold l9; exact cA) a_
def d9 (v_l:(List Int)) (v_n:Int) (st:(List Int)) (x_:Int) : Option (((List Int))⊕(((List Int)×Int))) :=
 let ak:=st
 if (x_ != v_n)=true then
 (aW ak [x_]).bind fun b4=>let ak:(List Int):=b4
 some (.inl ak)
 else
 some (.inl ak)
theorem uI (v_l:(List Int)) (v_n:Int) (a_:(List Int)) (hl:v_l.length≤1000000) : ah (iU v_l v_n) ac (a_,(0))=bl (d9 v_l v_n) (fun a_=>(a_,((v_l.length:Int)))) a_ v_l :=
 ax v_l (S:=(List Int)×Int) (fun a_ k_=>(a_,(k_))) (d9 v_l v_n) (fun a_=>(a_,((v_l.length:Int)))) (an hl) (fun k a x hx=>by
  unfold iU d9; exact bE)
  (fun a=>by unfold iU; exact cA) a_
def gH (ce:(List Int)) (st:aa) (x_:Int) : Option ((aa)⊕((aa×Int))) :=
 let v_s:=st
 (eT v_s x_).bind fun c21=>let v_c:ai:=c21.1
 let bK:Bool:=c21.2
 if (!bK)=true then
 some (.inl v_s)
 else
 (dE v_s v_c.bz).bind fun c22=>let v_a:az:=c22.1
 if v_c.bI=true then
 (o8 v_a).bind fun c23=>let t24:Int:=1
 let t25:(List aJ):=c23
 let v_a:az:={ v_a with ef:=t24 }
 let v_a:az:={ v_a with bQ:=t25 }
 let t26:(List Int):=[]
 let t27:(List Int):=[]
 let t28:(List Int):=[]
 let t29:(List Int):=[]
 let v_a:az:={ v_a with cr:=t26 }
 let v_a:az:={ v_a with i8:=t27 }
 let v_a:az:={ v_a with s7:=t28 }
 let v_a:az:={ v_a with tY:=t29 }
 let t30:Int:=0
 let t31:Int:=v_s.cP
 let v_a:az:={ v_a with co:=t30 }
 let v_a:az:={ v_a with cW:=t31 }
 (cZ v_s v_a).bind fun c32=>(l7 c32 v_c.bz).bind fun c33=>let v_s:aa:=c33.1
 some (.inl v_s)
 else
 (n5 v_s v_c.fId).bind fun c34=>let v_s:aa:=c34
 let tv:Bool:=false
 (jo v_a.cr v_c.fId).bind fun c35=>let v_a:az:={ v_a with cr:=c35.1 }
 let tv:Bool:=c35.2
 (if (!tv)=true then
 (aW ([] : (List Int)) v_a.i8).bind fun b37=>(aW b37 [v_c.fId]).bind fun b38=>let v_a:az:={ v_a with i8:=b38 }
 some v_a
 else
 some v_a).bind fun j36=>let v_a:=j36
 (cZ v_s v_a).bind fun c39=>let v_s:aa:=c39
 some (.inl v_s)
theorem zx (ce:(List Int)) (a_:aa) (hl:ce.length≤1000000) : ah (jp ce) ac (a_,(0))=bl (gH ce) (fun a_=>(a_,((ce.length:Int)))) a_ ce :=
 ax ce (S:=aa×Int) (fun a_ k_=>(a_,(k_))) (gH ce) (fun a_=>(a_,((ce.length:Int)))) (an hl) (fun k a x hx=>by
  unfold jp gH; exact bE)
  (fun a=>by unfold jp; exact cA) a_
def eS (v_s:aa) (st:(List Int)) (x_:az) : Option (((List Int))⊕(((List Int)×Int))) :=
 let v_l:=st
 (if (x_.ef==2)=true then some (decide ((i64.wrap (v_s.cP - x_.cW))≥15)) else some false).bind fun q6=>if q6=true then
 (aW v_l [x_.fId]).bind fun b7=>let v_l:(List Int):=b7
 some (.inl v_l)
 else
 some (.inl v_l)
theorem vS (v_s:aa) (a_:(List Int)) (hl:v_s.ao.length≤1000000) : ah (jJ v_s) ac (a_,(0))=bl (eS v_s) (fun a_=>(a_,((v_s.ao.length:Int)))) a_ v_s.ao :=
 ax v_s.ao (S:=(List Int)×Int) (fun a_ k_=>(a_,(k_))) (eS v_s) (fun a_=>(a_,((v_s.ao.length:Int)))) (an hl) (fun k a x hx=>by
  unfold jJ eS; exact bE)
  (fun a=>by unfold jJ; exact cA) a_
def dN (v_c:ay) (au:ByteArray) (st:Unit) (x_:aC) : Option ((Unit)⊕((Int)⊕(aC×Bool))) :=
 if (x_.aK.toList==au.toList)=true then
 let v_q:aC:=x_
 (aW ([] : (List eu)) v_q.bA).bind fun b4=>let v_q:aC:={ v_q with bA:=b4 }
 some (.inr (.inr (v_q,true)))
 else
 some (.inl ())
theorem rC (v_c:ay) (au:ByteArray) (a_:Unit) (hl:v_c.ae.length≤1000000) : ah (nw v_c au) ac (0)=bl (dN v_c au) (fun a_=>(.inl ((v_c.ae.length:Int)))) a_ v_c.ae :=
 ax v_c.ae (S:=Int) (fun a_ k_=>(k_)) (dN v_c au) (fun a_=>(.inl ((v_c.ae.length:Int)))) (an hl) (fun k a x hx=>by
  unfold nw dN; exact bE)
  (fun a=>by unfold nw; exact cA) a_
def cw (v_c:ay) (au:ByteArray) (st:(List ByteArray)) (x_:aC) : Option (((List ByteArray))⊕(((List ByteArray)×Int))) :=
 let v_l:=st
 (if (!(au.toList==(⟨#[]⟩ : ByteArray).toList))=true then (d6 x_.aK).bind fun c6=>some (c6.toList==au.toList) else some false).bind fun q7=>if q7=true then
 (aW v_l [x_.aK]).bind fun b8=>let v_l:(List ByteArray):=b8
 some (.inl v_l)
 else
 some (.inl v_l)
theorem jz (v_c:ay) (au:ByteArray) (a_:(List ByteArray)) (hl:v_c.ae.length≤1000000) : ah (nv v_c au) ac (a_,(0))=bl (cw v_c au) (fun a_=>(a_,((v_c.ae.length:Int)))) a_ v_c.ae :=
 ax v_c.ae (S:=(List ByteArray)×Int) (fun a_ k_=>(a_,(k_))) (cw v_c au) (fun a_=>(a_,((v_c.ae.length:Int)))) (an hl) (fun k a x hx=>by
  unfold nv cw; exact bE)
  (fun a=>by unfold nv; exact cA) a_
def ik (bB:(List ByteArray)) (v_c:ay) (v_k:Int) (st:Int) (x_:ByteArray) : Option ((Int)⊕((Int×Int))) :=
 let v_n:=st
 (jA v_c x_).bind fun c7=>let v_q:aC:=c7.1
 (aw v_q.bA v_k).bind fun b8=>let v_n:Int:=(i64.wrap (v_n + b8.mO))
 some (.inl v_n)
theorem AR (bB:(List ByteArray)) (v_c:ay) (v_k:Int) (a_:Int) (hl:bB.length≤1000000) : ah (jX bB v_c v_k) ac (a_,(0))=bl (ik bB v_c v_k) (fun a_=>(a_,((bB.length:Int)))) a_ bB :=
 ax bB (S:=Int×Int) (fun a_ k_=>(a_,(k_))) (ik bB v_c v_k) (fun a_=>(a_,((bB.length:Int)))) (an hl) (fun k a x hx=>by
  unfold jX ik; exact bE)
  (fun a=>by unfold jX; exact cA) a_
def il (v_c:ay) (st:Unit) (x_:aC) : Option ((Unit)⊕((Int)⊕(Bool))) :=
 (ff v_c x_.aK).bind fun c10=>let bB:(List ByteArray):=c10
 let v_k:Int:=0
 (ah (nr v_c bB) ac v_k).bind fun r11=>match r11 with
 | .inr m12=>some (.inr (.inr m12))
 | .inl m12 =>
 let v_k:=m12
 some (.inl ())
theorem AU (v_c:ay) (a_:Unit) (hl:v_c.ae.length≤1000000) : ah (nu v_c) ac (0)=bl (il v_c) (fun a_=>(.inl ((v_c.ae.length:Int)))) a_ v_c.ae :=
 ax v_c.ae (S:=Int) (fun a_ k_=>(k_)) (il v_c) (fun a_=>(.inl ((v_c.ae.length:Int)))) (an hl) (fun k a x hx=>by
  unfold nu il; exact bE)
  (fun a=>by unfold nu; exact cA) a_
theorem pf {s:ByteArray} {k:Int} (h0 : 0≤k) (h1:k.toNat < s.size) : ∃ b,lb s k=some b:=by
 unfold lb
 rw [if_pos h0]
 have:k.toNat < s.data.toList.length:=by simpa using h1
 rw [zq this]
 exact ⟨_,rfl⟩
theorem nS (p:ByteArray) (hp:p.size≤1000000) : ∃ r,d6 p=some r∧(r.size < p.size∨r.size=0):=by
 unfold d6
 have hw:∀ k:Int,-1≤k→k≤1000000000→i64.wrap (k - 1)=k - 1:=fun k h1 h2=>kJ (by omega) (by omega)
 have h:=aM (f:=jd p) (fun k=>-1≤k∧k < (p.size:Int)) (fun k=>(k + 1).toNat) (fun k=>-1≤k∧k < (p.size:Int)) (fun k ⟨h1,h2⟩=>by
  unfold jd
  by_cases hk:k≥0
  ·obtain ⟨b,hb⟩:=pf (s:=p) hk (by omega)
   simp only [hk,decide_true,if_true,hb,zb]
   cases (b != 46) with
   | true =>
    simp only [if_true,hw k h1 (by omega)]
    exact .inl ⟨_,rfl,by omega,by omega⟩
   | false=>exact .inr ⟨_,rfl,h1,h2⟩
  ·simp only [hk,decide_false,zf,if_false,zb]
   exact .inr ⟨_,rfl,h1,h2⟩) ac (i64.wrap ((p.size:Int) - 1)) (by rw [hw _ (by omega) (by omega)]; omega) (by show (i64.wrap ((p.size:Int) - 1) + 1).toNat < ac; rw [hw _ (by omega) (by omega)]; unfold ac; omega)
 obtain ⟨k,h1,h2,h3⟩:=h
 dsimp only
 rw [h1]
 simp only [zb]
 by_cases hk:k < 0
 ·simp only [hk,decide_true,if_true]
  exact ⟨_,rfl,.inr rfl⟩
 ·simp only [hk,decide_false,zf,if_false]
  unfold Ni
  rw [if_pos ⟨by omega,by omega⟩]
  refine ⟨_,rfl,.inl ?_⟩
  simp only [ByteArray.size_extract]
  omega
theorem ql {p:ByteArray} (h:(!(p.toList==(⟨#[]⟩ : ByteArray).toList))=true) : 0 < p.size:=by
 rcases Nat.eq_zero_or_pos p.size with h0 | h0
 ·exfalso
  have:p=⟨#[]⟩:=by
   cases p with
   | mk d => have : d = #[] := by apply Array.eq_empty_of_size_eq_zero; exact h0
             rw [this]
  rw [this] at h
  simp at h
 ·exact h0
theorem E2 (p:ByteArray) (hp:p.size≤1000000) : ∃ r,yC p=some r∧r.length≤p.size∧∀ q∈r,q.size≤p.size:=by
 unfold yC
 have h:=aM (f:=nT) (fun st=>st.1.length + st.2.size≤p.size∧∀ q∈st.1,q.size≤p.size) (fun st=>st.2.size) (fun st=>st.1.length≤p.size∧∀ q∈st.1,q.size≤p.size) (fun st ⟨h1,h2⟩=>by
  unfold nT
  dsimp only
  split
  ·rename_i hne
   have h0:=ql hne
   rw [aD (by simp; omega)]
   obtain ⟨r,hr,hs⟩:=nS st.2 (by omega)
   simp only [zb,hr]
   refine .inl ⟨_,rfl,⟨by simp; omega,fun q hq=>?_⟩,by show r.size < st.2.size; omega⟩
   simp only [List.mem_append,List.mem_singleton] at hq
   rcases hq with hq | rfl
   ·exact h2 q hq
   ·omega
  ·exact .inr ⟨_,rfl,by show st.1.length≤p.size; omega,h2⟩) ac ([],p) ⟨by simp,by simp⟩ (by show p.size < ac; unfold ac; omega)
 obtain ⟨r,h1,h2,h3⟩:=h
 dsimp only
 rw [h1]
 exact ⟨_,rfl,h2,h3⟩
structure SzC (c:ay) : Prop where
 labels:c.al.length≤1000
 queues:c.ae.length≤1000
 caps:∀ q∈c.ae,q.bA.length≤1000
 paths:∀ q∈c.ae,q.aK.size≤1000000
def D5 (c:ay) (p:ByteArray) : aC:=(c.ae.find? fun q=>q.aK.toList==p.toList).getD aC.zero
def isQ (c:ay) (p:ByteArray) : Bool:=c.ae.any fun q=>q.aK.toList==p.toList
theorem mQ (c:ay) (p:ByteArray) (h:SzC c) : jA c p=some (D5 c p,isQ c p):=by
 unfold jA D5 isQ
 have hs:=rC c p () (by have:=h.queues; omega)
 dsimp only
 rw [hs]
 have key:∀ l:List aC,(∀ q∈l,q.bA.length≤1000)→bl (dN c p) (fun _=>(Sum.inl (c.ae.length:Int) : Int⊕(aC×Bool))) () l=some (match l.find? fun q=>q.aK.toList==p.toList with | some q=>.inr (q,true) | none=>.inl (c.ae.length:Int)):=by
  intro l
  induction l with
  | nil=>intro _; rfl
  | cons q l ih =>
   intro hc
   simp only [bl,List.find?_cons]
   unfold dN
   cases hq:(q.aK.toList==p.toList) with
   | true =>
    have:=hc q (by simp)
    simp only [if_true]
    rw [aD (by simp; omega)]
    rfl
   | false =>
    simp only [zf,if_false]
    exact ih fun q hq=>hc q (by simp [hq])
 rw [key _ h.caps]
 cases hf:c.ae.find? fun q=>q.aK.toList==p.toList with
 | none =>
  have:(c.ae.any fun q=>q.aK.toList==p.toList)=false:=by
   rw [List.any_eq_false]; intro x hx; have:=List.find?_eq_none.1 hf x hx; simpa using this
  rw [this]; rfl
 | some q =>
  have:(c.ae.any fun q=>q.aK.toList==p.toList)=true:=by
   rw [List.any_eq_true]; exact ⟨q,List.mem_of_find?_eq_some hf,by simpa using List.find?_some hf⟩
  rw [this]; rfl
theorem sG (c:ay) (p:ByteArray) (h:SzC c) : ∃ r,ff c p=some r∧r.length≤c.ae.length∧∀ x∈r,∃ q∈c.ae,q.aK=x:=by
 unfold ff
 have hs:=jz c p [] (by have:=h.queues; omega)
 dsimp only
 rw [hs]
 obtain ⟨r,h1,h2⟩:=aV (g:=cw c p) (fin:=fun a=>(a,(c.ae.length:Int))) (fun k a=>a.length≤k∧∀ x∈a,∃ q∈c.ae,q.aK=x) (fun r=>r.1.length≤c.ae.length∧∀ x∈r.1,∃ q∈c.ae,q.aK=x) c.ae 0 [] (fun j a x hx ⟨h1,h2⟩=>by
  have hm:=List.mem_of_getElem? hx
  have hj:=(zg.1 hx).1
  obtain ⟨r,hr,_⟩:=nS x.aK (h.paths x hm)
  have hqs:=h.queues
  unfold cw
  simp only [hr,zb,dM]
  split
  ·rw [aD (by simp; omega)]
   refine ⟨_,rfl,fun a' e=>?_,fun r e=>by cases e⟩
   injection e with e
   subst e
   refine ⟨by simp; omega,fun y hy=>?_⟩
   simp only [List.mem_append,List.mem_singleton] at hy
   rcases hy with hy | rfl
   ·exact h2 y hy
   ·exact ⟨x,hm,rfl⟩
  ·refine ⟨_,rfl,fun a' e=>?_,fun r e=>by cases e⟩
   injection e with e
   subst e
   exact ⟨by omega,h2⟩) (fun a ⟨h1,h2⟩=>⟨by simpa using h1,h2⟩) ⟨by simp,by simp⟩
 rw [h1]
 exact ⟨_,rfl,h2⟩
def Bs (c:ay) (p:ByteArray) : Bool:=(kh c p).getD false
theorem xh (c:ay) (p:ByteArray) (h:SzC c) : kh c p=some (Bs c p):=by
 have:∃ r,kh c p=some r:=by
  unfold kh
  obtain ⟨r,hr,_⟩:=sG c p h
  simp only [mQ c p h,zb,hr,dM]
  exact ⟨_,rfl⟩
 obtain ⟨r,hr⟩:=this
 unfold Bs
 rw [hr]
 rfl
def id' {α : Type} (x : α) : α:=x
theorem yb {α : Type} (l:List α) : l.map id' = l:=List.map_id l
def Un (a:az) : Bool:=a.ef==1||a.ef==2
theorem ft (a:az) : dD a=some (Un a):=by unfold dD Un; simp only [orB,zb]
theorem MS (n:Int) : rM n=some (decide (n≥1)&&decide (n≤1073741824)):=by unfold rM; simp only [dM,zb]
theorem oO (a:az) : o8 a=some [⟨0,0,a.bI,1,-1,-1,0⟩]:=rfl
theorem Hc {α β : Type} (p : α→Bool) (l:List α) (z : α) (d : β) : (match (match l.find? p with | some q=>(Sum.inr (q,true) : β⊕(α×Bool)) | none=>.inl d) with | .inr m=>some m | .inl _=>some (z,false))=some ((l.find? p).getD z,l.any p):=by
 cases hf:l.find? p with
 | none =>
  have:l.any p=false:=by
   rw [List.any_eq_false]; intro x hx; have:=List.find?_eq_none.1 hf x hx; simpa using this
  rw [this]; rfl
 | some q =>
  have:l.any p=true:=by rw [List.any_eq_true]; exact ⟨q,List.mem_of_find?_eq_some hf,List.find?_some hf⟩
  rw [this]; rfl
def ca (s:aa) (id:Int) : az:=(s.ao.find? fun c=>c.fId==id).getD az.zero
def Uv (s:aa) (id:Int) : Bool:=s.ao.any fun c=>c.fId==id
theorem kK {α τ : Type} (p : α→Bool) (q : α→τ) (d : τ) (l:List α) : bl (fun (_:Unit) x=>if p x=true then some (.inr (q x)) else some (.inl ())) (fun _=>d) () l=some (match l.find? p with | some x=>q x | none=>d):=by
 rw [rZ]
 cases l.find? p <;> rfl
theorem ei (s:aa) (id:Int) (hl:s.ao.length≤1000000) : dE s id=some (ca s id,Uv s id):=by
 unfold dE ca Uv
 dsimp only
 rw [zy s id () hl,show jK s id=fun (_:Unit) x=>if (x.fId==id)=true then some (.inr (.inr (x,true))) else some (.inl ()) from rfl,
  kK (fun x:az=>x.fId==id) (fun x=>(Sum.inr (x,true) : Int⊕az×Bool)) (.inl (s.ao.length:Int)) s.ao]
 simp only [zb]
 have h2:=Hc (fun x:az=>x.fId==id) s.ao az.zero (s.ao.length:Int)
 revert h2
 cases s.ao.find? fun x=>x.fId==id <;> exact fun h=>h
def jN (s:aa) (id:Int) : ai:=(s.ab.find? fun c=>c.fId==id).getD ai.zero
def DY (s:aa) (id:Int) : Bool:=s.ab.any fun c=>c.fId==id
theorem jr (s:aa) (id:Int) (hl:s.ab.length≤1000000) : eT s id=some (jN s id,DY s id):=by
 unfold eT jN DY
 dsimp only
 rw [zB s id () hl,show jL s id=fun (_:Unit) x=>if (x.fId==id)=true then some (.inr (.inr (x,true))) else some (.inl ()) from rfl,
  kK (fun x:ai=>x.fId==id) (fun x=>(Sum.inr (x,true) : Int⊕ai×Bool)) (.inl (s.ab.length:Int)) s.ab]
 simp only [zb]
 have h2:=Hc (fun x:ai=>x.fId==id) s.ab ai.zero (s.ab.length:Int)
 revert h2
 cases s.ab.find? fun x=>x.fId==id <;> exact fun h=>h
theorem kI (s:aa) (n:az) (hl:s.ao.length + 1≤1000000) : cZ s n=some { s with ao:=cM az.fId s.ao n } := by
 unfold cZ
 have hl':s.ao.length≤1000000:=by omega
 have h:=DN s.ao (fun x=>decide (x.fId < n.fId)) (f:=ny s n) (an hl')
  (fun k x hx=>by
   have hk:=(zg.1 hx).1
   unfold ny
   simp only [ci hx,if_true,aN hx,zb,bm hk hl'])
  (by unfold ny; simp only [bU]; rfl)
 unfold cM
 have hK:=rU (fun x:az=>decide (x.fId < n.fId)) s.ao
 generalize (s.ao.takeWhile fun x=>decide (x.fId < n.fId)).length=K at h hK ⊢
 dsimp only
 rw [h]
 simp only [zb]
 rw [pm hK]
 simp only [zb]
 rw [aD (by simp; omega)]
 simp only [zb]
 rw [aD (by simp; omega)]
 simp only [zb]
 by_cases hlt:K < s.ao.length
 ·have hx:s.ao[K]? = some s.ao[K]:=zq hlt
  simp only [ci hx,if_true,aN hx,zb,hx]
  cases he:(s.ao[K].fId==n.fId) with
  | true =>
   simp only [if_true,zb,bm hlt hl']
   rw [lh hlt]
   simp only [zb]
   rw [aD (by simp; omega)]
   simp
  | false =>
   simp only [zf,if_false,zb]
   rw [lh hK]
   simp only [zb]
   rw [aD (by simp; omega)]
   simp
 ·have:K=s.ao.length:=by omega
  subst this
  simp only [bU,zf,if_false,zb]
  rw [lh (Nat.le_refl _)]
  simp only [zb]
  rw [aD (by simp; omega)]
  simp
theorem uK (s:aa) (id:Int) (hl:s.ab.length≤1000000) : n5 s id=some { s with ab:=s.ab.filter fun c=>c.fId != id } := by
 unfold n5
 dsimp only
 have e:gI s id=fun acc x=>if (x.fId != id)=true then (aW acc [id' x]).map (fun a=>(.inl a:List ai⊕(List ai×Int))) else some (.inl acc):=by
  funext acc x
  unfold gI
  dsimp only [id']
  split
  ·cases aW acc [x] <;> rfl
  ·rfl
 rw [zC s id [] hl,e,cj (fun c:ai=>c.fId != id) id' _ s.ab [] (by simpa using hl)]
 simp only [zb,List.nil_append,yb]
theorem uJ (l:List Int) (n:Int) (hl:l.length≤1000000) : jo l n=some (l.filter (fun c=>c != n),decide (((l.filter (fun c=>c != n)).length:Int) < (l.length:Int))):=by
 unfold jo
 dsimp only
 have e:d9 l n=fun acc x=>if (x != n)=true then (aW acc [id' x]).map (fun a=>(.inl a:List Int⊕(List Int×Int))) else some (.inl acc):=by
  funext acc x
  unfold d9
  dsimp only [id']
  split
  ·cases aW acc [x] <;> rfl
  ·rfl
 rw [uI l n [] hl,e,cj (fun c:Int=>c != n) id' _ l [] (by simpa using hl)]
 simp only [zb,List.nil_append,yb]
theorem Gq (s:aa) (hl:s.ao.length≤1000000) : sQ s=some ((s.ao.filter fun b=>b.ef==2&&decide (i64.wrap (s.cP - b.cW)≥15)).map az.fId):=by
 unfold sQ
 dsimp only
 have e:eS s=fun acc x=>if (x.ef==2&&decide (i64.wrap (s.cP - x.cW)≥15))=true then (aW acc [x.fId]).map (fun a=>(.inl a:List Int⊕(List Int×Int))) else some (.inl acc):=by
  funext acc x
  unfold eS
  simp only [dM,zb]
  split
  ·cases aW acc [x.fId] <;> rfl
  ·rfl
 rw [vS s [] hl,e,cj (fun x:az=>x.ef==2&&decide (i64.wrap (s.cP - x.cW)≥15)) az.fId _ s.ao [] (by simpa using hl)]
 simp
theorem uH (s:aa) (id:Int) (hl:s.ab.length≤1000000) (hs:s.aR.length≤1000000) : l7 s id=some ({ s with ab:=s.ab.filter fun c=>!(c.bz==id),aR:=s.aR.filter fun c=>c.bz != id },(s.ab.filter fun c=>c.bz==id).map ai.fId):=by
 unfold l7
 dsimp only
 have e2:gB s id=fun acc x=>if (x.bz != id)=true then (aW acc [id' x]).map (fun a=>(.inl a:List bt⊕(List bt×Int))) else some (.inl acc):=by
  funext acc x
  unfold gB
  dsimp only [id']
  split
  ·cases aW acc [x] <;> rfl
  ·rfl
 have k1:∀ (l:List ai) (a:List Int×List ai),a.1.length + a.2.length + l.length≤1000000→bl (gF s id) (fun b=>(b.1,b.2,(s.ab.length:Int))) a l=some (a.1++(l.filter fun c=>c.bz==id).map ai.fId,a.2++(l.filter fun c=>!(c.bz==id)),(s.ab.length:Int)):=by
  intro l
  induction l with
  | nil=>intro a _; simp [bl]
  | cons x l ih =>
   intro a h
   simp only [List.length_cons] at h
   have step:gF s id a x=if (x.bz==id)=true then (aW a.1 [x.fId]).bind fun b=>some (.inl (b,a.2)) else (aW a.2 [x]).bind fun b=>some (.inl (a.1,b)):=rfl
   simp only [bl,List.filter_cons,step]
   cases (x.bz==id) with
   | true =>
    simp only [if_true]
    rw [aD (by simp; omega)]
    simp only [zb]
    rw [ih _ (by simp; omega)]
    simp
   | false =>
    simp only [zf,if_false]
    rw [aD (by simp; omega)]
    simp only [zb]
    rw [ih _ (by simp; omega)]
    simp
 rw [zw s id ([],[]) hl,k1 _ _ (by simpa using hl)]
 simp only [zb]
 rw [zv s id [] hs,e2,cj (fun c:bt=>c.bz != id) id' _ s.aR [] (by simpa using hs)]
 simp only [zb,List.nil_append,yb]
def fZ (v_s:aa) (af:Int) (st:av) (x_:aB) : Option ((av)⊕((av×Int))) :=
 let v_v:=st
 (if x_.fUp=true then some (x_.a8==af) else some false).bind fun q6=>if q6=true then
 (cX v_v x_.dY).bind fun c7=>let v_v:av:=c7
 some (.inl v_v)
 else
 some (.inl v_v)
theorem yB (v_s:aa) (af:Int) (a_:av) (hl:v_s.ar.length≤1000000) : ah (lB v_s af) ac (a_,(0))=bl (fZ v_s af) (fun a_=>(a_,((v_s.ar.length:Int)))) a_ v_s.ar :=
 ax v_s.ar (S:=av×Int) (fun a_ k_=>(a_,(k_))) (fZ v_s af) (fun a_=>(a_,((v_s.ar.length:Int)))) (an hl) (fun k a x hx=>by
  unfold lB fZ; exact bE)
  (fun a=>by unfold lB; exact cA) a_
def ij (v_s:aa) (af:Int) (st:av) (x_:a6) : Option ((av)⊕((av×Int))) :=
 let v_v:=st
 let v_p:a6:=x_
 (if (v_p.a8==af)=true then some (decide (v_p.pw≤v_s.cP)) else some false).bind fun q5=>(if q5=true then some (decide (v_s.cP < v_p.lr)) else some false).bind fun q6=>if q6=true then
 (cX v_v v_p.kP).bind fun c7=>let v_v:av:=c7
 some (.inl v_v)
 else
 some (.inl v_v)
theorem AQ (v_s:aa) (af:Int) (a_:av) (hl:v_s.bv.length≤1000000) : ah (nq v_s af) ac (a_,(0))=bl (ij v_s af) (fun a_=>(a_,((v_s.bv.length:Int)))) a_ v_s.bv :=
 ax v_s.bv (S:=av×Int) (fun a_ k_=>(a_,(k_))) (ij v_s af) (fun a_=>(a_,((v_s.bv.length:Int)))) (an hl) (fun k a x hx=>by
  unfold nq ij; exact bE)
  (fun a=>by unfold nq; exact cA) a_
def ul (s:aa) (k:Int) : av:=(jc s k).getD av.zero
theorem nQ (s:aa) (k:Int) (hl:s.ar.length≤1000000) : jc s k=some (ul s k):=by
 have:∃ r,jc s k=some r:=by
  unfold jc
  dsimp only
  rw [yB s k ⟨0,0⟩ hl]
  obtain ⟨r,h1,_⟩:=aV (g:=fZ s k) (fin:=fun a=>(a,(s.ar.length:Int))) (fun _ _=>True) (fun _=>True) s.ar 0 ⟨0,0⟩ (fun j a x hx _=>by
   unfold fZ
   simp only [dP,dM,zb,rV]
   exact ⟨_,rfl,fun _ _=>trivial,fun _ _=>trivial⟩) (fun _ _=>trivial) trivial
  rw [h1]
  exact ⟨_,rfl⟩
 obtain ⟨r,hr⟩:=this
 unfold ul
 rw [hr]; rfl
def VJ (s:aa) (k:Int) : av:=(sF s k).getD av.zero
theorem Oj (s:aa) (k:Int) (hl:s.bv.length≤1000000) : sF s k=some (VJ s k):=by
 have:∃ r,sF s k=some r:=by
  unfold sF
  dsimp only
  rw [AQ s k ⟨0,0⟩ hl]
  obtain ⟨r,h1,_⟩:=aV (g:=ij s k) (fin:=fun a=>(a,(s.bv.length:Int))) (fun _ _=>True) (fun _=>True) s.bv 0 ⟨0,0⟩ (fun j a x hx _=>by
   unfold ij
   simp only [dP,dM,zb,rV]
   exact ⟨_,rfl,fun _ _=>trivial,fun _ _=>trivial⟩) (fun _ _=>trivial) trivial
  rw [h1]
  exact ⟨_,rfl⟩
 obtain ⟨r,hr⟩:=this
 unfold VJ
 rw [hr]; rfl
def eX (p:ByteArray) : ByteArray:=(d6 p).getD ⟨#[]⟩
def dz:Nat→ByteArray→Nat
 | 0,_=>0
 | n + 1,p=>if p.size=0 then 0 else dz n (eX p) + 1
structure Deep (c:ay) : Prop where
 few:c.ae.length≤16
 deep:∀ q∈c.ae,dz 6 q.aK≤4
structure zK (c:ay) : Prop where
 sz:SzC c
 each:∀ q∈c.ae,q.bA.length=c.al.length
 up:∀ q∈c.ae,∀ r,yC q.aK=some r→∀ x∈r,isQ c x=true
 deep:Deep c
 lab1 : 1≤c.al.length
 leaf:∃ q∈c.ae,Bs c q.aK=true
 lsz:∀ x∈c.al,x.size≤1000000
theorem yi {c:ay} {p:ByteArray} (h:isQ c p=true) : D5 c p∈c.ae∧((D5 c p).aK.toList==p.toList)=true:=by
 unfold isQ at h
 unfold D5
 cases hf:c.ae.find? fun q=>q.aK.toList==p.toList with
 | none =>
  rw [List.any_eq_true] at h
  obtain ⟨q,hq,h2⟩:=h
  have:=List.find?_eq_none.1 hf q hq
  exact absurd h2 (by simpa using this)
 | some q=>exact ⟨List.mem_of_find?_eq_some hf,by simpa using List.find?_some hf⟩
theorem ru {a b:ByteArray} (h:(a.toList==b.toList)=true) : a=b:=by
 have h:a.toList=b.toList:=by simpa using h
 rw [ByteArray.toList_eq,ByteArray.toList_eq] at h
 cases a; cases b
 simp only at h
 congr 1
 exact Array.ext' h
theorem IY {α : Type} {l:List α} {i:Int} (h0 : 0≤i) (h1:i < (l.length:Int)) : ∃ x,aw l i=some x∧x∈l:=by
 unfold aw
 rw [if_pos h0]
 have:i.toNat < l.length:=by omega
 exact ⟨l[i.toNat],zq this,List.getElem_mem this⟩
theorem EY (s:aa) (p:ByteArray) (k:Int) (b:Bool) (hf:zK s.bL) (hn:s.ar.length≤1000000) : ∃ r,sE s p k b=some r:=by
 unfold sE
 simp only [mQ _ _ hf.sz,zb,orB,nQ s k hn]
 cases hc:(!isQ s.bL p||decide (k < 0)||decide (k≥(s.bL.al.length:Int))) with
 | true=>exact ⟨_,rfl⟩
 | false =>
  simp only [Bool.or_eq_false_iff,Bool.not_eq_false',decide_eq_false_iff_not] at hc
  obtain ⟨⟨hq,hk0⟩,hk1⟩:=hc
  obtain ⟨hm,hp⟩:=yi hq
  have hpe:=ru hp
  have hps:p.size≤1000000:=by rw [← hpe]; exact hf.sz.paths _ hm
  obtain ⟨up,hup,hul,_⟩:=E2 p hps
  have hall:=hf.up _ hm up (by rw [hpe]; exact hup)
  simp only [zf,if_false,hup,zb]
  have hw:∀ i:Int,-1≤i→i≤1000000→i64.wrap (i - 1)=i - 1:=fun i h1 h2=>kJ (by omega) (by omega)
  have hw2:i64.wrap ((up.length:Int) - 2)=(up.length:Int) - 2:=kJ (by omega) (by omega)
  have h:=aM (f:=qH s up k b) (fun st=>-2≤st.2∧st.2 < (up.length:Int)) (fun st=>(st.2 + 1).toNat) (fun _=>True) (fun st ⟨h1,h2⟩=>by
   unfold qH
   dsimp only
   by_cases hi:st.2≥0
   ·obtain ⟨x,hx,hxm⟩:=IY (l:=up) hi h2
    have hxq:=hall x hxm
    have hcap:=hf.each _ (yi hxq).1
    obtain ⟨c,hc,_⟩:=IY (l:=(D5 s.bL x).bA) (i:=k) (by omega) (by rw [hcap]; omega)
    simp only [hi,decide_true,if_true,hx,zb,mQ _ _ hf.sz,hc,BM,rV,hw st.2 (by omega) (by omega)]
    exact .inl ⟨_,rfl,⟨by show -2≤st.2 - 1; omega,by show st.2 - 1 < _; omega⟩,by show (st.2 - 1 + 1).toNat < (st.2 + 1).toNat; omega⟩
   ·simp only [hi,decide_false,zf,if_false]
    exact .inr ⟨_,rfl,trivial⟩) ac (ul s k,i64.wrap ((up.length:Int) - 2)) ⟨by show -2≤i64.wrap ((up.length:Int) - 2); rw [hw2]; omega,by show i64.wrap ((up.length:Int) - 2) < _; rw [hw2]; omega⟩ (by show (i64.wrap ((up.length:Int) - 2) + 1).toNat < ac; rw [hw2]; unfold ac; omega)
  obtain ⟨r,h1,_⟩:=h
  rw [h1]
  exact ⟨_,rfl⟩
def A7 (s:aa) (p:ByteArray) (k:Int) : av:=(sE s p k true).getD av.zero
def VF (s:aa) (p:ByteArray) (k:Int) : av:=(sE s p k false).getD av.zero
theorem nR (s:aa) (p:ByteArray) (k:Int) (hf:zK s.bL) (hn:s.ar.length≤1000000) : lC s p k=some (A7 s p k):=by
 obtain ⟨r,hr⟩:=EY s p k true hf hn
 unfold lC A7
 rw [hr]; rfl
theorem EZ (s:aa) (p:ByteArray) (k:Int) (hf:zK s.bL) (hn:s.ar.length≤1000000) : vk s p k=some (VF s p k):=by
 obtain ⟨r,hr⟩:=EY s p k false hf hn
 unfold vk VF
 rw [hr]; rfl
def XD (s:aa) (p:ByteArray) (k:Int) : av:=if isQ s.bL p=true then (N7 (A7 s p k) (D5 s.bL p).eh).1 else av.zero
theorem Oh (s:aa) (p:ByteArray) (k:Int) (hf:zK s.bL) (hn:s.ar.length≤1000000) : CR s p k=some (XD s p k):=by
 unfold CR XD
 simp only [mQ _ _ hf.sz,zb,nR s p k hf hn,BM]
 cases isQ s.bL p <;> rfl
def ig (v_s:aa) (bC:Int) (st:av) (x_:ai) : Option ((av)⊕((av×Int))) :=
 let v_v:=st
 if (x_.bf==bC)=true then
 (cX v_v x_.bu).bind fun c4=>let v_v:av:=c4
 some (.inl v_v)
 else
 some (.inl v_v)
theorem AP (v_s:aa) (bC:Int) (a_:av) (hl:v_s.ab.length≤1000000) : ah (nj v_s bC) ac (a_,(0))=bl (ig v_s bC) (fun a_=>(a_,((v_s.ab.length:Int)))) a_ v_s.ab :=
 ax v_s.ab (S:=av×Int) (fun a_ k_=>(a_,(k_))) (ig v_s bC) (fun a_=>(a_,((v_s.ab.length:Int)))) (an hl) (fun k a x hx=>by
  unfold nj ig; exact bE)
  (fun a=>by unfold nj; exact cA) a_
theorem Og (s:aa) (id:Int) (hl:s.ar.length≤1000000) : np s id=some (((s.ar.find? fun c=>c.fId==id).map fun c=>(c,true)).getD (aB.zero,false)):=by
 unfold np
 have h:=ax (S:=Int) s.ar (fun (_:Unit) k=>k) (f:=nn s id) (fun _ x=>if (x.fId==id)=true then some (.inr (.inr (x,true))) else some (.inl ())) (fun _=>.inl (s.ar.length:Int)) (an hl)
  (fun k a x hx=>by
   have hk:=(zg.1 hx).1
   unfold nn
   simp only [ci hx,if_true,aN hx,zb]
   split
   ·rfl
   ·simp only [bm hk hl,Option.map_some])
  (fun a=>by unfold nn; simp only [bU]; rfl) ()
 dsimp only
 have h2:=rZ (fun x:aB=>x.fId==id) (fun x=>(Sum.inr (x,true) : Int⊕aB×Bool)) (.inl (s.ar.length:Int)) s.ar
 rw [h,h2]
 cases List.find? (fun c=>c.fId==id) s.ar <;> rfl
theorem AN (s:aa) (n:aB) (hl:s.ar.length + 1≤1000000) : AO s n=some { s with ar:=cM aB.fId s.ar n } := by
 unfold AO
 have hl':s.ar.length≤1000000:=by omega
 have h:=DN s.ar (fun x=>decide (x.fId < n.fId)) (f:=oJ s n) (an hl')
  (fun k x hx=>by
   have hk:=(zg.1 hx).1
   unfold oJ
   simp only [ci hx,if_true,aN hx,zb,bm hk hl'])
  (by unfold oJ; simp only [bU]; rfl)
 unfold cM
 have hK:=rU (fun x:aB=>decide (x.fId < n.fId)) s.ar
 generalize (s.ar.takeWhile fun x=>decide (x.fId < n.fId)).length=K at h hK ⊢
 dsimp only
 rw [h]
 simp only [zb]
 rw [pm hK]
 simp only [zb]
 rw [aD (by simp; omega)]
 simp only [zb]
 rw [aD (by simp; omega)]
 simp only [zb]
 by_cases hlt:K < s.ar.length
 ·have hx:s.ar[K]? = some s.ar[K]:=zq hlt
  simp only [ci hx,if_true,aN hx,zb,hx]
  cases he:(s.ar[K].fId==n.fId) with
  | true =>
   simp only [if_true,zb,bm hlt hl']
   rw [lh hlt]
   simp only [zb]
   rw [aD (by simp; omega)]
   simp
  | false =>
   simp only [zf,if_false,zb]
   rw [lh hK]
   simp only [zb]
   rw [aD (by simp; omega)]
   simp
 ·have:K=s.ar.length:=by omega
  subst this
  simp only [bU,zf,if_false,zb]
  rw [lh (Nat.le_refl _)]
  simp only [zb]
  rw [aD (by simp; omega)]
  simp
theorem Od (n:Int) : yy n=some (decide (n≥0)&&decide (n≤1073741824)):=by
 unfold yy
 simp only [dM,zb]
def iZ (s:aa) (id:Int) : Bool:=s.ar.any fun c=>c.fId==id
def cf (s:aa) (id:Int) : aB:=(s.ar.find? fun c=>c.fId==id).getD aB.zero
theorem kF (s:aa) (id:Int) (hl:s.ar.length≤1000000) : np s id=some (cf s id,iZ s id):=by
 rw [Og s id hl]
 unfold cf iZ
 cases h:s.ar.find? fun c=>c.fId==id with
 | none =>
  have:(s.ar.any fun c=>c.fId==id)=false:=by
   rw [List.any_eq_false]; intro x hx; have:=List.find?_eq_none.1 h x hx; simpa using this
  rw [this]; rfl
 | some c =>
  have:(s.ar.any fun c=>c.fId==id)=true:=by
   rw [List.any_eq_true]; exact ⟨c,List.mem_of_find?_eq_some h,by simpa using List.find?_some h⟩
  rw [this]; rfl
def Uf (s:aa) (n:aB) : Bool:=!(decide (n.fId < 0)||decide (n.fId > 999)||decide (n.a8 < 0)||decide (n.a8≥(s.bL.al.length:Int))||decide (n.fV < 0)||decide (n.fV > 99) || !(decide (n.dY.be≥0)&&decide (n.dY.be≤1073741824)) || !(decide (n.dY.aF≥0)&&decide (n.dY.aF≤1073741824)))
def Ro (s:aa) (n:aB) : aa×Int :=
 if Uf s n=false then (s,1)
 else if (iZ s n.fId&&(cf s n.fId).fUp)=true then (s,7)
 else if (!iZ s n.fId&&decide ((s.ar.length:Int)≥12))=true then (s,4)
 else ({ s with ar:=cM aB.fId s.ar ⟨n.fId,n.a8,n.fV,n.dY,s.cP,0,true⟩ },0)
theorem um (s:aa) (n:aB) (hl:s.ar.length + 1≤1000000) : qw s n=some (Ro s n):=by
 unfold qw Ro
 simp only [Od,orB,zb,kF s n.fId (by omega),AN s _ hl,dM]
 unfold Uf
 generalize (decide (n.fId < 0)||decide (n.fId > 999)||decide (n.a8 < 0)||decide (n.a8≥(s.bL.al.length:Int))||decide (n.fV < 0)||decide (n.fV > 99) || !(decide (n.dY.be≥0)&&decide (n.dY.be≤1073741824)) || !(decide (n.dY.aF≥0)&&decide (n.dY.aF≤1073741824)))=b1
 generalize (iZ s n.fId&&(cf s n.fId).fUp)=b2
 generalize (!iZ s n.fId&&decide ((s.ar.length:Int)≥12))=b3
 cases b1 <;> cases b2 <;> cases b3 <;> rfl
theorem Jy (s:aa) (hl:s.ar.length≤1000000) : vj s=some ((s.ar.filter fun b=>b.fUp&&decide (i64.wrap (s.cP - b.cW)≥10)).map aB.fId):=by
 unfold vj
 have h:=ax (S:=List Int×Int) s.ar (fun a k=>(a,k)) (f:=kg s) (fun acc x=>if (x.fUp&&decide (i64.wrap (s.cP - x.cW)≥10))=true then (aW acc [x.fId]).map (fun a=>(.inl a:List Int⊕(List Int×Int))) else some (.inl acc)) (fun a=>(a,(s.ar.length:Int))) (an hl)
  (fun k a x hx=>by
   have hk:=(zg.1 hx).1
   unfold kg
   simp only [ci hx,if_true,aN hx,zb,dM,bm hk hl]
   split
   ·cases aW a [x.fId] <;> rfl
   ·rfl)
  (fun a=>by unfold kg; simp only [bU]; rfl) []
 rw [cj (fun b:aB=>b.fUp&&decide (i64.wrap (s.cP - b.cW)≥10)) aB.fId (fun a=>(a,(s.ar.length:Int))) s.ar [] (by simpa using hl)] at h
 dsimp only
 rw [h]
 rfl
def ER (s:aa) (id b:Int) : aa×Int :=
 if iZ s id=false then (s,2)
 else if (cf s id).fUp=false then (s,18)
 else if decide (b < 0)=true then (s,15)
 else if decide (b < (cf s id).co)=true then (s,15)
 else if decide (i64.wrap (b - (cf s id).co) > 1)=true then (s,1)
 else ({ s with ar:=cM aB.fId s.ar { cf s id with cW:=s.cP,co:=b } },0)
theorem EX (s:aa) (id b:Int) (hl:s.ar.length + 1≤1000000) : CQ s id b=some (ER s id b):=by
 unfold CQ ER
 simp only [kF s id (by omega),zb,AN s _ hl]
 generalize iZ s id=b1
 generalize (cf s id).fUp=b2
 generalize decide (b < 0)=b3
 generalize decide (b < (cf s id).co)=b4
 generalize decide (i64.wrap (b - (cf s id).co) > 1)=b5
 cases b1 <;> cases b2 <;> cases b3 <;> cases b4 <;> cases b5 <;> rfl
def BE (s:aa) (id:Int) : aa:=if iZ s id=true then { s with ar:=cM aB.fId s.ar { cf s id with fUp:=false } } else s
theorem EW (s:aa) (id:Int) (hl:s.ar.length + 1≤1000000) : yA s id=some (BE s id):=by
 unfold yA BE
 simp only [kF s id (by omega),zb,AN s _ hl]
 generalize iZ s id=b1
 cases b1 <;> rfl
def C1 (s:aa) (id:Int) : av:=s.ab.foldl (fun v c=>if (c.bf==id)=true then AJ v c.bu else v) av.zero
theorem Oe (s:aa) (id:Int) (hl:s.ab.length≤1000000) : CP s id=some (C1 s id):=by
 unfold CP
 dsimp only
 rw [AP s id ⟨0,0⟩ hl]
 have:ig s id=fun v c=>some (.inl (if (c.bf==id)=true then AJ v c.bu else v)):=by
  funext v c
  unfold ig
  simp only [dP,zb]
  cases (c.bf==id) <;> rfl
 rw [this,wH (fun (v:av) (c:ai)=>if (c.bf==id)=true then AJ v c.bu else v)]
 rfl
def s6 (s:aa) (id:Int) : av:=if (!iZ s id || !(cf s id).fUp)=true then av.zero else Qo (cf s id).dY (C1 s id)
theorem sC (s:aa) (id:Int) (hl:s.ar.length≤1000000) (hc:s.ab.length≤1000000) : yz s id=some (s6 s id):=by
 unfold yz s6
 simp only [kF s id hl,zb,orB,Oe s id hc,Fb]
 generalize (!iZ s id || !(cf s id).fUp)=b1
 cases b1 <;> rfl
theorem wK {α : Type} (key : α→Int) (l:List α) (a : α) : (cM key l a).length≤l.length + 1:=by
 unfold cM
 have h:=rU (fun x=>decide (key x < key a)) l
 generalize (l.takeWhile fun x=>decide (key x < key a)).length=K at h ⊢
 simp only [List.length_append,List.length_take,List.length_cons,List.length_drop]
 split
 ·split <;> omega
 ·omega
def jV {α : Type} (key : α→Int) (l:List α) : Prop:=l.Pairwise fun x y=>key x < key y
structure SzA (B:Nat) (a:az) : Prop where
 queue:a.bO.size≤1000000∧0≤a.cW∧a.cW≤1000000000∧a.fId < 9000
 asks:a.bQ.length≤B
 grants:a.cr.length≤B
 kills:a.i8.length≤B
 told:a.s7.length≤B
 lost:a.tY.length≤B
def ZE (s:aa) : Prop:=(0≤s.cP∧s.cP≤1000000000)∧∀ n∈s.ar,(0≤n.cW∧n.cW≤1000000000)∧0≤n.co
structure SzS (B:Nat) (s:aa) : Prop where
 conf:zK s.bL
 nodes:s.ar.length≤B∧jV aB.fId s.ar∧ZE s
 apps:s.ao.length≤B
 conts:s.ab.length≤B
 slots:s.aR.length≤B
 plans:s.bv.length≤B
 app:∀ a∈s.ao,SzA B a
theorem SzA.mono {B C:Nat} {a:az} (h:SzA B a) (hc:B≤C) : SzA C a:=⟨h.queue,Nat.le_trans h.asks hc,Nat.le_trans h.grants hc,Nat.le_trans h.kills hc,Nat.le_trans h.told hc,Nat.le_trans h.lost hc⟩
theorem SzS.mono {B C:Nat} {s:aa} (h:SzS B s) (hc:B≤C) : SzS C s:=⟨h.conf,⟨Nat.le_trans h.nodes.1 hc,h.nodes.2⟩,Nat.le_trans h.apps hc,Nat.le_trans h.conts hc,Nat.le_trans h.slots hc,Nat.le_trans h.plans hc,fun a ha=>(h.app a ha).mono hc⟩
theorem SzA.zero (B:Nat) : SzA B az.zero:=⟨⟨Nat.zero_le _,Int.le_refl _,by decide,by decide⟩,Nat.zero_le _,Nat.zero_le _,Nat.zero_le _,Nat.zero_le _,Nat.zero_le _⟩
theorem SzS.get {B:Nat} {s:aa} (h:SzS B s) (id:Int) : SzA B (ca s id):=by
 unfold ca
 cases hf:s.ao.find? fun c=>c.fId==id with
 | none=>exact SzA.zero B
 | some a=>exact h.app a (List.mem_of_find?_eq_some hf)
theorem pk {α : Type} {key : α→Int} {l:List α} {a x : α} (h:x∈cM key l a) : x=a∨x∈l:=by
 unfold cM at h
 simp only [List.mem_append,List.mem_cons] at h
 rcases h with h | h | h
 ·exact .inr (List.mem_of_mem_take h)
 ·exact .inl h
 ·exact .inr (List.mem_of_mem_drop h)
theorem SzS.put {B:Nat} {s:aa} (h:SzS B s) {a:az} (ha:SzA (B + 1) a) : SzS (B + 1) { s with ao:=cM az.fId s.ao a } :=
 ⟨h.conf,⟨Nat.le_trans h.nodes.1 (Nat.le_succ _),h.nodes.2⟩,Nat.le_trans (wK _ _ _) (Nat.succ_le_succ h.apps),Nat.le_trans h.conts (Nat.le_succ _),Nat.le_trans h.slots (Nat.le_succ _),Nat.le_trans h.plans (Nat.le_succ _),fun x hx=>by
  rcases pk hx with rfl | hx
  ·exact ha
  ·exact (h.app x hx).mono (Nat.le_succ _)⟩
theorem SzS.fewer {B:Nat} {s:aa} (h:SzS B s) {c:List ai} {l:List bt} (hc:c.length≤s.ab.length) (hl:l.length≤s.aR.length) : SzS B { s with ab:=c,aR:=l } := ⟨h.conf,h.nodes,h.apps,Nat.le_trans hc h.conts,Nat.le_trans hl h.slots,h.plans,h.app⟩
theorem zr (a p:ByteArray) (ha:a.size≤1000000) : ∃ r,mY a p=some r:=by
 obtain ⟨u,h1,h2,h3⟩:=E2 a ha
 unfold mY
 rw [h1]
 dsimp only [zb]
 rw [xp u p () (by omega),show iR u p=fun (_:Unit) x=>if (x.toList==p.toList)=true then some (.inr (.inr true)) else some (.inl ()) from rfl,
  kK (fun x:ByteArray=>x.toList==p.toList) (fun _=>(Sum.inr true:Int⊕Bool)) (.inl (u.length:Int)) u]
 simp only [zb]
 cases u.find? fun x=>x.toList==p.toList <;> exact ⟨_,rfl⟩
theorem BT {B:Nat} {s:aa} (h:SzS B s) (hB:B≤1000000) (p:ByteArray) (k:Int) (all:Bool) (u:Int) : ∃ r,uD s p k all u=some r:=by
 have h1:=h.apps; have h2:=h.conts
 unfold uD
 dsimp only
 rw [zp s k p all u _ (by omega)]
 obtain ⟨r,e1,_⟩:=aV (g:=gz s k p all u) (fin:=fun b=>(b,(s.ab.length:Int))) (fun _ _=>True) (fun _=>True) s.ab 0 (⟨0,0⟩ : av) (fun j t x hx _=>by
  obtain ⟨b,hb⟩:=zr (ca s x.bz).bO p (h.get x.bz).queue.1
  unfold gz
  simp only [ei s x.bz (by omega),zb,dM,hb,dP]
  cases Uv s x.bz <;> cases (x.a8==k) <;> cases b <;> cases all <;> cases ((ca s x.bz).eh==u) <;> exact ⟨_,rfl,fun _ _=>trivial,fun _ _=>trivial⟩) (fun _ _=>trivial) trivial
 rw [e1]
 exact ⟨_,rfl⟩
theorem fp {B:Nat} {s:aa} (h:SzS B s) (hB:B≤1000000) (p:ByteArray) (k:Int) : ∃ r,eO s p k=some r:=by
 obtain ⟨r,e⟩:=BT h hB p k true 0
 exact ⟨r,by unfold eO; rw [e]; rfl⟩
theorem Ci {B:Nat} {s:aa} (h:SzS B s) (hB:B≤1000000) (p:ByteArray) (k u:Int) : ∃ r,oN s p k u=some r:=by
 obtain ⟨r,e⟩:=BT h hB p k false u
 exact ⟨r,by unfold oN; rw [e]; rfl⟩
theorem uF {B:Nat} {s:aa} (h:SzS B s) (hB:B≤1000000) (p:ByteArray) (k:Int) : ∃ r,nZ s p k=some r:=by
 have h1:=h.apps
 unfold nZ
 dsimp only
 rw [uG s k p _ (by omega)]
 obtain ⟨r,e1,_⟩:=aV (g:=d8 s k p) (fin:=fun b=>(b,(s.ao.length:Int))) (fun _ _=>True) (fun _=>True) s.ao 0 (⟨0,0⟩ : av) (fun j t x hx _=>by
  have hm:=h.app x (List.mem_of_getElem? hx)
  have ha:=hm.asks
  obtain ⟨b,hb⟩:=zr x.bO p hm.queue.1
  unfold d8
  simp only [ft,zb,hb,Gc x.bQ k (by omega),dP]
  cases Un x <;> cases b <;> exact ⟨_,rfl,fun _ _=>trivial,fun _ _=>trivial⟩) (fun _ _=>trivial) trivial
 rw [e1]
 exact ⟨_,rfl⟩
theorem BW {B:Nat} {s:aa} (h:SzS B s) (hB:B≤1000000) (p:ByteArray) (hp:p.size≤1000000) (k:Int) (v:av) : ∃ r,uE s p k v=some r:=by
 obtain ⟨u,h1,h2,h3⟩:=E2 p hp
 have k1:=h.nodes.1; have k2:=h.plans
 unfold uE
 rw [h1]
 dsimp only [zb]
 rw [zu u s k v () (by omega)]
 obtain ⟨r,e1,_⟩:=aV (g:=gA u s k v) (fin:=fun _=>(.inl (u.length:Int))) (fun _ _=>True) (fun _=>True) u 0 () (fun j t x hx _=>by
  obtain ⟨w,hw⟩:=fp h hB x k
  unfold gA
  simp only [hw,zb,dP,EZ s x k h.conf (by omega),gV,nQ s k (by omega),Oj s k (by omega),Fb]
  generalize Lj (AJ w v) (VF s x k)=b1
  generalize Lj (AJ w v) (Qo (ul s k) (VJ s k))=b2
  generalize (x.toList==(⟨#[114,111,111,116]⟩ : ByteArray).toList)=b3
  cases b1 <;> cases b2 <;> cases b3 <;> exact ⟨_,rfl,fun _ _=>trivial,fun _ _=>trivial⟩) (fun _ _=>trivial) trivial
 rw [e1]
 simp only [zb]
 cases r <;> exact ⟨_,rfl⟩
theorem JY {B:Nat} {s:aa} (h:SzS B s) (hB:B≤1000000) (a b:ByteArray) (k:Int) : ∃ r,vx s a b k=some r:=by
 obtain ⟨u,hu⟩:=fp h hB a k
 obtain ⟨w,hw⟩:=fp h hB b k
 have k1:=h.nodes.1
 unfold vx
 simp only [hu,hw,nR s _ k h.conf (Nat.le_trans k1 hB),Mg,zb,dM,orB]
 exact ⟨_,rfl⟩
theorem nH {α : Type} (out:List α) (hl:out.length≤1000000) {f:Int→Option (Int⊕Int)} (h:∀ (k:Nat) (x : α),out[k]? = some x→∃ b,f (k:Int)=if b=true then some (.inl ((k + 1:Nat) : Int)) else some (.inr (k:Int)))
  (hend:f (out.length:Int)=some (.inr (out.length:Int))) : ∃ K:Nat,ah f ac 0=some (K:Int)∧K≤out.length:=by
 obtain ⟨r,h1,K,h2,h3⟩:=aM (f:=f) (fun st=>∃ k:Nat,st=(k:Int)∧k≤out.length) (fun st=>out.length - st.toNat) (fun r=>∃ k:Nat,r=(k:Int)∧k≤out.length) (fun st ⟨k,e,hk⟩=>by
  subst e
  by_cases hlt:k < out.length
  ·obtain ⟨b,hb⟩:=h k _ (zq hlt)
   rw [hb]
   cases b with
   | true=>exact .inl ⟨_,rfl,⟨k + 1,rfl,hlt⟩,by simp only [zt]; omega⟩
   | false=>exact .inr ⟨_,rfl,k,rfl,hk⟩
  ·have:k=out.length:=by omega
   subst this
   exact .inr ⟨_,hend,_,rfl,Nat.le_refl _⟩) ac 0 ⟨0,rfl,Nat.zero_le _⟩ (by have:=an hl; omega)
 subst h2
 exact ⟨K,h1,h3⟩
theorem mB {σ α τ : Type} {g : σ→Int→α→Option (σ⊕τ)} {fin : σ→τ} (I:Nat→σ→Prop) (Q : τ→Prop) : ∀ (l:List α) (k:Nat) (a : σ),(∀ (j:Nat) (a : σ) (x : α),l[j]? = some x→I (k + j) a→∃ o,g a ((k + j:Nat) : Int) x=some o∧(∀ a',o = .inl a'→I (k + j + 1) a')∧∀ r,o = .inr r→Q r)→(∀ a,I (k + l.length) a→Q (fin a))→I k a→∃ r,nC g fin a k l=some r∧Q r
 | [],k,a,_,hf,hI=>⟨fin a,rfl,hf a hI⟩
 | x::l,k,a,h,hf,hI=>by
  obtain ⟨o,h1,h2,h3⟩:=h 0 a x rfl hI
  simp only [Nat.add_zero] at h1
  simp only [nC,h1]
  cases o with
  | inr r=>exact ⟨r,rfl,h3 r rfl⟩
  | inl a' =>
   refine mB I Q l (k + 1) a' (fun j b y hy hb=>?_) (fun b hb=>hf b (by simpa [Nat.add_assoc,Nat.add_comm 1] using hb)) (h2 a' rfl)
   have:=h (j + 1) b y hy (by rwa [Nat.add_right_comm] at hb)
   rwa [Nat.add_right_comm k 1 j,Nat.add_assoc k j 1]
theorem MP {B:Nat} {s:aa} (h:SzS B s) (hB:B≤1000000) (p:ByteArray) (k:Int) : ∃ l r,ff s.bL p=some l∧zk s p k=some r∧r.length≤l.length∧∀ x∈r,x∈l:=by
 obtain ⟨l,h1,h2,h3⟩:=sG s.bL p h.conf.sz
 have k2:=h.conf.sz.queues
 have hl:l.length≤1000:=by omega
 unfold zk
 simp only [h1]
 dsimp only [zb]
 rw [zj l s k [] (by omega)]
 obtain ⟨r,e1,e2⟩:=mB (g:=gw l s k) (fin:=fun b=>(b,(l.length:Int))) (fun j b=>b.length≤j∧∀ x∈b,x∈l) (fun r=>r.1.length≤l.length∧∀ x∈r.1,x∈l) l 0 [] (fun j out x hx ⟨ho,hm⟩=>by
  have hj:=(zg.1 hx).1
  obtain ⟨K,hK1,hK2⟩:=nH out (by omega) (f:=jm out s ((0 + j:Nat) : Int) l k) (fun i y hy=>by
   have hi:=(zg.1 hy).1
   obtain ⟨b,hb⟩:=JY h hB x y k
   refine ⟨!b,?_⟩
   unfold jm
   simp only [ci hy,if_true,aN hy,aN (show l[0 + j]? = some x by rwa [Nat.zero_add]),hb,zb,bm hi (show out.length≤1000000 by omega)]) (by unfold jm; simp only [bU,zf,if_false,zb])
  unfold gw
  dsimp only
  rw [hK1]
  simp only [zb]
  rw [pm hK2]
  simp only [zb]
  rw [aD (by simp; omega)]
  simp only [zb]
  rw [aD (by simp; omega)]
  simp only [zb]
  rw [lh hK2]
  simp only [zb]
  rw [aD (by simp; omega)]
  refine ⟨_,rfl,fun a' e=>?_,fun r e=>by cases e⟩
  injection e with e
  subst e
  refine ⟨by simp; omega,fun y hy=>?_⟩
  simp only [List.nil_append,List.mem_append,List.mem_singleton] at hy
  rcases hy with (hy | rfl) | hy
  ·exact hm y (List.mem_of_mem_take hy)
  ·exact List.mem_of_getElem? hx
  ·exact hm y (List.mem_of_mem_drop hy)) (fun b ⟨hb,hm⟩=>⟨by simpa using hb,hm⟩) ⟨by simp,by simp⟩
 rw [e1]
 exact ⟨l,_,rfl,rfl,e2.1,e2.2⟩
theorem MQ {B:Nat} {s:aa} (h:SzS B s) (hB:B≤1000000) (q:ByteArray) : ∃ r,zo s q=some r∧r.length≤B∧∀ i∈r,∃ x∈s.ao,x.fId=i:=by
 have k1:=h.apps
 unfold zo
 dsimp only
 rw [zn s q [] (by omega)]
 obtain ⟨r,e1,e2⟩:=aV (g:=gy s q) (fin:=fun b=>(b,(s.ao.length:Int))) (fun j b=>b.length≤j∧∀ y∈b,y∈s.ao) (fun r=>r.1.length≤s.ao.length∧∀ y∈r.1,y∈s.ao) s.ao 0 [] (fun j out x hx ⟨ho,hm⟩=>by
  have hj:=(zg.1 hx).1
  unfold gy
  simp only [ft,zb,orB]
  split
  ·exact ⟨_,rfl,fun a' e=>by injection e with e; subst e; exact ⟨Nat.le_succ_of_le ho,hm⟩,fun r e=>by cases e⟩
  obtain ⟨K,hK1,hK2⟩:=nH out (by omega) (f:=jn out x) (fun i y hy=>by
   have hi:=(zg.1 hy).1
   refine ⟨decide (y.bD≥x.bD),?_⟩
   unfold jn
   simp only [ci hy,if_true,aN hy,zb,bm hi (show out.length≤1000000 by omega)]) (by unfold jn; simp only [bU,zf,if_false,zb])
  rw [hK1]
  simp only [zb]
  rw [pm hK2]
  simp only [zb]
  rw [aD (by simp; omega)]
  simp only [zb]
  rw [aD (by simp; omega)]
  simp only [zb]
  rw [lh hK2]
  simp only [zb]
  rw [aD (by simp; omega)]
  refine ⟨_,rfl,fun a' e=>?_,fun r e=>by cases e⟩
  injection e with e
  subst e
  refine ⟨by show (([] ++ out.take K ++ [x])++out.drop K).length≤0 + j + 1; simp; omega,fun y hy=>?_⟩
  simp only [List.nil_append,List.mem_append,List.mem_singleton] at hy
  rcases hy with (hy | rfl) | hy
  ·exact hm y (List.mem_of_mem_take hy)
  ·exact List.mem_of_getElem? hx
  ·exact hm y (List.mem_of_mem_drop hy)) (fun b ⟨hb,hm⟩=>⟨by simpa using hb,hm⟩) ⟨by simp,by simp⟩
 rw [e1]
 simp only [zb]
 have e:gx r.1=fun acc (x:az)=>if true=true then (aW acc [x.fId]).map (fun a=>(.inl a:List Int⊕(List Int×Int))) else some (.inl acc):=by
  funext acc x
  unfold gx
  simp only [if_true]
  cases aW acc [x.fId] <;> rfl
 have e3:=e2.1
 rw [zl r.1 [] (by omega),e,cj (fun _=>true) az.fId _ r.1 [] (by simp; omega)]
 refine ⟨_,rfl,?_,fun i hi=>?_⟩
 ·have hf:=List.length_filter_le (fun _:az=>true) r.1
  rw [List.nil_append,List.length_map]
  omega
 ·rw [List.nil_append,List.mem_map] at hi
  obtain ⟨y,hy,e4⟩:=hi
  exact ⟨y,e2.2 y (List.mem_filter.1 hy).1,e4⟩
theorem BF:∀ (n:Nat) (p:ByteArray),dz n p < n→dz (n + 1) p=dz n p
 | 0,_,h=>absurd h (Nat.not_lt_zero _)
 | n + 1,p,h=>by
  unfold dz at h ⊢
  split
  ·rfl
  ·rename_i h0
   rw [if_neg h0] at h
   rw [BF n _ (by omega)]
theorem Hq {x p:ByteArray} (hx:d6 x=some p) (hp : 0 < p.size) (xs:x.size≤1000000) (hd:dz 6 x≤4) : dz 6 p + 1=dz 6 x:=by
 obtain ⟨r,h1,h2⟩:=nS x xs
 rw [hx] at h1
 injection h1 with h1
 subst h1
 have e:dz 6 x=dz 5 p + 1:=by
  show (if x.size=0 then 0 else dz 5 (eX x) + 1) = _
  rw [if_neg (by omega)]
  unfold eX
  rw [hx]
  rfl
 rw [e] at hd ⊢
 rw [BF 5 p (by omega)]
theorem BJ (c:ay) (p:ByteArray) (h:SzC c) {l:List ByteArray} (hl:ff c p=some l) : ∀ x∈l,(∃ q∈c.ae,q.aK=x)∧d6 x=some p∧0 < p.size:=by
 unfold ff at hl
 have hs:=jz c p [] (by have:=h.queues; omega)
 dsimp only at hl
 rw [hs] at hl
 obtain ⟨r,h1,h2⟩:=aV (g:=cw c p) (fin:=fun a=>(a,(c.ae.length:Int))) (fun k a=>a.length≤k∧∀ x∈a,(∃ q∈c.ae,q.aK=x)∧d6 x=some p∧0 < p.size) (fun r=>∀ x∈r.1,(∃ q∈c.ae,q.aK=x)∧d6 x=some p∧0 < p.size) c.ae 0 [] (fun j a x hx ⟨h1,h2⟩=>by
  have hm:=List.mem_of_getElem? hx
  have hj:=(zg.1 hx).1
  obtain ⟨r,hr,_⟩:=nS x.aK (h.paths x hm)
  have hqs:=h.queues
  unfold cw
  simp only [hr,zb,dM]
  split
  ·rename_i hc
   rw [Bool.and_eq_true] at hc
   rw [aD (by simp; omega)]
   refine ⟨_,rfl,fun a' e=>?_,fun r e=>by cases e⟩
   injection e with e
   subst e
   refine ⟨by simp; omega,fun y hy=>?_⟩
   simp only [List.mem_append,List.mem_singleton] at hy
   rcases hy with hy | rfl
   ·exact h2 y hy
   ·exact ⟨⟨x,hm,rfl⟩,by rw [hr,ru hc.2],ql hc.1⟩
  ·refine ⟨_,rfl,fun a' e=>?_,fun r e=>by cases e⟩
   injection e with e
   subst e
   exact ⟨by omega,h2⟩) (fun a ⟨h1,h2⟩=>h2) ⟨by simp,by simp⟩
 rw [h1] at hl
 injection hl with hl
 subst hl
 exact h2
def ye (self:aa→ByteArray→Int→Option (List ByteArray)) (s:aa) (k:Int) (out:List ByteArray) (x:ByteArray) : Option (List ByteArray⊕(List ByteArray×Int)) :=
 (self s x k).bind fun c=>(aW out c).bind fun b=>some (.inl b)
theorem K2 (self:aa→ByteArray→Int→Option (List ByteArray)) (l:List ByteArray) (s:aa) (k:Int) (hl:l.length≤1000000) : ah (jH self l s k) ac ([],0)=bl (ye self s k) (fun a=>(a,(l.length:Int))) [] l :=
 ax l (S:=List ByteArray×Int) (fun a k=>(a,k)) (ye self s k) (fun a=>(a,(l.length:Int))) (an hl) (fun i a x hx=>by
  have hk:=(zg.1 hx).1
  unfold jH ye
  simp only [ci hx,if_true,aN hx,zb,bm hk hl,GW,Option.map_some])
  (fun a=>by unfold jH; exact cA) []
theorem we {B:Nat} {s:aa} (h:SzS B s) (hD:Deep s.bL) (hB:B≤1000000) (k:Int) : ∀ (d n:Nat) (p:ByteArray),4 - dz 6 p≤d→d < n→d≤4→∃ r,jl n s p k=some r∧r.length≤16 ^ d
 | d,0,p,_,hn,_=>absurd hn (Nat.not_lt_zero _)
 | d,n + 1,p,hp,hn,hd=>by
  obtain ⟨l,m,h1,h2,h3,h4⟩:=MP h hB p k
  obtain ⟨l',e1,e2,_⟩:=sG s.bL p h.conf.sz
  rw [h1] at e1
  injection e1 with e1
  subst e1
  have hq:=hD.few
  unfold jl
  simp only [h2,zb]
  split
  ·exact ⟨_,rfl,by show 1≤16 ^ d; exact Nat.one_le_pow _ _ (by omega)⟩
  ·rename_i hne
   have hm : 0 < m.length:=by
    rcases Nat.eq_zero_or_pos m.length with h0 | h0
    ·rw [h0] at hne; exact absurd rfl hne
    ·exact h0
   have kid:=BJ s.bL p h.conf.sz h1
   have kd:∀ x∈m,dz 6 p + 1=dz 6 x∧dz 6 x≤4:=fun x hx=>by
    obtain ⟨⟨q,hq1,hq2⟩,a1,a2⟩:=kid x (h4 x hx)
    subst hq2
    exact ⟨Hq a1 a2 (h.conf.sz.paths q hq1) (hD.deep q hq1),hD.deep q hq1⟩
   have hd0 : 0 < d:=by
    obtain ⟨a1,a2⟩:=kd m[0] (List.getElem_mem hm)
    omega
   obtain ⟨d',rfl⟩ : ∃ d',d=d' + 1:=⟨d - 1,by omega⟩
   have hpow : 16 ^ d'≤16 ^ 3:=Nat.pow_le_pow_right (by omega) (by omega)
   rw [K2 _ m s k (by omega)]
   obtain ⟨r,r1,r2⟩:=aV (g:=ye (jl n) s k) (fin:=fun a=>(a,(m.length:Int))) (fun j a=>a.length≤j * 16 ^ d') (fun r=>r.1.length≤m.length * 16 ^ d') m 0 [] (fun j a x hx ha=>by
    have hj:=(zg.1 hx).1
    obtain ⟨a1,a2⟩:=kd x (List.mem_of_getElem? hx)
    obtain ⟨c,c1,c2⟩:=we h hD hB k d' n x (by omega) (by omega) (by omega)
    have hj2:(0 + j) * 16 ^ d'≤16 * 16 ^ 3:=Nat.mul_le_mul (by omega) hpow
    unfold ye
    rw [c1]
    simp only [zb]
    rw [aD (by omega)]
    refine ⟨_,rfl,fun a' e=>?_,fun r e=>by cases e⟩
    injection e with e
    subst e
    rw [List.length_append,Nat.succ_mul]
    omega) (fun a ha=>by simpa using ha) (by simp)
   rw [r1]
   refine ⟨_,rfl,Nat.le_trans r2 ?_⟩
   rw [Nat.pow_succ,Nat.mul_comm]
   exact Nat.mul_le_mul_left _ (by omega)
theorem Gn {B:Nat} {s:aa} (h:SzS B s) (hD:Deep s.bL) (hB:B≤1000000) (k:Int) : ∃ r,sP s k=some r∧r.length≤65536:=by
 obtain ⟨r,h1,h2⟩:=we h hD hB k 4 ac ⟨#[114,111,111,116]⟩ (by omega) (by unfold ac; omega) (by omega)
 unfold sP
 rw [h1]
 exact ⟨_,rfl,h2⟩
def Ok {α : Type} (o:Option α) (P : α→Prop) : Prop:=∃ r,o=some r∧P r
theorem Ok.bind {α β : Type} {o:Option α} {f : α→Option β} {P : α→Prop} {Q : β→Prop} (h1:Ok o P) (h2:∀ r,P r→Ok (f r) Q) : Ok (Option.bind o f) Q:=by
 obtain ⟨r,e,hr⟩:=h1
 rw [e]
 exact h2 r hr
theorem Ok.ite {α : Type} {c:Prop} [Decidable c] {a b:Option α} {Q : α→Prop} (h1:c→Ok a Q) (h2 : ¬c→Ok b Q) : Ok (if c then a else b) Q:=by
 by_cases h:c
 ·rw [if_pos h]; exact h1 h
 ·rw [if_neg h]; exact h2 h
theorem Ok.pure {α : Type} {a : α} {Q : α→Prop} (h:Q a) : Ok (some a) Q:=⟨a,rfl,h⟩
theorem Ok.weak {α : Type} {o:Option α} {P Q : α→Prop} (h:Ok o P) (hq:∀ r,P r→Q r) : Ok o Q:=by
 obtain ⟨r,e,hr⟩:=h
 exact ⟨r,e,hq r hr⟩
theorem Df {σ α τ : Type} {g : σ→α→Option (σ⊕τ)} {fin : σ→τ} (I:Nat→σ→Prop) (l:List α) (a : σ) (h:∀ (j:Nat) (a : σ) (x : α),l[j]? = some x→I j a→Ok (g a x) (fun o=>∃ a',o = .inl a'∧I (j + 1) a')) (hI:I 0 a) : Ok (bl g fin a l) (fun r=>∃ a',r=fin a'∧I l.length a'):=by
 refine aV I _ l 0 a (fun j a x hx ha=>?_) (fun a ha=>⟨a,rfl,by simpa using ha⟩) hI
 obtain ⟨o,e,a',h1,h2⟩:=h j a x hx (by simpa using ha)
 subst h1
 exact ⟨_,e,fun a'' e=>(by injection e with e; subst e; simpa using h2),fun r e=>(by cases e)⟩
theorem tB {σ α τ : Type} {g : σ→Int→α→Option (σ⊕τ)} {fin : σ→τ} (I:Nat→σ→Prop) (l:List α) (a : σ) (h:∀ (j:Nat) (a : σ) (x : α),l[j]? = some x→I j a→Ok (g a (j:Int) x) (fun o=>∃ a',o = .inl a'∧I (j + 1) a')) (hI:I 0 a) : Ok (nC g fin a 0 l) (fun r=>∃ a',r=fin a'∧I l.length a'):=by
 refine mB I _ l 0 a (fun j a x hx ha=>?_) (fun a ha=>⟨a,rfl,by simpa using ha⟩) hI
 obtain ⟨o,e,a',h1,h2⟩:=h j a x hx (by simpa using ha)
 subst h1
 exact ⟨_,by simpa using e,fun a'' e=>(by injection e with e; subst e; simpa using h2),fun r e=>(by cases e)⟩
theorem ka {α : Type} {l:List α} {i:Int} (h0 : 0≤i) (h1:i < (l.length:Int)) : Ok (aw l i) (fun x=>x∈l):=by
 obtain ⟨x,h⟩:=IY h0 h1
 exact ⟨x,h.1,h.2⟩
theorem Iq {a n:Int} (hn : 0 < n) : -n < a.tmod n∧a.tmod n < n:=by
 constructor
 ·have:=Int.lt_tmod_of_pos a hn; omega
 ·exact Int.tmod_lt_of_pos a hn
def eM (v_s:aa) (cm:Int) (st:(List bt)) (x_:bt) : Option (((List bt))⊕(((List bt)×Int))) :=
 let v_l:=st
 if (x_.bf != cm)=true then
 (aW v_l [x_]).bind fun b4=>let v_l:(List bt):=b4
 some (.inl v_l)
 else
 some (.inl v_l)
theorem vP (v_s:aa) (cm:Int) (a_:(List bt)) (hl:v_s.aR.length≤1000000) : ah (jG v_s cm) ac (a_,(0))=bl (eM v_s cm) (fun a_=>(a_,((v_s.aR.length:Int)))) a_ v_s.aR :=
 ax v_s.aR (S:=(List bt)×Int) (fun a_ k_=>(a_,(k_))) (eM v_s cm) (fun a_=>(a_,((v_s.aR.length:Int)))) (an hl) (fun k a x hx=>by
  unfold jG eM; exact bE)
  (fun a=>by unfold jG; exact cA) a_
def jE (v_s:aa) (cm:Int) (st:Unit) (x_:bt) : Option ((Unit)⊕((Int)⊕(bt×Bool))) :=
 if (x_.bf==cm)=true then
 some (.inr (.inr (x_,true)))
 else
 some (.inl ())
theorem y6 (v_s:aa) (cm:Int) (a_:Unit) (hl:v_s.aR.length≤1000000) : ah (lU v_s cm) ac (0)=bl (jE v_s cm) (fun a_=>(.inl ((v_s.aR.length:Int)))) a_ v_s.aR :=
 ax v_s.aR (S:=Int) (fun a_ k_=>(k_)) (jE v_s cm) (fun a_=>(.inl ((v_s.aR.length:Int)))) (an hl) (fun k a x hx=>by
  unfold lU jE; exact bE)
  (fun a=>by unfold lU; exact cA) a_
def fo (v_s:aa) (eY:Int) (cC:Int) (st:Unit) (x_:bt) : Option ((Unit)⊕((Int)⊕(Bool))) :=
 (if (x_.bz==eY)=true then some (x_.bD==cC) else some false).bind fun q4=>if q4=true then
 some (.inr (.inr true))
 else
 some (.inl ())
theorem xo (v_s:aa) (eY:Int) (cC:Int) (a_:Unit) (hl:v_s.aR.length≤1000000) : ah (kq v_s eY cC) ac (0)=bl (fo v_s eY cC) (fun a_=>(.inl ((v_s.aR.length:Int)))) a_ v_s.aR :=
 ax v_s.aR (S:=Int) (fun a_ k_=>(k_)) (fo v_s eY cC) (fun a_=>(.inl ((v_s.aR.length:Int)))) (an hl) (fun k a x hx=>by
  unfold kq fo; exact bE)
  (fun a=>by unfold kq; exact cA) a_
theorem Dl {α : Type} (key : α→Int) (a : α) : cM key [] a = [a]:=rfl
theorem kM {α : Type} (key : α→Int) (x : α) (l:List α) (a : α) : cM key (x::l) a=if key x < key a then x::cM key l a else if key x=key a then a::l else a::x::l:=by
 unfold cM
 by_cases h:key x < key a
 ·rw [if_pos h]
  have hd:decide (key x < key a)=true:=by simpa using h
  simp only [List.takeWhile_cons,hd,if_true,List.length_cons,List.take_succ_cons,List.getElem?_cons_succ,List.cons_append]
  generalize (l.takeWhile fun x=>decide (key x < key a)).length=K
  cases l[K]? with
  | none=>rfl
  | some y =>
   dsimp only
   split <;> rfl
 ·rw [if_neg h]
  have hd:decide (key x < key a)=false:=by simpa using h
  simp only [List.takeWhile_cons,hd,zf,if_false,List.length_nil,List.take_zero,List.nil_append,List.getElem?_cons_zero,Nat.zero_add]
  by_cases he:key x=key a
  ·rw [if_pos he]
   have hb:(key x==key a)=true:=by simpa using he
   simp [hb]
  ·rw [if_neg he]
   have hb:(key x==key a)=false:=by simpa using he
   simp [hb]
theorem iz {α : Type} (key : α→Int) (a : α) : ∀ l:List α,jV key l→(∃ x∈l,key x=key a)→(cM key l a).length=l.length
 | [],_,⟨x,hx,_⟩=>by cases hx
 | y::l,hs,⟨x,hx,he⟩=>by
  have hs':=List.pairwise_cons.1 hs
  rw [kM]
  split
  ·rename_i h
   rcases List.mem_cons.1 hx with rfl | hx
   ·omega
   ·rw [List.length_cons,List.length_cons,iz key a l hs'.2 ⟨x,hx,he⟩]
  ·split
   ·rfl
   ·rename_i h1 h2
    rcases List.mem_cons.1 hx with rfl | hx
    ·exact absurd he h2
    ·have:=hs'.1 x hx
     omega
theorem gO {α : Type} (key : α→Int) (a : α) : ∀ l:List α,jV key l→jV key (cM key l a)
 | [],_=>List.pairwise_singleton _ _
 | y::l,hs=>by
  have hs':=List.pairwise_cons.1 hs
  rw [kM]
  split
  ·rename_i h
   refine List.pairwise_cons.2 ⟨fun x hx=>?_,gO key a l hs'.2⟩
   rcases pk hx with rfl | hx
   ·exact h
   ·exact hs'.1 x hx
  ·split
   ·rename_i h1 h2
    exact List.pairwise_cons.2 ⟨fun x hx=>by have:=hs'.1 x hx; omega,hs'.2⟩
   ·rename_i h1 h2
    refine List.pairwise_cons.2 ⟨fun x hx=>?_,hs⟩
    rcases List.mem_cons.1 hx with rfl | hx
    ·omega
    ·have:=hs'.1 x hx; omega
theorem Dn {α : Type} (key : α→Int) (a : α) (i:Int) : ∀ l:List α,(∃ x∈l,key x=i)→∃ x∈cM key l a,key x=i
 | [],⟨x,hx,_⟩=>by cases hx
 | y::l,⟨x,hx,he⟩=>by
  rw [kM]
  split
  ·rcases List.mem_cons.1 hx with rfl | hx
   ·exact ⟨x,List.mem_cons_self,he⟩
   ·obtain ⟨z,hz,hz2⟩:=Dn key a i l ⟨x,hx,he⟩
    exact ⟨z,List.mem_cons_of_mem _ hz,hz2⟩
  ·split
   ·rename_i h1 h2
    rcases List.mem_cons.1 hx with rfl | hx
    ·exact ⟨a,List.mem_cons_self,by omega⟩
    ·exact ⟨x,List.mem_cons_of_mem _ hx,he⟩
   ·exact ⟨x,List.mem_cons_of_mem _ hx,he⟩
theorem SzS.putIn {B:Nat} {s:aa} (h:SzS B s) (hs:jV az.fId s.ao) {a:az} (hi:∃ x∈s.ao,x.fId=a.fId) (ha:SzA B a) : SzS B { s with ao:=cM az.fId s.ao a } :=
 ⟨h.conf,h.nodes,by show (cM _ _ _).length≤B; rw [iz _ _ _ hs hi]; exact h.apps,h.conts,h.slots,h.plans,fun x hx=>by
  rcases pk hx with rfl | hx
  ·exact ha
  ·exact h.app x hx⟩
def Up (a:aJ) (n:aB) : Int:=(mX a n).getD 0
theorem zh (a:aJ) (n:aB) : mX a n=some (Up a n):=by
 have:∃ r,mX a n=some r:=by
  unfold mX
  simp only [dM,orB,zb]
  repeat' split
  all_goals exact ⟨_,rfl⟩
 obtain ⟨r,e⟩:=this
 unfold Up
 rw [e]
 rfl
def YN (a:aJ) (n:aB) : Bool:=(sO a n).getD false
theorem Fo (a:aJ) (n:aB) : sO a n=some (YN a n):=by
 have:∃ r,sO a n=some r:=by
  unfold sO
  simp only [zh,zb]
  repeat' split
  all_goals exact ⟨_,rfl⟩
 obtain ⟨r,e⟩:=this
 unfold YN
 rw [e]
 rfl
theorem Fk {B:Nat} {s:aa} (h:SzS B s) (hB:B≤1000000) (q:ByteArray) (a:aJ) : ∃ r,za s q a=some r:=by
 obtain ⟨u,hu⟩:=fp h hB q a.a8
 have k2:=h.nodes.1
 unfold za
 simp only [hu,dP,nR s _ _ h.conf (Nat.le_trans k2 hB),gV,zb]
 exact ⟨_,rfl⟩
theorem BQ {B:Nat} {s:aa} (h:SzS B s) (hB:B≤1000000) (q:ByteArray) (k u:Int) : ∃ r,uC s q k u=some r:=by
 obtain ⟨v,hv⟩:=Ci h hB q k u
 have k2:=h.nodes.1
 unfold uC
 simp only [hv,Oh s _ _ h.conf (Nat.le_trans k2 hB),gV,zb]
 exact ⟨_,rfl⟩
theorem SzS.slot {B:Nat} {s:aa} (h:SzS B s) {l:List bt} (hl:l.length≤B) : SzS B { s with aR:=l } := ⟨h.conf,h.nodes,h.apps,h.conts,hl,h.plans,h.app⟩
theorem SzS.cont {B:Nat} {s:aa} (h:SzS B s) {l:List ai} (hl:l.length≤B) : SzS B { s with ab:=l } := ⟨h.conf,h.nodes,h.apps,hl,h.slots,h.plans,h.app⟩
theorem SzS.seq {B:Nat} {s:aa} (h:SzS B s) (n:Int) : SzS B { s with lu:=n } := ⟨h.conf,h.nodes,h.apps,h.conts,h.slots,h.plans,h.app⟩
theorem wd (s:aa) (n:Int) (hl:s.aR.length≤1000000) : dU s n=some { s with aR:=s.aR.filter fun c=>c.bf != n } := by
 unfold dU
 dsimp only
 have e:eM s n=fun acc x=>if (x.bf != n)=true then (aW acc [id' x]).map (fun a=>(.inl a:List bt⊕(List bt×Int))) else some (.inl acc):=by
  funext acc x
  unfold eM
  dsimp only [id']
  split
  ·cases aW acc [x] <;> rfl
  ·rfl
 rw [vP s n [] hl,e,cj (fun c:bt=>c.bf != n) id' _ s.aR [] (by simpa using hl)]
 simp only [zb,List.nil_append,yb]
theorem MC (s:aa) (n:Int) (hl:s.aR.length≤1000000) : ∃ r,y7 s n=some r:=by
 unfold y7
 dsimp only
 rw [y6 s n () hl,show jE s n=fun (_:Unit) x=>if (x.bf==n)=true then some (.inr (.inr (x,true))) else some (.inl ()) from rfl,
  kK (fun x:bt=>x.bf==n) (fun x=>(Sum.inr (x,true) : Int⊕bt×Bool)) (.inl (s.aR.length:Int)) s.aR]
 simp only [zb]
 cases s.aR.find? fun x=>x.bf==n <;> exact ⟨_,rfl⟩
theorem JV (s:aa) (a p:Int) (hl:s.aR.length≤1000000) : ∃ r,vu s a p=some r:=by
 unfold vu
 dsimp only
 rw [xo s a p () hl]
 obtain ⟨r,e1,_⟩:=aV (g:=fo s a p) (fin:=fun _=>(.inl (s.aR.length:Int))) (fun _ _=>True) (fun _=>True) s.aR 0 () (fun j b x hx _=>by
  unfold fo
  simp only [dM,zb]
  split <;> exact ⟨_,rfl,fun _ _=>trivial,fun _ _=>trivial⟩) (fun _ _=>trivial) trivial
 rw [e1]
 simp only [zb]
 cases r <;> exact ⟨_,rfl⟩
theorem MI {B:Nat} {s:aa} (h:SzS B s) (hB:B + 1≤1000000) (x:bt) : ∃ r,nY s x=some r∧SzS (B + 1) r∧r.ao=s.ao:=by
 have k1:=h.slots
 obtain ⟨K,hK1,hK2⟩:=nH s.aR (by omega) (f:=lV s x) (fun i y hy=>by
  have hi:=(zg.1 hy).1
  refine ⟨decide (y.bf < x.bf),?_⟩
  unfold lV
  simp only [ci hy,if_true,aN hy,zb,bm hi (show s.aR.length≤1000000 by omega)]) (by unfold lV; simp only [bU,zf,if_false,zb])
 unfold nY
 dsimp only
 rw [hK1]
 simp only [zb]
 rw [pm hK2]
 simp only [zb]
 rw [aD (by simp; omega)]
 simp only [zb]
 rw [aD (by simp; omega)]
 simp only [zb]
 rw [lh hK2]
 simp only [zb]
 rw [aD (by simp; omega)]
 exact ⟨_,rfl,(h.mono (Nat.le_succ _)).slot (by simp; omega),rfl⟩
theorem y9 {B:Nat} {s:aa} (h:SzS B s) (hB:B + 2≤1000000) (n:aB) {a:az} (ha:SzA B a) (x:aJ) : ∃ r,jF s n a x=some r∧SzS (B + 2) r.1∧(jV az.fId s.ao→jV az.fId r.1.ao):=by
 have k1:=h.conts; have k2:=h.apps; have k3:=ha.asks; have k4:=ha.grants
 obtain ⟨t,t1,t2⟩:=N9 a.bQ x.bD (by omega)
 unfold jF
 simp only [t1,zb]
 generalize hc:(⟨_,a.fId,n.fId,x.bu,x.bD,n.a8,(a.ef==1),0⟩ : ai)=c
 have hs:SzS B { s with lu:=i64.wrap (s.lu + 1) } := h.seq _
 generalize hS:({ s with lu:=i64.wrap (s.lu + 1) } : aa)=S at hs ⊢
 have hcl:S.ab=s.ab:=by rw [← hS]
 have hal:S.ao=s.ao:=by rw [← hS]
 have fin:∀ b:az,SzA (B + 1) b→∃ r,(Option.bind (ah (ir S c) ac 0) fun r11=>Option.bind (hiO s.ab r11) fun b12=>Option.bind (aW ([] : List ai) b12) fun b13=>Option.bind (aW b13 [c]) fun b14=>Option.bind (loO s.ab r11) fun b15=>Option.bind (aW b14 b15) fun b16=>Option.bind (cZ { s with ab:=b16,lu:=i64.wrap (s.lu + 1) } b) fun c17=>some (c17,c))=some r∧SzS (B + 2) r.1∧(jV az.fId s.ao→jV az.fId r.1.ao):=by
  intro b hb
  obtain ⟨K,hK1,hK2⟩:=nH s.ab (by omega) (f:=ir S c) (fun i y hy=>by
   have hi:=(zg.1 hy).1
   refine ⟨decide (y.fId < c.fId),?_⟩
   unfold ir
   simp only [hcl,ci hy,if_true,aN hy,zb,bm hi (show s.ab.length≤1000000 by omega)]) (by unfold ir; simp only [hcl,bU,zf,if_false,zb])
  rw [hK1]
  simp only [zb]
  rw [pm hK2]
  simp only [zb]
  rw [aD (by simp; omega)]
  simp only [zb]
  rw [aD (by simp; omega)]
  simp only [zb]
  rw [lh hK2]
  simp only [zb]
  rw [aD (by simp; omega)]
  simp only [zb]
  rw [kI _ _ (by show s.ao.length + 1≤_; omega)]
  refine ⟨_,rfl,?_⟩
  have hlen:(([] ++ s.ab.take K ++ [c])++s.ab.drop K).length≤B + 1:=by simp; omega
  have h2:SzS (B + 1) { s with ab:=([] ++ s.ab.take K ++ [c])++s.ab.drop K,lu:=i64.wrap (s.lu + 1) } := by
   have hm:=h.mono (Nat.le_succ B)
   exact ⟨hm.conf,hm.nodes,hm.apps,hlen,hm.slots,hm.plans,hm.app⟩
  exact ⟨h2.put (hb.mono (Nat.le_succ _)),fun hs=>gO _ _ _ hs⟩
 have ha1:=ha.mono (Nat.le_succ B)
 split
 ·simp only [zb]
  refine fin _ ?_
  exact ⟨⟨ha1.queue.1,h.nodes.2.2.1.1,h.nodes.2.2.1.2,ha1.queue.2.2.2⟩,Nat.zero_le _,ha1.grants,ha1.kills,ha1.told,ha1.lost⟩
 ·rw [aD (by simp; omega)]
  simp only [zb]
  rw [aD (by simp; omega)]
  simp only [zb]
  refine fin _ ?_
  exact ⟨ha1.queue,by show t.1.length≤_; omega,by simp; omega,ha1.kills,ha1.told,ha1.lost⟩
def zJ (B:Nat) (s t:aa) : Prop:=SzS B t∧jV az.fId t.ao∧∀ i,(∃ x∈s.ao,x.fId=i)→∃ x∈t.ao,x.fId=i
theorem Pk {B:Nat} {s:aa} (h:SzS B s) (hs:jV az.fId s.ao) (hB:B + 2≤1000000) (n:aB) {a:az} (hi:∃ x∈s.ao,x.fId=a.fId) (ha:SzA B a) (x:aJ) (first:Bool) : ∃ r,qx s n a x first=some r∧SzS (B + 2) r.1∧jV az.fId r.1.ao∧(r.2.1=0→zJ B s r.1):=by
 have k1:=h.apps; have k2:=h.slots; have k3:=ha.asks; have k4:=h.conts; have k5:=h.nodes.1
 have stay:zJ B s s:=⟨h,hs,fun _ e=>e⟩
 have h2:=h.mono (show B≤B + 2 by omega)
 obtain ⟨d,hd⟩:=Fk h (by omega) a.bO x
 obtain ⟨m,hm,hm2⟩:=Oa a.bQ x.bD (by omega)
 obtain ⟨o,ho⟩:=BW h (by omega) a.bO ha.queue.1 n.a8 x.bu
 obtain ⟨g,hg,hg2,hg3⟩:=y9 h hB n ha x
 obtain ⟨p,hp⟩:=JV s a.fId x.bD (by omega)
 obtain ⟨q,hq,hq2,hq3⟩:=MI h (by omega) (⟨n.fId,a.fId,x.bD⟩ : bt)
 have hput:∃ t,cZ s { a with bQ:=m } = some t∧zJ B s t:=by
  refine ⟨_,kI s _ (by omega),h.putIn hs hi ⟨ha.queue,by show m.length≤B; omega,ha.grants,ha.kills,ha.told,ha.lost⟩,gO _ _ _ hs,fun i e=>Dn _ _ i _ e⟩
 obtain ⟨t,ht,ht2⟩:=hput
 unfold qx
 simp only [hd,zh,Fo,gV,orB,dM,zb,hm,ht,ho,hg,hp,hq,sC s n.fId (show s.ar.length≤1000000 by omega) (show s.ab.length≤1000000 by omega)]
 split
 ·exact ⟨_,rfl,h2,hs,fun _=>stay⟩
 split
 ·split
  ·exact ⟨_,rfl,ht2.1.mono (by omega),ht2.2.1,fun _=>ht2⟩
  ·exact ⟨_,rfl,h2,hs,fun _=>stay⟩
 split
 ·exact ⟨_,rfl,h2,hs,fun _=>stay⟩
 split
 ·exact ⟨_,rfl,hg2,hg3 hs,fun e=>absurd (show (1:Int)=0 from e) (by decide)⟩
 split
 ·exact ⟨_,rfl,hq2.mono (by omega),by show jV _ q.ao; rw [hq3]; exact hs,fun e=>absurd (show (2:Int)=0 from e) (by decide)⟩
 ·exact ⟨_,rfl,h2,hs,fun _=>stay⟩
theorem UA {s:aa} {id:Int} (h:∃ x∈s.ao,x.fId=id) : ca s id∈s.ao∧(ca s id).fId=id:=by
 obtain ⟨x,hx,e⟩:=h
 unfold ca
 cases hf:s.ao.find? fun c=>c.fId==id with
 | none =>
  have:=List.find?_eq_none.1 hf x hx
  simp [e] at this
 | some a =>
  have h2:=List.find?_some hf
  exact ⟨List.mem_of_find?_eq_some hf,by simpa using h2⟩
def zL (B:Nat) (t:aa) : Prop:=SzS (B + 2) t∧jV az.fId t.ao
theorem Rm {B:Nat} {s:aa} (h:SzS B s) (hs:jV az.fId s.ao) (hB:B + 2≤1000000) (n:aB) (l:List aJ) (a:az) (hl:a.bQ=l) (hl2:l.length≤B) (ids:List Int) (hI:∀ i∈ids,∃ x∈s.ao,x.fId=i) (j:Nat) (id:Int) (hj:ids[j]? = some id) (first:Bool) : ∃ r,ah (dQ a (j:Int) ids n first) ac (s,0)=some r∧(match r with | .inl m=>zJ B s m.1 | .inr m=>zL B m.1):=by
 refine aM (fun st=>zJ B s st.1∧∃ k:Nat,st.2=(k:Int)∧k≤l.length) (fun st=>l.length - st.2.toNat) _ (fun st ⟨⟨q1,q2,q3⟩,k,h1,h2⟩=>?_) ac (s,0) ⟨⟨h,hs,fun _ e=>e⟩,0,rfl,Nat.zero_le _⟩ (by have:=an (show l.length≤1000000 by omega); omega)
 have k1:=q1.apps
 unfold dQ
 simp only [h1,hl]
 by_cases hlt:k < l.length
 ·have g1:l[k]? = some l[k]:=zq hlt
  have g2:=UA (q3 id (hI id (List.mem_of_getElem? hj)))
  obtain ⟨r,r1,r2,r3,r4⟩:=Pk q1 q2 hB n (a:=ca st.1 id) ⟨_,g2.1,rfl⟩ (q1.get id) l[k] first
  simp only [ci g1,if_true,aN g1,aN hj,ei st.1 id (by omega),r1,zb,bm hlt (show l.length≤1000000 by omega)]
  split
  ·exact .inr ⟨_,rfl,r2,r3⟩
  ·rename_i hne
   have h0:r.2.1=0:=by simpa using hne
   obtain ⟨t1,t2,t3⟩:=r4 h0
   exact .inl ⟨_,rfl,⟨⟨t1,t2,fun i e=>t3 i (q3 i e)⟩,k + 1,rfl,hlt⟩,by simp only [zt]; omega⟩
 ·have:k=l.length:=by omega
  subst this
  simp only [bU,zf,if_false]
  exact .inr ⟨_,rfl,q1,q2,q3⟩
theorem Rn {B:Nat} {s:aa} (h:SzS B s) (hs:jV az.fId s.ao) (hB:B + 2≤1000000) (n:aB) (ids:List Int) (hI:∀ i∈ids,∃ x∈s.ao,x.fId=i) (hI2:ids.length≤1000000) (lv:List ByteArray) (i:Nat) (q:ByteArray) (hi:lv[i]? = some q) (first:Bool) : ∃ r,ah (dR ids (i:Int) lv n first) ac (s,0)=some r∧(match r with | .inl m=>zJ B s m.1 | .inr m=>zL B m.1):=by
 refine aM (fun st=>zJ B s st.1∧∃ k:Nat,st.2=(k:Int)∧k≤ids.length) (fun st=>ids.length - st.2.toNat) _ (fun st ⟨⟨q1,q2,q3⟩,k,h1,h2⟩=>?_) ac (s,0) ⟨⟨h,hs,fun _ e=>e⟩,0,rfl,Nat.zero_le _⟩ (by have:=an hI2; omega)
 have k1:=q1.apps
 unfold dR
 simp only [h1]
 by_cases hlt:k < ids.length
 ·have g1:ids[k]? = some ids[k]:=zq hlt
  obtain ⟨m,hm⟩:=BQ q1 (by omega) q n.a8 (ca st.1 ids[k]).eh
  simp only [ci g1,if_true,aN g1,aN hi,ei st.1 _ (show st.1.ao.length≤1000000 by omega),hm,zb,bm hlt hI2]
  split
  ·exact .inl ⟨_,rfl,⟨⟨q1,q2,q3⟩,k + 1,rfl,hlt⟩,by simp only [zt]; omega⟩
  ·have ha:=(q1.get ids[k]).asks
   obtain ⟨r,r1,r2⟩:=Rm q1 q2 hB n _ (ca st.1 ids[k]) rfl ha ids (fun i hi=>q3 i (hI i hi)) k _ g1 first
   rw [r1]
   simp only [zb]
   cases r with
   | inr m=>exact .inr ⟨_,rfl,r2⟩
   | inl m =>
    obtain ⟨t1,t2,t3⟩:=r2
    exact .inl ⟨_,rfl,⟨⟨t1,t2,fun i e=>t3 i (q3 i e)⟩,k + 1,rfl,hlt⟩,by simp only [zt]; omega⟩
 ·have:k=ids.length:=by omega
  subst this
  simp only [bU,zf,if_false]
  exact .inr ⟨_,rfl,q1,q2,q3⟩
theorem y8 {B:Nat} {s:aa} (h:SzS B s) (hs:jV az.fId s.ao) (hB:B + 2≤1000000) (n:aB) (first:Bool) : ∃ r,cR s n first=some r∧zL B r.1∧(r.2.1=0→SzS B r.1∨zL B r.1):=by
 obtain ⟨lv,h1,h2⟩:=Gn h h.conf.deep (by omega) n.a8
 have hl:lv.length≤1000000:=by omega
 unfold cR
 simp only [h1,zb]
 obtain ⟨r,r1,r2⟩:=aM (f:=dS lv n first) (fun st=>zJ B s st.1∧∃ k:Nat,st.2=(k:Int)∧k≤lv.length) (fun st=>lv.length - st.2.toNat) (fun r=>match r with | .inl m=>zJ B s m.1 | .inr m=>zL B m.1) (fun st ⟨⟨q1,q2,q3⟩,k,h1,h2⟩=>by
  have k1:=q1.apps
  unfold dS
  simp only [h1]
  by_cases hlt:k < lv.length
  ·have g1:lv[k]? = some lv[k]:=zq hlt
   obtain ⟨ids,a1,a2,a3⟩:=MQ q1 (by omega) lv[k]
   obtain ⟨r,r1,r2⟩:=Rn q1 q2 hB n ids a3 (by omega) lv k _ g1 first
   simp only [ci g1,if_true,aN g1,a1,r1,zb,bm hlt hl]
   cases r with
   | inr m=>exact .inr ⟨_,rfl,r2⟩
   | inl m =>
    obtain ⟨t1,t2,t3⟩:=r2
    exact .inl ⟨_,rfl,⟨⟨t1,t2,fun i e=>t3 i (q3 i e)⟩,k + 1,rfl,hlt⟩,by simp only [zt]; omega⟩
  ·have:k=lv.length:=by omega
   subst this
   simp only [bU,zf,if_false]
   exact .inr ⟨_,rfl,q1,q2,q3⟩) ac (s,0) ⟨⟨h,hs,fun _ e=>e⟩,0,rfl,Nat.zero_le _⟩ (by have:=an hl; omega)
 rw [r1]
 simp only [zb]
 cases r with
 | inr m=>exact ⟨_,rfl,r2,fun _=>.inr r2⟩
 | inl m=>exact ⟨_,rfl,⟨r2.1.mono (by omega),r2.2.1⟩,fun _=>.inl r2.1⟩
theorem zL.mono {B C:Nat} {t:aa} (h:zL B t) (hc:B≤C) : zL C t:=⟨h.1.mono (by omega),h.2⟩
theorem MF {B:Nat} {s:aa} (h:SzS B s) (hs:jV az.fId s.ao) (hB:B + 2≤1000000) (n:aB) (x:bt) : ∃ r,nX s n x=some r∧zL B r.1∧(r.2.2.2=false→SzS B r.1):=by
 have k1:=h.apps; have k2:=h.slots; have k4:=h.conts; have k5:=h.nodes.1
 have ha:=h.get x.bz
 have k3:=ha.asks
 have h2:=h.mono (show B≤B + 2 by omega)
 have hn:SzS B { s with aR:=s.aR.filter fun c=>c.bf != n.fId } := h.slot (Nat.le_trans (List.length_filter_le _ _) k2)
 obtain ⟨d,hd⟩:=Fk h (by omega) (ca s x.bz).bO (UB (ca s x.bz).bQ x.bD)
 obtain ⟨m,hm⟩:=BQ h (by omega) (ca s x.bz).bO n.a8 (ca s x.bz).eh
 obtain ⟨o,ho⟩:=BW h (by omega) (ca s x.bz).bO ha.queue.1 n.a8 (UB (ca s x.bz).bQ x.bD).bu
 obtain ⟨g,hg,hg2,hg3⟩:=y9 hn hB n ha (UB (ca s x.bz).bQ x.bD)
 unfold nX
 simp only [ei s x.bz (show s.ao.length≤1000000 by omega),So (ca s x.bz).bQ x.bD (show (ca s x.bz).bQ.length≤1000000 by omega),ft,hd,hm,ho,Fo,gV,wd s n.fId (show s.aR.length≤1000000 by omega),sC s n.fId (show s.ar.length≤1000000 by omega) (show s.ab.length≤1000000 by omega),orB,dM,zb]
 split
 ·exact ⟨_,rfl,⟨hn.mono (by omega),hs⟩,fun _=>hn⟩
 split
 ·exact ⟨_,rfl,⟨h2,hs⟩,fun _=>h⟩
 ·rw [hg]
  exact ⟨_,rfl,⟨hg2,hg3 hs⟩,fun e=>by cases e⟩
theorem Pm {B:Nat} {s:aa} (h:SzS B s) (hs:jV az.fId s.ao) (hB:B + 6≤1000000) (id:Int) : ∃ r,qy s id=some r∧zL (B + 4) r.1:=by
 have k1:=h.nodes.1; have k2:=h.slots
 have two:∀ (t:aa),zL B t→∃ r,(Option.bind (cR t (cf s id) true) fun c7=>if (c7.2.1 != 0)=true then some (c7.1,c7.2.1,c7.2.2) else Option.bind (cR c7.1 (cf s id) false) fun c8=>some c8)=some r∧zL (B + 4) r.1:=fun t ⟨t1,t2⟩=>by
  obtain ⟨u,u1,⟨u2,u3⟩,_⟩:=y8 t1 t2 (by omega) (cf s id) true
  rw [u1]
  simp only [zb]
  split
  ·exact ⟨_,rfl,u2.mono (by omega),u3⟩
  ·obtain ⟨v,v1,⟨v2,v3⟩,_⟩:=y8 u2 u3 (by omega) (cf s id) false
   rw [v1]
   exact ⟨_,rfl,v2.mono (by omega),v3⟩
 obtain ⟨c,hc⟩:=MC s id (by omega)
 unfold qy
 simp only [kF s id (show s.ar.length≤1000000 by omega),orB,hc,zb]
 split
 ·exact ⟨_,rfl,h.mono (by omega),hs⟩
 split
 ·obtain ⟨k,k1,k2,_⟩:=MF h hs (by omega) (cf s id) c.1
  rw [k1]
  simp only [zb]
  split
  ·exact ⟨_,rfl,k2.mono (by omega)⟩
  ·exact two _ k2
 ·exact two _ ⟨h.mono (by omega),hs⟩
theorem ML {B:Nat} {s:aa} (h:SzS B s) (hs:jV az.fId s.ao) (hB:B + 100≤1000000) (id:Int) : ∃ r,lW s id=some r∧zL (B + 24) r.1∧r.2.length≤3:=by
 unfold lW
 dsimp only
 obtain ⟨r,r1,r2⟩:=aM (f:=gv id) (fun st=>∃ k:Nat,st.2.2=(k:Int)∧k≤3∧st.2.1.length=k∧SzS (B + 6 * k) st.1∧jV az.fId st.1.ao) (fun st=>3 - st.2.2.toNat) (fun r=>zL (B + 24) r.1∧r.2.1.length≤3) (fun st ⟨k,h1,h2,h3,h4,h5⟩=>by
  unfold gv
  simp only [h1]
  by_cases hlt:k < 3
  ·have hd:decide ((k:Int) < 3)=true:=by simp; omega
   obtain ⟨c,c1,c2,c3⟩:=Pm h4 h5 (by omega) id
   simp only [hd,if_true,c1,zb]
   split
   ·exact .inr ⟨_,rfl,⟨c2.mono (by omega),c3⟩,by show st.2.1.length≤3; omega⟩
   ·rw [aD (by simp; omega)]
    simp only [zb,bm hlt (show 3≤1000000 by omega)]
    exact .inl ⟨_,rfl,⟨k + 1,rfl,hlt,by simp; omega,c2.mono (by omega),c3⟩,by simp only [zt]; omega⟩
  ·have hd:decide ((k:Int) < 3)=false:=by simp; omega
   simp only [hd,zf,if_false]
   exact .inr ⟨_,rfl,⟨h4.mono (by omega),h5⟩,by show st.2.1.length≤3; omega⟩) ac (s,[],0) ⟨0,rfl,by omega,rfl,h.mono (by omega),hs⟩ (by show 3 - (0:Int).toNat < ac; unfold ac; omega)
 rw [r1]
 exact ⟨_,rfl,r2⟩
theorem mH {σ τ : Type} {f : σ→Option (σ⊕τ)} (I : σ→Prop) (Q : τ→Prop) (step:∀ s r,I s→f s=some r→match r with | .inl s'=>I s' | .inr t=>Q t) : ∀ (n:Nat) (s : σ) (t : τ),I s→ah f n s=some t→Q t
 | 0,s,t,_,h=>by cases h
 | n + 1,s,t,hi,h=>by
  simp only [ah] at h
  cases hf:f s with
  | none=>rw [hf] at h; cases h
  | some r =>
   have:=step s r hi hf
   rw [hf] at h
   cases r with
   | inl s'=>exact mH I Q step n s' t this h
   | inr t'=>injection h with h; subst h; exact this
theorem yx {α : Type} {l m z:List α} (h:aW l m=some z) : z.length=l.length + m.length∧z=l++m:=by
 unfold aW at h
 split at h
 ·injection h with h; subst h; simp
 ·cases h
theorem wj {s t:aa} {a:az} (h:cZ s a=some t) : t.ab=s.ab:=by
 unfold cZ at h
 dsimp only at h
 obtain ⟨_,_,h⟩:=br h
 obtain ⟨_,_,h⟩:=br h
 obtain ⟨_,_,h⟩:=br h
 obtain ⟨_,_,h⟩:=br h
 obtain ⟨_,_,h⟩:=br h
 obtain ⟨_,_,h⟩:=br h
 obtain ⟨_,_,h⟩:=br h
 obtain ⟨_,_,h⟩:=br h
 injection h with h
 subst h
 rfl
theorem rL {s t:aa} {n:Int} (h:dU s n=some t) : t.ab=s.ab:=by
 unfold dU at h
 dsimp only at h
 obtain ⟨_,_,h⟩:=br h
 injection h with h
 subst h
 rfl
theorem Fj {s t:aa} {x:bt} (h:nY s x=some t) : t.ab=s.ab:=by
 unfold nY at h
 dsimp only at h
 obtain ⟨_,_,h⟩:=br h
 obtain ⟨_,_,h⟩:=br h
 obtain ⟨_,_,h⟩:=br h
 obtain ⟨_,_,h⟩:=br h
 obtain ⟨_,_,h⟩:=br h
 obtain ⟨_,_,h⟩:=br h
 injection h with h
 subst h
 rfl
theorem K9 {α : Type} {l a b:List α} {k:Int} (h1:hiO l k=some a) (h2:loO l k=some b) : a.length + b.length=l.length:=by
 unfold hiO at h1
 unfold loO at h2
 by_cases hc : 0≤k∧k.toNat≤l.length
 ·rw [if_pos hc] at h1 h2
  injection h1 with h1
  injection h2 with h2
  subst h1 h2
  rw [List.length_take,List.length_drop]
  omega
 ·rw [if_neg hc] at h1
  cases h1
theorem ta {s:aa} {n:aB} {a:az} {x:aJ} {r:aa×ai} (h:jF s n a x=some r) : r.1.ab.length≤s.ab.length + 1:=by
 unfold jF at h
 dsimp only at h
 obtain ⟨_,_,h⟩:=br h
 obtain ⟨_,_,h⟩:=br h
 obtain ⟨_,_,h⟩:=br h
 obtain ⟨b12,h12,h⟩:=br h
 obtain ⟨b13,h13,h⟩:=br h
 obtain ⟨b14,h14,h⟩:=br h
 obtain ⟨b15,h15,h⟩:=br h
 obtain ⟨b16,h16,h⟩:=br h
 obtain ⟨c17,h17,h⟩:=br h
 injection h with h
 subst h
 have e:=wj h17
 have k1:=K9 h12 h15
 have k2:=(yx h13).1
 have k3:=(yx h14).1
 have k4:=(yx h16).1
 show c17.ab.length≤_
 rw [e]
 show b16.length≤_
 simp only [List.length_nil,List.length_singleton] at k2 k3
 omega
theorem Gl {s:aa} {n:aB} {a:az} {x:aJ} {f:Bool} {r:aa×Int×ai} (h:qx s n a x f=some r) : r.1.ab.length≤s.ab.length + 1∧(r.2.1=0→r.1.ab.length≤s.ab.length):=by
 unfold qx at h
 dsimp only at h
 obtain ⟨_,_,h⟩:=br h
 obtain ⟨_,_,h⟩:=br h
 obtain ⟨_,_,h⟩:=br h
 obtain ⟨_,_,h⟩:=br h
 split at h
 ·injection h with h; subst h; exact ⟨Nat.le_succ _,fun _=>Nat.le_refl _⟩
 obtain ⟨_,_,h⟩:=br h
 split at h
 ·obtain ⟨⟨a2,s2⟩,h1,h⟩:=br h
  injection h with h
  subst h
  have:s2.ab=s.ab:=by
   split at h1
   ·obtain ⟨_,_,h1⟩:=br h1
    obtain ⟨c,h2,h1⟩:=br h1
    injection h1 with h1
    injection h1 with _ h1
    subst h1
    exact wj h2
   ·injection h1 with h1
    injection h1 with _ h1
    subst h1
    rfl
  show s2.ab.length≤_∧(_→s2.ab.length≤_)
  rw [this]
  exact ⟨Nat.le_succ _,fun _=>Nat.le_refl _⟩
 obtain ⟨_,_,h⟩:=br h
 split at h
 ·injection h with h; subst h; exact ⟨Nat.le_succ _,fun _=>Nat.le_refl _⟩
 obtain ⟨_,_,h⟩:=br h
 obtain ⟨_,_,h⟩:=br h
 split at h
 ·obtain ⟨g,h1,h⟩:=br h
  injection h with h
  subst h
  exact ⟨ta h1,fun e=>absurd (show (1:Int)=0 from e) (by decide)⟩
 obtain ⟨_,_,h⟩:=br h
 split at h
 ·obtain ⟨g,h1,h⟩:=br h
  injection h with h
  subst h
  show g.ab.length≤_∧(_→g.ab.length≤_)
  rw [Fj h1]
  exact ⟨Nat.le_succ _,fun _=>Nat.le_refl _⟩
 ·injection h with h; subst h; exact ⟨Nat.le_succ _,fun _=>Nat.le_refl _⟩
def Gr (s:aa) (r:(aa×Int)⊕(aa×Int×ai)) : Prop:=match r with | .inl m=>m.1.ab.length≤s.ab.length | .inr m=>m.1.ab.length≤s.ab.length + 1
theorem IA {s0:aa} {a:az} {j:Int} {ids:List Int} {n:aB} {f:Bool} {k:Nat} {st:aa×Int} {r:(aa×Int)⊕(aa×Int×ai)} (hst:st.1.ab.length≤s0.ab.length) (h:ah (dQ a j ids n f) k st=some r) : Gr s0 r:=by
 refine mH (fun st=>st.1.ab.length≤s0.ab.length) (Gr s0) (fun st r hi h=>?_) k st r hst h
 unfold dQ at h
 dsimp only at h
 split at h
 ·obtain ⟨_,_,h⟩:=br h
  obtain ⟨_,_,h⟩:=br h
  obtain ⟨_,_,h⟩:=br h
  obtain ⟨c,hc,h⟩:=br h
  have hk:=Gl hc
  split at h
  ·injection h with h
   subst h
   exact Nat.le_trans hk.1 (Nat.succ_le_succ hi)
  ·rename_i hz
   injection h with h
   subst h
   exact Nat.le_trans (hk.2 (by simpa using hz)) hi
 ·injection h with h
  subst h
  exact hi
theorem IC {s0:aa} {ids:List Int} {i:Int} {lv:List ByteArray} {n:aB} {f:Bool} {k:Nat} {st:aa×Int} {r:(aa×Int)⊕(aa×Int×ai)} (hst:st.1.ab.length≤s0.ab.length) (h:ah (dR ids i lv n f) k st=some r) : Gr s0 r:=by
 refine mH (fun st=>st.1.ab.length≤s0.ab.length) (Gr s0) (fun st r hi h=>?_) k st r hst h
 unfold dR at h
 dsimp only at h
 split at h
 ·obtain ⟨_,_,h⟩:=br h
  obtain ⟨_,_,h⟩:=br h
  obtain ⟨_,_,h⟩:=br h
  obtain ⟨_,_,h⟩:=br h
  split at h
  ·injection h with h
   subst h
   exact hi
  ·obtain ⟨m,hm,h⟩:=br h
   have hg:=IA (s0:=s0) (st:=(st.1,0)) hi hm
   cases m with
   | inr m=>injection h with h; subst h; exact hg
   | inl m=>injection h with h; subst h; exact hg
 ·injection h with h
  subst h
  exact hi
theorem s9 {s:aa} {n:aB} {f:Bool} {r:aa×Int×ai} (h:cR s n f=some r) : r.1.ab.length≤s.ab.length + 1:=by
 unfold cR at h
 dsimp only at h
 obtain ⟨lv,_,h⟩:=br h
 obtain ⟨m,hm,h⟩:=br h
 have hg:Gr s m:=by
  refine mH (f:=dS lv n f) (fun st=>st.1.ab.length≤s.ab.length) (Gr s) (fun st r hi h=>?_) _ (s,0) m (Nat.le_refl _) hm
  unfold dS at h
  dsimp only at h
  split at h
  ·obtain ⟨_,_,h⟩:=br h
   obtain ⟨_,_,h⟩:=br h
   obtain ⟨m,hm,h⟩:=br h
   have hg:=IC (s0:=s) (st:=(st.1,0)) hi hm
   cases m with
   | inr m=>injection h with h; subst h; exact hg
   | inl m=>injection h with h; subst h; exact hg
  ·injection h with h
   subst h
   exact hi
 cases m with
 | inr m=>injection h with h; subst h; exact hg
 | inl m=>injection h with h; subst h; exact Nat.le_succ_of_le hg
theorem Fi {s:aa} {n:aB} {x:bt} {r:aa×Int×ai×Bool} (h:nX s n x=some r) : r.1.ab.length≤s.ab.length + 1:=by
 unfold nX at h
 dsimp only at h
 obtain ⟨_,_,h⟩:=br h
 obtain ⟨_,_,h⟩:=br h
 obtain ⟨_,_,h⟩:=br h
 obtain ⟨_,_,h⟩:=br h
 obtain ⟨_,_,h⟩:=br h
 obtain ⟨_,_,h⟩:=br h
 obtain ⟨_,_,h⟩:=br h
 obtain ⟨_,_,h⟩:=br h
 split at h
 ·obtain ⟨c,hc,h⟩:=br h
  injection h with h
  subst h
  show c.ab.length≤_
  rw [rL hc]
  exact Nat.le_succ _
 ·obtain ⟨_,_,h⟩:=br h
  obtain ⟨_,_,h⟩:=br h
  obtain ⟨_,_,h⟩:=br h
  split at h
  ·injection h with h
   subst h
   exact Nat.le_succ _
  ·obtain ⟨c,hc,h⟩:=br h
   obtain ⟨g,hg,h⟩:=br h
   injection h with h
   subst h
   have:=ta hg
   rw [rL hc] at this
   exact this
theorem Gm {s:aa} {id:Int} {r:aa×Int×ai} (h:qy s id=some r) : r.1.ab.length≤s.ab.length + 3:=by
 unfold qy at h
 dsimp only at h
 obtain ⟨nd,_,h⟩:=br h
 obtain ⟨_,_,h⟩:=br h
 obtain ⟨_,_,h⟩:=br h
 obtain ⟨_,_,h⟩:=br h
 have two:∀ {t:aa} {n:aB},(Option.bind (cR t n true) fun c7=>if (c7.2.1 != 0)=true then some (c7.1,c7.2.1,c7.2.2) else Option.bind (cR c7.1 n false) fun c8=>some c8)=some r→r.1.ab.length≤t.ab.length + 2:=by
  intro t n h
  obtain ⟨c,hc,h⟩:=br h
  have k1:=s9 hc
  split at h
  ·injection h with h
   subst h
   exact Nat.le_succ_of_le k1
  ·obtain ⟨d,hd,h⟩:=br h
   injection h with h
   subst h
   have k2:=s9 hd
   omega
 split at h
 ·injection h with h
  subst h
  exact Nat.le_add_right _ _
 obtain ⟨c,hc,h⟩:=br h
 split at h
 ·obtain ⟨k,hk,h⟩:=br h
  have k1:=Fi hk
  split at h
  ·injection h with h
   subst h
   exact Nat.le_trans k1 (by omega)
  ·have:=two h
   omega
 ·have:=two h
  omega
theorem Fl {s:aa} {id:Int} {r:aa×List ai} (h:lW s id=some r) : r.1.ab.length≤s.ab.length + 9:=by
 unfold lW at h
 dsimp only at h
 obtain ⟨m,hm,h⟩:=br h
 injection h with h
 subst h
 refine mH (f:=gv id) (fun st=>∃ k:Nat,st.2.2=(k:Int)∧k≤3∧st.1.ab.length≤s.ab.length + 3 * k) (fun q=>q.1.ab.length≤s.ab.length + 9) (fun st r ⟨k,h1,h2,h3⟩ h=>?_) _ (s,[],0) m ⟨0,rfl,by omega,by simp⟩ hm
 unfold gv at h
 dsimp only at h
 split at h
 ·rename_i hlt
  rw [h1] at hlt
  have hlt:k < 3:=by have:=zd hlt; omega
  obtain ⟨c,hc,h⟩:=br h
  have k1:=Gm hc
  split at h
  ·injection h with h
   subst h
   show c.1.ab.length≤_
   omega
  ·obtain ⟨l,hl,h⟩:=br h
   injection h with h
   subst h
   refine ⟨k + 1,?_,hlt,?_⟩
   ·show i64.wrap (st.2.2 + 1) = _
    rw [h1,bm hlt (show 3≤1000000 by omega)]
   ·show c.1.ab.length≤_
    omega
 ·injection h with h
  subst h
  show st.1.ab.length≤_
  omega
def SzM (M:Nat) (s:aa) : Prop:=∃ B,SzS B s∧B + s.ab.length≤M
theorem SzM.mono {M N:Nat} {s:aa} (h:SzM M s) (hn:M≤N) : SzM N s:=by
 obtain ⟨B,h1,h2⟩:=h
 exact ⟨B,h1,by omega⟩
theorem SzM.sz {M:Nat} {s:aa} (h:SzM M s) : SzS M s:=by
 obtain ⟨B,h1,h2⟩:=h
 exact h1.mono (by omega)
theorem Yq {s:aa} {id:Int} (h:DY s id=true) : jN s id∈s.ab∧(jN s id).fId=id:=by
 unfold DY at h
 rw [List.any_eq_true] at h
 obtain ⟨x,hx,e⟩:=h
 unfold jN
 cases hf:s.ab.find? fun c=>c.fId==id with
 | none=>have:=List.find?_eq_none.1 hf x hx; exact absurd e (by simpa using this)
 | some a=>exact ⟨List.mem_of_find?_eq_some hf,by simpa using List.find?_some hf⟩
theorem BA {α : Type} {p : α→Bool} {l:List α} {x : α} (hx:x∈l) (hp:p x=false) : (l.filter p).length < l.length :=
 List.length_filter_lt_length_iff_exists.2 ⟨x,hx,by rw [hp]; simp⟩
theorem SzS.putE {B:Nat} {s:aa} (h:SzS B s) {a:az} (ha:SzA (B + 1) a) {c:List ai} {l:List bt} (hc:c.length≤B + 1) (hl:l.length≤B + 1) : SzS (B + 1) { s with ao:=cM az.fId s.ao a,ab:=c,aR:=l } := by
 have k:=h.put ha
 exact ⟨k.conf,k.nodes,k.apps,hc,hl,k.plans,k.app⟩
theorem Fy {M:Nat} {s:aa} (h:SzM M s) (hs:jV az.fId s.ao) (ids:List Int) (hI:ids.length≤1000000) (hM:M + 1≤1000000) : ∃ r,fq s ids=some r∧SzM M r∧jV az.fId r.ao∧r.ab.length≤s.ab.length:=by
 unfold fq
 dsimp only
 rw [zx ids s hI]
 obtain ⟨r,h1,h2⟩:=aV (g:=gH ids) (fin:=fun b=>(b,(ids.length:Int))) (fun _ b=>SzM M b∧jV az.fId b.ao∧b.ab.length≤s.ab.length) (fun r=>SzM M r.1∧jV az.fId r.1.ao∧r.1.ab.length≤s.ab.length) ids 0 s (fun j t x hx ⟨ht,hsr,hle⟩=>by
  obtain ⟨B,ht0,hB⟩:=ht
  have k1:=ht0.apps; have k2:=ht0.conts; have k3:=ht0.slots
  have stay:SzM M t∧jV az.fId t.ao∧t.ab.length≤s.ab.length:=⟨⟨B,ht0,hB⟩,hsr,hle⟩
  unfold gH
  dsimp only
  rw [jr t x (by omega)]
  simp only [zb]
  split
  ·exact ⟨_,rfl,fun a' e=>by injection e with e; subst e; exact stay,fun r e=>by cases e⟩
  rename_i hnot
  have hct:DY t x=true:=by simpa using hnot
  obtain ⟨hm,hid⟩:=Yq hct
  rw [ei t _ (by omega)]
  simp only [zb]
  have hB1:B + 1≤1000000:=by omega
  have ha:=(ht0.get (jN t x).bz).mono (Nat.le_succ _)
  split
  ·rw [oO]
   simp only [zb]
   rw [kI t _ (by omega)]
   simp only [zb]
   rw [uH _ _ (by show t.ab.length≤_; omega) (by show t.aR.length≤_; omega)]
   simp only [zb]
   refine ⟨_,rfl,fun a' e=>?_,fun r e=>by cases e⟩
   injection e with e
   subst e
   have hlt:=BA (p:=fun c:ai=>!(c.bz==(jN t x).bz)) hm (by simp)
   refine ⟨⟨B + 1,ht0.putE ?_ (Nat.le_trans (List.length_filter_le _ _) (by show t.ab.length≤_; omega)) (Nat.le_trans (List.length_filter_le _ _) (by show t.aR.length≤_; omega)),?_⟩,gO _ _ _ hsr,?_⟩
   ·exact ⟨⟨ha.queue.1,ht0.nodes.2.2.1.1,ht0.nodes.2.2.1.2,ha.queue.2.2.2⟩,by simp,Nat.zero_le _,Nat.zero_le _,Nat.zero_le _,Nat.zero_le _⟩
   ·show B + 1 + (List.filter _ t.ab).length≤M
    omega
   ·show (List.filter _ t.ab).length≤_
    omega
  ·rw [uK t _ (by omega)]
   have hg:=ht0.get (jN t x).bz
   have h5:=hg.grants; have h6:=hg.kills
   simp only [zb]
   rw [uJ _ _ (by omega)]
   simp only [zb]
   have hlt:=BA (p:=fun c:ai=>c.fId != (jN t x).fId) hm (by simp)
   have hf:=List.length_filter_le (fun c=>c != (jN t x).fId) (ca t (jN t x).bz).cr
   have fin:∀ a:az,SzA (B + 1) a→∃ r,Option.bind (cZ { t with ab:=t.ab.filter fun c=>c.fId != (jN t x).fId } a) (fun c=>some (Sum.inl c:aa⊕(aa×Int)))=some r∧(∀ a',r = .inl a'→SzM M a'∧jV az.fId a'.ao∧a'.ab.length≤s.ab.length)∧∀ q,r = .inr q→SzM M q.1∧jV az.fId q.1.ao∧q.1.ab.length≤s.ab.length:=by
    intro a hsa
    rw [kI _ _ (by show t.ao.length + 1≤_; omega)]
    refine ⟨_,rfl,fun a' e=>?_,fun r e=>by cases e⟩
    injection e with e
    subst e
    refine ⟨⟨B + 1,ht0.putE (c:=t.ab.filter fun c=>c.fId != (jN t x).fId) (l:=t.aR) hsa (Nat.le_trans (List.length_filter_le _ _) (by omega)) (by omega),?_⟩,gO _ _ _ hsr,?_⟩
    ·show B + 1 + (List.filter _ t.ab).length≤M
     omega
    ·show (List.filter _ t.ab).length≤_
     omega
   split
   ·rw [aD (by simp; omega)]
    simp only [zb,List.nil_append]
    rw [aD (by simp; omega)]
    simp only [zb]
    refine fin _ ?_
    exact ⟨ha.queue,ha.asks,by show (List.filter _ _).length≤_; omega,by show (_ ++ [_]).length≤_; simp; omega,ha.told,ha.lost⟩
   ·simp only [zb]
    refine fin _ ?_
    exact ⟨ha.queue,ha.asks,by show (List.filter _ _).length≤_; omega,ha.kills,ha.told,ha.lost⟩) (fun b hb=>hb) ⟨h,hs,Nat.le_refl _⟩
 rw [h1]
 exact ⟨_,rfl,h2⟩
def fj (v_s:aa) (au:ByteArray) (af:Int) (bP:Int) (mt:Int) (st:Unit) (x_:az) : Option ((Unit)⊕((Int)⊕(Int))) :=
 let v_a:az:=x_
 let v_k:Int:=0
 (ah (kj v_a au v_s af bP mt) ac v_k).bind fun r15=>match r15 with
 | .inr m16=>some (.inr (.inr m16))
 | .inl m16 =>
 let v_k:=m16
 some (.inl ())
theorem xk (v_s:aa) (au:ByteArray) (af:Int) (bP:Int) (mt:Int) (a_:Unit) (hl:v_s.ao.length≤1000000) : ah (kl v_s au af bP mt) ac (0)=bl (fj v_s au af bP mt) (fun a_=>(.inl ((v_s.ao.length:Int)))) a_ v_s.ao :=
 ax v_s.ao (S:=Int) (fun a_ k_=>(k_)) (fj v_s au af bP mt) (fun a_=>(.inl ((v_s.ao.length:Int)))) (an hl) (fun k a x hx=>by
  unfold kl fj; exact bE)
  (fun a=>by unfold kl; exact cA) a_
def lK (v_l:(List Int)) (v_n:Int) (st:Unit) (x_:Int) : Option ((Unit)⊕((Int)⊕(Bool))) :=
 if (x_ == v_n)=true then
 some (.inr (.inr true))
 else
 some (.inl ())
theorem Cg (v_l:(List Int)) (v_n:Int) (a_:Unit) (hl:v_l.length≤1000000) : ah (oL v_l v_n) ac (0)=bl (lK v_l v_n) (fun a_=>(.inl ((v_l.length:Int)))) a_ v_l :=
 ax v_l (S:=Int) (fun a_ k_=>(k_)) (lK v_l v_n) (fun a_=>(.inl ((v_l.length:Int)))) (an hl) (fun k a x hx=>by
  unfold oL lK; exact bE)
  (fun a=>by unfold oL; exact cA) a_
def eJ (v_s:aa) (af:Int) (au:ByteArray) (v_l:(List Int)) (st:Int) (x_:ai) : Option ((Int)⊕((Int×Int))) :=
 let v_n:=st
 let v_c:ai:=x_
 (if (v_c.a8==af)=true then (if (au.toList==(⟨#[]⟩ : ByteArray).toList)=true then some true else (jh v_s v_c).bind fun c8=>some (c8.toList==au.toList)).bind fun q9=>some q9 else some false).bind fun q10=>(if q10=true then (if (v_c.jw != 0)=true then some true else (xm v_l v_c.fId).bind fun c11=>some c11).bind fun q12=>some q12 else some false).bind fun q13=>if q13=true then
 let v_n:Int:=(i64.wrap (v_n + v_c.bu.be))
 some (.inl v_n)
 else
 some (.inl v_n)
theorem vN (v_s:aa) (af:Int) (au:ByteArray) (v_l:(List Int)) (a_:Int) (hl:v_s.ab.length≤1000000) : ah (jC v_s af au v_l) ac (a_,(0))=bl (eJ v_s af au v_l) (fun a_=>(a_,((v_s.ab.length:Int)))) a_ v_s.ab :=
 ax v_s.ab (S:=Int×Int) (fun a_ k_=>(a_,(k_))) (eJ v_s af au v_l) (fun a_=>(a_,((v_s.ab.length:Int)))) (an hl) (fun k a x hx=>by
  unfold jC eJ; exact bE)
  (fun a=>by unfold jC; exact cA) a_
def eI (v_s:aa) (af:Int) (au:ByteArray) (v_l:(List Int)) (st:ai×Bool) (x_:ai) : Option ((ai×Bool)⊕((ai×Bool×Int))) :=
 let cH:=st.1
 let bK:=st.2
 let v_c:ai:=x_
 (if (v_c.a8 != af)=true then some true else (jh v_s v_c).bind fun c15=>some (!(c15.toList==au.toList))).bind fun q16=>(if q16=true then some true else some (v_c.jw != 0)).bind fun q17=>(if q17=true then some true else (xm v_l v_c.fId).bind fun c18=>some c18).bind fun q19=>if q19=true then
 some (.inl (cH,bK))
 else
 (if (!bK)=true then some true else (if cH.bI=true then some (!v_c.bI) else some false).bind fun q20=>some q20).bind fun q21=>(if q21=true then some true else (if (cH.bI==v_c.bI)=true then some (decide (v_c.fId > cH.fId)) else some false).bind fun q22=>some q22).bind fun q23=>if q23=true then
 let t24:ai:=v_c
 let t25:Bool:=true
 let cH:ai:=t24
 let bK:Bool:=t25
 some (.inl (cH,bK))
 else
 some (.inl (cH,bK))
theorem vM (v_s:aa) (af:Int) (au:ByteArray) (v_l:(List Int)) (a_:ai×Bool) (hl:v_s.ab.length≤1000000) : ah (jB v_s af au v_l) ac (a_.1,a_.2,(0))=bl (eI v_s af au v_l) (fun a_=>(a_.1,a_.2,((v_s.ab.length:Int)))) a_ v_s.ab :=
 ax v_s.ab (S:=ai×Bool×Int) (fun a_ k_=>(a_.1,a_.2,(k_))) (eI v_s af au v_l) (fun a_=>(a_.1,a_.2,((v_s.ab.length:Int)))) (an hl) (fun k a x hx=>by
  unfold jB eI; exact bE)
  (fun a=>by unfold jB; exact cA) a_
def gj (bH:(List aj)) (v_s:aa) (af:Int) (st:Int) (x_:aj) : Option ((Int)⊕((Int×Int))) :=
 let kX:=st
 (rI v_s x_.aK af).bind fun c6=>let kX:Int:=(i64.wrap (kX + c6))
 some (.inl kX)
theorem yU (bH:(List aj)) (v_s:aa) (af:Int) (a_:Int) (hl:bH.length≤1000000) : ah (lM bH v_s af) ac (a_,(0))=bl (gj bH v_s af) (fun a_=>(a_,((bH.length:Int)))) a_ bH :=
 ax bH (S:=Int×Int) (fun a_ k_=>(a_,(k_))) (gj bH v_s af) (fun a_=>(a_,((bH.length:Int)))) (an hl) (fun k a x hx=>by
  unfold lM gj; exact bE)
  (fun a=>by unfold lM; exact cA) a_
def gh (bH:(List aj)) (v_s:aa) (af:Int) (v_l:(List Int)) (st:Int×ai) (x_:aj) : Option ((Int×ai)⊕((Int×ai×Int))) :=
 let cg:=st.1
 let v_x:=st.2
 let v_p:ByteArray:=x_.aK
 (eO v_s v_p af).bind fun c18=>(mW v_s v_p af v_l).bind fun c19=>let CZ:Int:=(i64.wrap ((i64.wrap (c18.be - x_.be)) - c19))
 (pN v_s v_p af v_l).bind fun c20=>let v_c:ai:=c20.1
 let bK:Bool:=c20.2
 (if bK=true then some (decide (CZ > cg)) else some false).bind fun q21=>if q21=true then
 let t22:Int:=CZ
 let t23:ai:=v_c
 let cg:Int:=t22
 let v_x:ai:=t23
 some (.inl (cg,v_x))
 else
 some (.inl (cg,v_x))
theorem yT (bH:(List aj)) (v_s:aa) (af:Int) (v_l:(List Int)) (a_:Int×ai) (hl:bH.length≤1000000) : ah (lL bH v_s af v_l) ac (a_.1,a_.2,(0))=bl (gh bH v_s af v_l) (fun a_=>(a_.1,a_.2,((bH.length:Int)))) a_ bH :=
 ax bH (S:=Int×ai×Int) (fun a_ k_=>(a_.1,a_.2,(k_))) (gh bH v_s af v_l) (fun a_=>(a_.1,a_.2,((bH.length:Int)))) (an hl) (fun k a x hx=>by
  unfold lL gh; exact bE)
  (fun a=>by unfold lL; exact cA) a_
def gm (kW:aa) (xG:aa) (st:(List Int)) (x_:ai) : Option (((List Int))⊕(((List Int)×Int))) :=
 let v_l:=st
 (eT xG x_.fId).bind fun c5=>let bK:Bool:=c5.2
 if (!bK)=true then
 (aW v_l [x_.fId]).bind fun b6=>let v_l:(List Int):=b6
 some (.inl v_l)
 else
 some (.inl v_l)
theorem yW (kW:aa) (xG:aa) (a_:(List Int)) (hl:kW.ab.length≤1000000) : ah (lN kW xG) ac (a_,(0))=bl (gm kW xG) (fun a_=>(a_,((kW.ab.length:Int)))) a_ kW.ab :=
 ax kW.ab (S:=(List Int)×Int) (fun a_ k_=>(a_,(k_))) (gm kW xG) (fun a_=>(a_,((kW.ab.length:Int)))) (an hl) (fun k a x hx=>by
  unfold lN gm; exact bE)
  (fun a=>by unfold lN; exact cA) a_
def gg (v_l:(List ai)) (af:Int) (st:aa) (x_:ai) : Option ((aa)⊕((aa×Int))) :=
 let v_s:=st
 (eT v_s x_.fId).bind fun c15=>let wy:ai:=c15.1
 let bK:Bool:=c15.2
 if (!bK)=true then
 some (.inl v_s)
 else
 (jh v_s wy).bind fun c16=>(eO v_s c16 af).bind fun c17=>(pM v_s wy).bind fun c18=>(jh v_s wy).bind fun c19=>(yX v_s af c19).bind fun c20=>if (decide ((i64.wrap (c17.be - c18)) > c20))=true then
 (fq v_s ([wy.fId] : (List Int))).bind fun c21=>let v_s:aa:=c21
 some (.inl v_s)
 else
 (jY v_s wy.fId 0).bind fun c22=>let v_s:aa:=c22
 some (.inl v_s)
theorem yS (v_l:(List ai)) (af:Int) (a_:aa) (hl:v_l.length≤1000000) : ah (ji v_l af) ac (a_,(0))=bl (gg v_l af) (fun a_=>(a_,((v_l.length:Int)))) a_ v_l :=
 ax v_l (S:=aa×Int) (fun a_ k_=>(a_,(k_))) (gg v_l af) (fun a_=>(a_,((v_l.length:Int)))) (an hl) (fun k a x hx=>by
  unfold ji gg; exact bE)
  (fun a=>by unfold ji; exact cA) a_
def fm (v_l:(List Int)) (st:aa) (x_:Int) : Option ((aa)⊕((aa×Int))) :=
 let v_s:=st
 (jY v_s x_ (if 1 > v_s.cP then 1 else v_s.cP)).bind fun c5=>let v_s:aa:=c5
 some (.inl v_s)
theorem xn (v_l:(List Int)) (a_:aa) (hl:v_l.length≤1000000) : ah (ip v_l) ac (a_,(0))=bl (fm v_l) (fun a_=>(a_,((v_l.length:Int)))) a_ v_l :=
 ax v_l (S:=aa×Int) (fun a_ k_=>(a_,(k_))) (fm v_l) (fun a_=>(a_,((v_l.length:Int)))) (an hl) (fun k a x hx=>by
  unfold ip fm; exact bE)
  (fun a=>by unfold ip; exact cA) a_
def eL (v_l:(List aj)) (st:(List aj)) (v_i:Int) (x_:aj) : Option (((List aj))⊕(((List aj)×Int))) :=
 let ak:=st
 let v_k:Int:=0
 (ah (gp ak v_i v_l) ac v_k).bind fun r13 =>
 let v_k:=r13
 (hiO ak v_k).bind fun b14=>(aW ([] : (List aj)) b14).bind fun b15=>let v_x:(List aj):=b15
 (aW v_x [x_]).bind fun b16=>let v_x:(List aj):=b16
 (loO ak v_k).bind fun b17=>(aW v_x b17).bind fun b18=>let ak:(List aj):=b18
 some (.inl ak)
theorem vO (v_l:(List aj)) (a_:(List aj)) (hl:v_l.length≤1000000) : ah (jD v_l) ac (a_,(0))=nC (eL v_l) (fun a_=>(a_,((v_l.length:Int)))) a_ 0 v_l :=
 fa v_l (S:=(List aj)×Int) (fun a_ k_=>(a_,(k_))) (eL v_l) (fun a_=>(a_,((v_l.length:Int)))) (an hl) (fun k a x hx=>by
  unfold jD eL; exact bE)
  (fun a=>by unfold jD; exact cA) a_
def kp (v_l:(List aj)) (au:ByteArray) (st:Unit) (x_:aj) : Option ((Unit)⊕((Int)⊕(Int))) :=
 if (x_.aK.toList==au.toList)=true then
 some (.inr (.inr x_.be))
 else
 some (.inl ())
theorem AY (v_l:(List aj)) (au:ByteArray) (a_:Unit) (hl:v_l.length≤1000000) : ah (nx v_l au) ac (0)=bl (kp v_l au) (fun a_=>(.inl ((v_l.length:Int)))) a_ v_l :=
 ax v_l (S:=Int) (fun a_ k_=>(k_)) (kp v_l au) (fun a_=>(.inl ((v_l.length:Int)))) (an hl) (fun k a x hx=>by
  unfold nx kp; exact bE)
  (fun a=>by unfold nx; exact cA) a_
def Uz (n:Int) : Int:=if (decide (n < 0)||decide (n > 1125899906842624))=true then 0 else n
theorem uz (n:Int) : lO n=some (Uz n):=by
 unfold lO Uz
 simp only [orB,zb]
 split <;> rfl
theorem JS (t:Int) (a b c:List Int) (hN:a.length≤1000) (hb:b.length=a.length) (hc:c.length=a.length) : ∃ r,vr t a b c=some r∧r.length=a.length:=by
 have hn:(if (c.length:Int) < (if (b.length:Int) < (a.length:Int) then (b.length:Int) else (a.length:Int)) then (c.length:Int) else (if (b.length:Int) < (a.length:Int) then (b.length:Int) else (a.length:Int)))=(a.length:Int):=by
  rw [hb,hc]
  simp
 unfold vr
 simp only [hn,uz,zb]
 obtain ⟨r,e1,e2⟩:=aM (f:=om (a.length:Int) a b c) (fun st=>∃ k:Nat,st.2.2=(k:Int)∧k≤a.length∧st.1.length=k) (fun st=>a.length - st.2.2.toNat) (fun r=>r.1.length=a.length) (fun st ⟨k,h1,h2,h3⟩=>by
  unfold om
  simp only [h1]
  by_cases hlt:k < a.length
  ·have g1:a[k]? = some a[k]:=zq hlt
   have g2:b[k]? = some (b[k]'(by omega)):=zq (by omega)
   have g3:c[k]? = some (c[k]'(by omega)):=zq (by omega)
   simp only [ci g1,if_true,aN g1,aN g2,aN g3,uz,zb,bm hlt (show a.length≤1000000 by omega)]
   rw [aD (by simp; omega)]
   exact .inl ⟨_,rfl,⟨k + 1,rfl,hlt,by simp; omega⟩,by simp only [zt]; omega⟩
  ·have:k=a.length:=by omega
   subst this
   simp only [bU,zf,if_false]
   exact .inr ⟨_,rfl,h3⟩) ac ([],Uz t,0) ⟨0,rfl,Nat.zero_le _,rfl⟩ (by have:=an (show a.length≤1000000 by omega); omega)
 rw [e1]
 simp only [zb]
 obtain ⟨q,f1,f2⟩:=aM (f:=ol (a.length:Int) b c) (fun st=>∃ k:Nat,st.2.2=(k:Int)∧k≤a.length∧st.1.length=a.length) (fun st=>a.length - st.2.2.toNat) (fun r=>r.1.length=a.length) (fun st ⟨k,h1,h2,h3⟩=>by
  unfold ol
  simp only [h1]
  by_cases hlt:k < a.length
  ·have g1:a[k]? = some a[k]:=zq hlt
   have g2:b[k]? = some (b[k]'(by omega)):=zq (by omega)
   have g3:c[k]? = some (c[k]'(by omega)):=zq (by omega)
   have g4:st.1[k]? = some (st.1[k]'(by omega)):=zq (by omega)
   simp only [ci g1,if_true,aN g2,aN g3,aN g4,uz,zb,bm hlt (show a.length≤1000000 by omega),zt]
   exact .inl ⟨_,rfl,⟨k + 1,rfl,hlt,by simp; omega⟩,by simp only [zt]; omega⟩
  ·have:k=a.length:=by omega
   subst this
   simp only [bU,zf,if_false]
   exact .inr ⟨_,rfl,h3⟩) ac (r.1,r.2.1,0) ⟨0,rfl,Nat.zero_le _,e2⟩ (by have:=an (show a.length≤1000000 by omega); omega)
 rw [f1]
 exact ⟨_,rfl,f2⟩
theorem BO {B:Nat} {s:aa} (h:SzS B s) (hD:Deep s.bL) (hB:B≤1000000) (k:Int) : ∀ (d n:Nat) (p:ByteArray) (v:Int),4 - dz 6 p≤d→d < n→d≤4→∃ r,lQ n s p k v=some r∧r.length≤16 ^ d
 | d,0,p,_,_,hn,_=>absurd hn (Nat.not_lt_zero _)
 | d,n + 1,p,v,hp,hn,hd=>by
  obtain ⟨m,h2,h3,h4⟩:=sG s.bL p h.conf.sz
  have hq:=hD.few
  have k2:=h.nodes.1
  unfold lQ
  simp only [h2,zb]
  split
  ·exact ⟨_,rfl,by show 1≤16 ^ d; exact Nat.one_le_pow _ _ (by omega)⟩
  ·rename_i hne
   have hm : 0 < m.length:=by
    rcases Nat.eq_zero_or_pos m.length with h0 | h0
    ·rw [h0] at hne; exact absurd rfl hne
    ·exact h0
   have kid:=BJ s.bL p h.conf.sz h2
   have kd:∀ x∈m,dz 6 p + 1=dz 6 x∧dz 6 x≤4:=fun x hx=>by
    obtain ⟨⟨q,hq1,hq2⟩,a1,a2⟩:=kid x hx
    subst hq2
    exact ⟨Hq a1 a2 (h.conf.sz.paths q hq1) (hD.deep q hq1),hD.deep q hq1⟩
   have hd0 : 0 < d:=by
    obtain ⟨a1,a2⟩:=kd m[0] (List.getElem_mem hm)
    omega
   obtain ⟨d',rfl⟩ : ∃ d',d=d' + 1:=⟨d - 1,by omega⟩
   have hpow : 16 ^ d'≤16 ^ 3:=Nat.pow_le_pow_right (by omega) (by omega)
   have hm1:m.length≤1000000:=by omega
   obtain ⟨r,e1,e2⟩:=aM (f:=pR (lQ n) m s k) (fun st=>∃ i:Nat,st.2.2.2=(i:Int)∧i≤m.length∧st.1.length=i∧st.2.1.length=i∧st.2.2.1.length=i) (fun st=>m.length - st.2.2.2.toNat) (fun r=>r.1.length=m.length∧r.2.1.length=m.length∧r.2.2.1.length=m.length) (fun st ⟨i,i1,i2,i3,i4,i5⟩=>by
    unfold pR
    simp only [i1]
    by_cases hlt:i < m.length
    ·have g1:m[i]? = some m[i]:=zq hlt
     obtain ⟨u,hu⟩:=fp h hB m[i] k
     obtain ⟨w,hw⟩:=uF h hB m[i] k
     simp only [ci g1,if_true,aN g1,nR s _ k h.conf (Nat.le_trans k2 hB),EZ s _ k h.conf (Nat.le_trans k2 hB),hu,hw,zb,bm hlt hm1]
     rw [aD (by simp; omega)]
     simp only [zb]
     rw [aD (by simp; omega)]
     simp only [zb]
     rw [aD (by simp; omega)]
     exact .inl ⟨_,rfl,⟨i + 1,rfl,hlt,by simp; omega,by simp; omega,by simp; omega⟩,by simp only [zt]; omega⟩
    ·have:i=m.length:=by omega
     subst this
     simp only [bU,zf,if_false]
     exact .inr ⟨_,rfl,i3,i4,i5⟩) ac ([],[],[],0) ⟨0,rfl,Nat.zero_le _,rfl,rfl,rfl⟩ (by have:=an hm1; omega)
   rw [e1]
   simp only [zb]
   obtain ⟨x,x1,x2⟩:=JS v r.1 r.2.2.1 r.2.1 (by omega) (by omega) (by omega)
   rw [x1]
   simp only [zb]
   obtain ⟨q,f1,f2⟩:=aM (f:=pQ (lQ n) m s k x) (fun st=>∃ i:Nat,st.2=(i:Int)∧i≤m.length∧st.1.length≤i * 16 ^ d') (fun st=>m.length - st.2.toNat) (fun r=>r.1.length≤m.length * 16 ^ d') (fun st ⟨i,i1,i2,i3⟩=>by
    unfold pQ
    simp only [i1]
    by_cases hlt:i < m.length
    ·have g1:m[i]? = some m[i]:=zq hlt
     have g2:x[i]? = some (x[i]'(by omega)):=zq (by omega)
     obtain ⟨a1,a2⟩:=kd m[i] (List.getElem_mem hlt)
     obtain ⟨c,c1,c2⟩:=BO h hD hB k d' n m[i] (x[i]'(by omega)) (by omega) (by omega) (by omega)
     have hj2:i * 16 ^ d'≤16 * 16 ^ 3:=Nat.mul_le_mul (by omega) hpow
     simp only [ci g1,if_true,aN g1,aN g2,c1,zb,bm hlt hm1]
     rw [aD (by omega)]
     refine .inl ⟨_,rfl,⟨i + 1,rfl,hlt,?_⟩,by simp only [zt]; omega⟩
     show (st.1++c).length≤_
     rw [List.length_append,Nat.succ_mul]
     omega
    ·have:i=m.length:=by omega
     subst this
     simp only [bU,zf,if_false]
     exact .inr ⟨_,rfl,i3⟩) ac ([],0) ⟨0,rfl,Nat.zero_le _,by simp⟩ (by have:=an hm1; omega)
   rw [f1]
   refine ⟨_,rfl,Nat.le_trans f2 ?_⟩
   rw [Nat.pow_succ,Nat.mul_comm]
   exact Nat.mul_le_mul_left _ (by omega)
theorem wb {B:Nat} {s:aa} (h:SzS B s) (hD:Deep s.bL) (hB:B≤1000000) (k:Int) : ∃ r,pT s k=some r∧r.length≤65536:=by
 obtain ⟨l,h1,h2⟩:=BO h hD hB k 4 ac ⟨#[114,111,111,116]⟩ (ul s k).be (by omega) (by unfold ac; omega) (by omega)
 have h2:l.length≤65536:=h2
 have k2:=h.nodes.1
 unfold pT
 simp only [nQ s k (Nat.le_trans k2 hB),h1,zb]
 rw [vO l [] (by omega)]
 obtain ⟨r,e1,e2⟩:=mB (g:=eL l) (fin:=fun b=>(b,(l.length:Int))) (fun j b=>b.length≤j) (fun r=>r.1.length≤l.length) l 0 [] (fun j out x hx ho=>by
  have hj:=(zg.1 hx).1
  obtain ⟨K,hK1,hK2⟩:=nH out (by omega) (f:=gp out ((0 + j:Nat) : Int) l) (fun i y hy=>by
   have hi:=(zg.1 hy).1
   refine ⟨Op.bytesLess y.aK.toList x.aK.toList,?_⟩
   unfold gp
   simp only [ci hy,if_true,aN hy,aN (show l[0 + j]? = some x by rwa [Nat.zero_add]),zb,bm hi (show out.length≤1000000 by omega)]) (by unfold gp; simp only [bU,zf,if_false,zb])
  unfold eL
  dsimp only
  rw [hK1]
  simp only [zb]
  rw [pm hK2]
  simp only [zb]
  rw [aD (by simp; omega)]
  simp only [zb]
  rw [aD (by simp; omega)]
  simp only [zb]
  rw [lh hK2]
  simp only [zb]
  rw [aD (by simp; omega)]
  refine ⟨_,rfl,fun a' e=>?_,fun r e=>by cases e⟩
  injection e with e
  subst e
  simp; omega) (fun b hb=>by simpa using hb) (by simp)
 rw [e1]
 exact ⟨_,rfl,by show r.1.length≤_; omega⟩
theorem O5 {B:Nat} {s:aa} (h:SzS B s) (hD:Deep s.bL) (hB:B≤1000000) (k:Int) (p:ByteArray) : ∃ r,yX s k p=some r:=by
 obtain ⟨l,h1,h2⟩:=wb h hD hB k
 unfold yX
 rw [h1]
 dsimp only [zb]
 rw [AY l p () (by omega),show kp l p=fun (_:Unit) x=>if (x.aK.toList==p.toList)=true then some (.inr (.inr x.be)) else some (.inl ()) from rfl,
  kK (fun x:aj=>x.aK.toList==p.toList) (fun x=>(Sum.inr x.be:Int⊕Int)) (.inl (l.length:Int)) l]
 simp only [zb]
 cases l.find? fun x=>x.aK.toList==p.toList <;> exact ⟨_,rfl⟩
theorem ux (s:aa) (c:ai) (hl:s.ao.length≤1000000) : jh s c=some (ca s c.bz).bO:=by
 unfold jh
 simp only [ei s c.bz hl,zb]
def inL (l:List Int) (n:Int) : Bool:=l.any fun x=>x==n
theorem H8 (l:List Int) (n:Int) (hl:l.length≤1000000) : xm l n=some (inL l n):=by
 unfold xm inL
 dsimp only
 rw [Cg l n () hl,show lK l n=fun (_:Unit) x=>if (x==n)=true then some (.inr (.inr true)) else some (.inl ()) from rfl,
  kK (fun x:Int=>x==n) (fun _=>(Sum.inr true:Int⊕Bool)) (.inl (l.length:Int)) l]
 simp only [zb]
 cases hf:l.find? fun x=>x==n with
 | none =>
  have:(l.any fun x=>x==n)=false:=by
   rw [List.any_eq_false]; intro x hx; have:=List.find?_eq_none.1 hf x hx; simpa using this
  rw [this]
 | some q =>
  have:(l.any fun x=>x==n)=true:=by rw [List.any_eq_true]; exact ⟨q,List.mem_of_find?_eq_some hf,List.find?_some (p:=fun x:Int=>x==n) hf⟩
  rw [this]
theorem He {α : Type} {p q : α→Bool} (hpq:∀ x,q x=true→p x=true) : ∀ l:List α,(∃ x∈l,p x=true∧q x=false)→(l.filter q).length < (l.filter p).length
 | [],⟨x,hx,_⟩=>by cases hx
 | y::l,⟨x,hx,h1,h2⟩=>by
  have le:∀ l:List α,(l.filter q).length≤(l.filter p).length:=fun l=>by
   induction l with
   | nil=>exact Nat.le_refl _
   | cons z l ih =>
    simp only [List.filter_cons]
    cases hq:q z with
    | true=>rw [hpq z hq]; simpa using ih
    | false =>
     cases p z with
     | true=>simp; omega
     | false=>simpa using ih
  simp only [List.filter_cons]
  rcases List.mem_cons.1 hx with rfl | hx
  ·rw [h1,h2]
   have:=le l
   simp; omega
  ·have ih:=He hpq l ⟨x,hx,h1,h2⟩
   cases hq:q y with
   | true=>rw [hpq y hq]; simpa using ih
   | false =>
    cases p y with
    | true=>simp; omega
    | false=>simpa using ih
theorem JO {B:Nat} {s:aa} (h:SzS B s) (hB:B≤1000000) (p:ByteArray) (k:Int) : ∃ r,rI s p k=some r:=by
 obtain ⟨u,hu⟩:=fp h hB p k
 obtain ⟨v,hv⟩:=uF h hB p k
 have k1:=h.apps; have k2:=h.nodes.1
 unfold rI
 simp only [hu,nR s p k h.conf (Nat.le_trans k2 hB),zb]
 rw [xk s p k (A7 s p k).be u.be () (by omega)]
 obtain ⟨r,e1,_⟩:=aV (g:=fj s p k (A7 s p k).be u.be) (fin:=fun _=>(.inl (s.ao.length:Int))) (fun _ _=>True) (fun _=>True) s.ao 0 () (fun j b x hx _=>by
  have hm:=h.app x (List.mem_of_getElem? hx)
  have ha:=hm.asks
  have ha2:x.bQ.length≤1000000:=by omega
  obtain ⟨r,r1,_⟩:=aM (f:=kj x p s k (A7 s p k).be u.be) (fun st=>∃ i:Nat,st=(i:Int)∧i≤x.bQ.length) (fun st=>x.bQ.length - st.toNat) (fun _=>True) (fun st ⟨i,h1,h2⟩=>by
   subst h1
   unfold kj
   by_cases hlt:i < x.bQ.length
   ·have g1:x.bQ[i]? = some x.bQ[i]:=zq hlt
    simp only [ci g1,if_true,aN g1,ft,hv,dM,zb,bm hlt ha2]
    split
    ·split
     ·exact .inr ⟨_,rfl,trivial⟩
     ·exact .inl ⟨_,rfl,⟨i + 1,rfl,hlt⟩,by simp only [zt]; omega⟩
    ·exact .inr ⟨_,rfl,trivial⟩
   ·have:i=x.bQ.length:=by omega
    subst this
    simp only [bU,zf,if_false,zb]
    exact .inr ⟨_,rfl,trivial⟩) ac 0 ⟨0,rfl,Nat.zero_le _⟩ (by have:=an ha2; omega)
  unfold fj
  dsimp only
  rw [r1]
  simp only [zb]
  cases r <;> exact ⟨_,rfl,fun _ _=>trivial,fun _ _=>trivial⟩) (fun _ _=>trivial) trivial
 rw [e1]
 simp only [zb]
 cases r <;> exact ⟨_,rfl⟩
theorem wa {B:Nat} {s:aa} (h:SzS B s) (hB:B≤1000000) (p:ByteArray) (k:Int) (l:List Int) (hl:l.length≤1000000) : ∃ r,mW s p k l=some r:=by
 have k1:=h.apps; have k2:=h.conts
 unfold mW
 dsimp only
 rw [vN s k p l 0 (by omega)]
 obtain ⟨r,e1,_⟩:=aV (g:=eJ s k p l) (fin:=fun b=>(b,(s.ab.length:Int))) (fun _ _=>True) (fun _=>True) s.ab 0 0 (fun j b x hx _=>by
  unfold eJ
  simp only [ux s x (show s.ao.length≤1000000 by omega),H8 l x.fId hl,dM,orB,zb]
  split <;> exact ⟨_,rfl,fun _ _=>trivial,fun _ _=>trivial⟩) (fun _ _=>trivial) trivial
 rw [e1]
 exact ⟨_,rfl⟩
theorem Gk {B:Nat} {s:aa} (h:SzS B s) (hB:B≤1000000) (p:ByteArray) (k:Int) (l:List Int) (hl:l.length≤1000000) : ∃ r,pN s p k l=some r∧(r.2=true→r.1∈s.ab∧inL l r.1.fId=false):=by
 have k1:=h.apps; have k2:=h.conts
 unfold pN
 dsimp only
 rw [vM s k p l ((⟨0,0,0,av.zero,0,0,false,0⟩ : ai),false) (by omega)]
 obtain ⟨r,e1,e2⟩:=aV (g:=eI s k p l) (fin:=fun b=>(b.1,b.2,(s.ab.length:Int))) (fun _ b=>b.2=true→b.1∈s.ab∧inL l b.1.fId=false) (fun r=>r.2.1=true→r.1∈s.ab∧inL l r.1.fId=false) s.ab 0 ((⟨0,0,0,av.zero,0,0,false,0⟩ : ai),false) (fun j b x hx hb=>by
  unfold eI
  simp only [ux s x (show s.ao.length≤1000000 by omega),H8 l x.fId hl,dM,orB,zb]
  split
  ·exact ⟨_,rfl,fun a e=>(by injection e with e; subst e; exact hb),fun r e=>(by cases e)⟩
  ·rename_i hn
   split
   ·refine ⟨_,rfl,fun a e=>?_,fun r e=>(by cases e)⟩
    injection e with e
    subst e
    refine fun _=>⟨List.mem_of_getElem? hx,?_⟩
    simp only [Bool.or_eq_true,not_or,Bool.not_eq_true] at hn
    exact hn.2
   ·exact ⟨_,rfl,fun a e=>(by injection e with e; subst e; exact hb),fun r e=>(by cases e)⟩) (fun b hb=>hb) (fun e=>by cases e)
 rw [e1]
 exact ⟨_,rfl,e2⟩
def Wo (s:aa) (l:List Int) : Nat:=(s.ab.filter fun c=>!inL l c.fId).length
theorem Mu {B:Nat} {s:aa} (h:SzS B s) (hB:B≤1000000) (k:Int) : ∃ r,yV s k=some r∧r.length≤s.ab.length:=by
 have k1:=h.apps; have k2:=h.conts; have k3:=h.nodes.1
 obtain ⟨sh,h1,h2⟩:=wb h h.conf.deep hB k
 obtain ⟨u,hu⟩:=fp h hB ⟨#[114,111,111,116]⟩ k
 unfold yV
 simp only [h1,nQ s k (Nat.le_trans k3 hB),hu,zb]
 rw [yU sh s k _ (by omega)]
 obtain ⟨r,e1,_⟩:=aV (g:=gj sh s k) (fin:=fun b=>(b,(sh.length:Int))) (fun _ _=>True) (fun _=>True) sh 0 (i64.wrap (0 - (if 0 > (i64.wrap ((ul s k).be - u.be)) then 0 else (i64.wrap ((ul s k).be - u.be))))) (fun j b x hx _=>by
  obtain ⟨n,hn⟩:=JO h hB x.aK k
  unfold gj
  simp only [hn,zb]
  exact ⟨_,rfl,fun _ _=>trivial,fun _ _=>trivial⟩) (fun _ _=>trivial) trivial
 rw [e1]
 simp only [zb]
 obtain ⟨q,f1,f2⟩:=aM (f:=pP s k r.1 sh) (fun l=>l.length + Wo s l≤s.ab.length) (fun l=>Wo s l) (fun r=>match r with | .inl m=>m.length≤s.ab.length | .inr m=>m.length≤s.ab.length) (fun l hl=>by
  have hl2:l.length≤s.ab.length:=by omega
  obtain ⟨m,hm⟩:=wa h hB ⟨#[]⟩ k l (by omega)
  unfold pP
  simp only [hm,zb]
  split
  ·rw [yT sh s k l (0,(⟨0,0,0,av.zero,0,0,false,0⟩ : ai)) (by omega)]
   obtain ⟨t,t1,t2⟩:=aV (g:=gh sh s k l) (fin:=fun b=>(b.1,b.2,(sh.length:Int))) (fun _ b=>b.1≠0→b.2∈s.ab∧inL l b.2.fId=false) (fun r=>r.1≠0→r.2.1∈s.ab∧inL l r.2.1.fId=false) sh 0 (0,(⟨0,0,0,av.zero,0,0,false,0⟩ : ai)) (fun j b x hx hb=>by
    obtain ⟨u,hu⟩:=fp h hB x.aK k
    obtain ⟨m,hm⟩:=wa h hB x.aK k l (by omega)
    obtain ⟨n,hn,hn2⟩:=Gk h hB x.aK k l (by omega)
    unfold gh
    simp only [hu,hm,hn,dM,zb]
    split
    ·rename_i hc
     rw [Bool.and_eq_true] at hc
     exact ⟨_,rfl,fun a e=>(by injection e with e; subst e; exact fun _=>hn2 hc.1),fun r e=>(by cases e)⟩
    ·exact ⟨_,rfl,fun a e=>(by injection e with e; subst e; exact hb),fun r e=>(by cases e)⟩) (fun b hb=>hb) (fun e=>absurd rfl e)
   rw [t1]
   simp only [zb]
   split
   ·exact .inr ⟨_,rfl,hl2⟩
   ·rename_i hne
    obtain ⟨c1,c2⟩:=t2 (by simpa using hne)
    have hlt:Wo s (l ++ [t.2.1.fId]) < Wo s l:=He (fun x hx=>by
     unfold inL at hx ⊢
     simp only [List.any_append,Bool.not_or,Bool.and_eq_true] at hx
     exact hx.1) s.ab ⟨t.2.1,c1,by rw [c2]; rfl,by unfold inL; simp⟩
    rw [aD (by simp; omega)]
    exact .inl ⟨_,rfl,by rw [List.length_append,List.length_singleton]; omega,hlt⟩
  ·exact .inr ⟨_,rfl,hl2⟩) ac [] (by show 0 + (List.filter _ _).length≤_; rw [Nat.zero_add]; exact List.length_filter_le _ _) (by have:=List.length_filter_le (fun c:ai=>!inL [] c.fId) s.ab; have h3:=an (show s.ab.length≤1000000 by omega); show (s.ab.filter fun c=>!inL [] c.fId).length < ac; omega)
 rw [f1]
 simp only [zb]
 cases q with
 | inl m=>exact ⟨_,rfl,f2⟩
 | inr m=>exact ⟨_,rfl,f2⟩
theorem BN (s t:aa) (hl:s.ab.length≤1000000) (ht:t.ab.length≤1000000) : uy s t=some ((s.ab.filter fun c=>!DY t c.fId).map ai.fId):=by
 unfold uy
 dsimp only
 have e:gm s t=fun acc x=>if (!DY t x.fId)=true then (aW acc [x.fId]).map (fun a=>(.inl a:List Int⊕(List Int×Int))) else some (.inl acc):=by
  funext acc x
  unfold gm
  simp only [jr t x.fId ht,zb]
  split
  ·cases aW acc [x.fId] <;> rfl
  ·rfl
 rw [yW s t [] hl,e,cj (fun c:ai=>!DY t c.fId) ai.fId _ s.ab [] (by simpa using hl)]
 simp
theorem Mn {B:Nat} {s:aa} (h:SzS B s) (hB:B≤1000000) (id t:Int) : ∃ r,jY s id t=some r∧SzS B r∧r.ao=s.ao∧r.ab.length=s.ab.length:=by
 have k2:=h.conts
 have hl:s.ab.length≤1000000:=by omega
 unfold jY
 rw [aD (by simp; omega)]
 simp only [zb,List.nil_append]
 obtain ⟨r,r1,r2⟩:=aM (f:=lJ t id) (fun st=>∃ i:Nat,st.2=(i:Int)∧i≤s.ab.length∧st.1.length=s.ab.length) (fun st=>s.ab.length - st.2.toNat) (fun r=>r.1.length=s.ab.length) (fun st ⟨i,h1,h2,h3⟩=>by
  unfold lJ
  simp only [h1]
  by_cases hlt:i < st.1.length
  ·have g1:st.1[i]? = some st.1[i]:=zq hlt
   simp only [ci g1,if_true,aN g1,zt,zb,bm hlt (show st.1.length≤1000000 by omega)]
   split
   ·exact .inl ⟨_,rfl,⟨i + 1,rfl,by omega,by simp; omega⟩,by simp only [zt]; omega⟩
   ·exact .inl ⟨_,rfl,⟨i + 1,rfl,by omega,h3⟩,by simp only [zt]; omega⟩
  ·have:i=st.1.length:=by omega
   subst this
   simp only [bU,zf,if_false]
   exact .inr ⟨_,rfl,h3⟩) ac (s.ab,0) ⟨0,rfl,Nat.zero_le _,rfl⟩ (by have:=an hl; omega)
 rw [r1]
 exact ⟨_,rfl,h.cont (by omega),rfl,r2⟩
structure OkS (M:Nat) (s:aa) : Prop where
 m:SzM M s
 srt:jV az.fId s.ao
theorem OkS.mono {M N:Nat} {s:aa} (h:OkS M s) (hn:M≤N) : OkS N s:=⟨h.m.mono hn,h.srt⟩
theorem OkS.sz {M:Nat} {s:aa} (h:OkS M s) : SzS M s:=h.m.sz
theorem Gj (s:aa) (c:ai) (hl:s.ab.length≤1000000) : ∃ r,pM s c=some r:=by
 unfold pM
 dsimp only
 obtain ⟨r,r1,_⟩:=aM (f:=mU s c) (fun st=>∃ i:Nat,st.2=(i:Int)∧i≤s.ab.length) (fun st=>s.ab.length - st.2.toNat) (fun _=>True) (fun st ⟨i,h1,h2⟩=>by
  unfold mU
  simp only [h1]
  by_cases hlt:i < s.ab.length
  ·have g1:s.ab[i]? = some s.ab[i]:=zq hlt
   simp only [ci g1,if_true,aN g1,dM,zb,bm hlt hl]
   split
   ·split
    ·exact .inl ⟨_,rfl,⟨i + 1,rfl,hlt⟩,by simp only [zt]; omega⟩
    ·exact .inl ⟨_,rfl,⟨i + 1,rfl,hlt⟩,by simp only [zt]; omega⟩
   ·exact .inr ⟨_,rfl,trivial⟩
  ·have:i=s.ab.length:=by omega
   subst this
   simp only [bU,zf,if_false,zb]
   exact .inr ⟨_,rfl,trivial⟩) ac (0,0) ⟨0,rfl,Nat.zero_le _⟩ (by have:=an hl; show s.ab.length - (0:Int).toNat < ac; omega)
 rw [r1]
 exact ⟨_,rfl⟩
theorem Ih {k:Nat} (hk:k≤1000000) : i64.wrap ((k:Int) - 1)=(k:Int) - 1:=by rw [IntKind.wrap_i64]; omega
theorem OkS.note {M:Nat} {s:aa} (h:OkS M s) (hM:M≤1000000) (id t:Int) : ∃ r,jY s id t=some r∧OkS M r∧r.ab.length=s.ab.length:=by
 obtain ⟨⟨B,h1,h2⟩,h3⟩:=h
 obtain ⟨r,r1,r2,r3,r4⟩:=Mn h1 (by omega) id t
 exact ⟨r,r1,⟨⟨B,r2,by rw [r4]; exact h2⟩,by rw [r3]; exact h3⟩,r4⟩
theorem Mq {M:Nat} {s:aa} (h:OkS M s) (hM:M + 1≤1000000) (k:Int) : ∃ r,rJ s k=some r∧OkS M r∧r.ab.length≤s.ab.length:=by
 have hc:=h.sz.conts
 have hl:s.ab.length≤1000000:=by omega
 unfold rJ
 dsimp only
 rw [Ih hl]
 obtain ⟨r,r1,r2⟩:=aM (f:=pO s k) (fun st=>∃ i:Nat,st.2=(i:Int) - 1∧i≤s.ab.length∧st.1.length + i≤s.ab.length) (fun st=>(st.2 + 1).toNat) (fun r=>r.1.length≤s.ab.length) (fun st ⟨i,h1,h2,h3⟩=>by
  unfold pO
  simp only [h1]
  by_cases hlt : 0 < i
  ·obtain ⟨j,rfl⟩ : ∃ j,i=j + 1:=⟨i - 1,by omega⟩
   have hj:((j + 1:Nat) : Int) - 1=(j:Int):=by omega
   have g1:s.ab[j]? = some s.ab[j]:=zq (by omega)
   have hd:decide ((j:Int)≥0)=true:=by simp
   simp only [hj,hd,if_true,aN g1,dM,zb,Ih (show j≤1000000 by omega)]
   split
   ·rw [aD (by simp; omega)]
    exact .inl ⟨_,rfl,⟨j,rfl,by omega,by simp; omega⟩,by show ((j:Int) - 1 + 1).toNat < ((j:Int) + 1).toNat; omega⟩
   ·exact .inl ⟨_,rfl,⟨j,rfl,by omega,by show st.1.length + j≤_; omega⟩,by show ((j:Int) - 1 + 1).toNat < ((j:Int) + 1).toNat; omega⟩
  ·have:i=0:=by omega
   subst this
   have hd:decide (((0:Nat) : Int) - 1≥0)=false:=by simp
   simp only [hd,zf,if_false]
   exact .inr ⟨_,rfl,by show st.1.length≤_; omega⟩) ac ([],(s.ab.length:Int) - 1) ⟨s.ab.length,rfl,Nat.le_refl _,by simp⟩ (by have:=an hl; show ((s.ab.length:Int) - 1 + 1).toNat < ac; omega)
 rw [r1]
 simp only [zb]
 rw [yS r.1 k s (by omega)]
 obtain ⟨q,q1,q2⟩:=aV (g:=gg r.1 k) (fin:=fun b=>(b,(r.1.length:Int))) (fun _ b=>OkS M b∧b.ab.length≤s.ab.length) (fun r=>OkS M r.1∧r.1.ab.length≤s.ab.length) r.1 0 s (fun j t x hx ⟨ht,hle⟩=>by
  have hz:=ht.sz
  have k1:=hz.apps; have k2:=hz.conts
  unfold gg
  dsimp only
  rw [jr t _ (by omega)]
  simp only [zb]
  split
  ·exact ⟨_,rfl,fun a' e=>(by injection e with e; subst e; exact ⟨ht,hle⟩),fun r e=>(by cases e)⟩
  obtain ⟨u,hu⟩:=fp hz (by omega) (ca t (jN t x.fId).bz).bO k
  obtain ⟨o,ho⟩:=Gj t (jN t x.fId) (by omega)
  obtain ⟨mm,hmm⟩:=O5 hz hz.conf.deep (by omega) k (ca t (jN t x.fId).bz).bO
  obtain ⟨ls,l1,l2,l3,l4⟩:=Fy ht.m ht.srt [(jN t x.fId).fId] (by simp) (by omega)
  obtain ⟨nt,n1,n2,n3⟩:=ht.note (by omega) (jN t x.fId).fId 0
  simp only [ux t _ (show t.ao.length≤1000000 by omega),hu,ho,hmm,l1,n1,zb]
  split
  ·exact ⟨_,rfl,fun a' e=>(by injection e with e; subst e; exact ⟨⟨l2,l3⟩,by omega⟩),fun r e=>(by cases e)⟩
  ·exact ⟨_,rfl,fun a' e=>(by injection e with e; subst e; exact ⟨n2,by omega⟩),fun r e=>(by cases e)⟩) (fun b hb=>hb) ⟨h,Nat.le_refl _⟩
 rw [q1]
 exact ⟨_,rfl,q2⟩
theorem JR {M:Nat} {s:aa} (h:OkS M s) (hM:M + 1≤1000000) : ∃ r,o7 s=some r∧OkS M r.1∧r.1.ab.length≤s.ab.length:=by
 have hc:=h.sz.conts
 unfold o7
 dsimp only
 obtain ⟨r,r1,r2⟩:=aM (f:=ko) (fun st=>∃ i:Nat,st.2=(i:Int)∧i≤1000∧OkS M st.1∧st.1.ab.length≤s.ab.length) (fun st=>1000 - st.2.toNat) (fun r=>OkS M r.1∧r.1.ab.length≤s.ab.length) (fun st ⟨i,h1,h2,h3,h4⟩=>by
  unfold ko
  simp only [h1]
  split
  ·rename_i hlt
   have hlab:=h3.sz.conf.sz.labels
   have hlt:i < st.1.bL.al.length:=by have:=zd hlt; omega
   obtain ⟨a,a1,a2,a3⟩:=Mq h3 hM (i:Int)
   have hac:=a2.sz.conts
   obtain ⟨p,p1,p2⟩:=Mu a2.sz (by omega) (i:Int)
   have hp:p.length≤1000000:=by omega
   simp only [a1,p1,zb]
   rw [xn p a hp]
   obtain ⟨q,q1,q2⟩:=aV (g:=fm p) (fin:=fun b=>(b,(p.length:Int))) (fun _ b=>OkS M b∧b.ab.length≤s.ab.length) (fun r=>OkS M r.1∧r.1.ab.length≤s.ab.length) p 0 a (fun j t x hx ⟨ht,hle⟩=>by
    obtain ⟨nt,n1,n2,n3⟩:=ht.note (by omega) x (if 1 > t.cP then 1 else t.cP)
    unfold fm
    simp only [n1,zb]
    exact ⟨_,rfl,fun a' e=>(by injection e with e; subst e; exact ⟨n2,by omega⟩),fun r e=>(by cases e)⟩) (fun b hb=>hb) ⟨a2,by omega⟩
   rw [q1]
   simp only [zb,bm (show i < 1000 by omega) (show 1000≤1000000 by omega)]
   exact .inl ⟨_,rfl,⟨i + 1,rfl,by omega,q2.1,q2.2⟩,by simp only [zt]; omega⟩
  ·exact .inr ⟨_,rfl,h3,h4⟩) ac (s,0) ⟨0,rfl,by omega,h,Nat.le_refl _⟩ (by show 1000 - (0:Int).toNat < ac; unfold ac; omega)
 rw [r1]
 simp only [zb]
 have hrc:=r2.1.sz.conts
 rw [BN s r.1 (by omega) (by omega)]
 exact ⟨_,rfl,r2⟩
theorem PY {s:ByteArray} {a b:Nat} (h1:a≤b) (h2:b≤s.size) : Ix s (a:Int) (b:Int)=some (s.extract a b):=by
 unfold Ix
 rw [if_pos ⟨by omega,by omega,by simpa using h1,by simpa using h2⟩]
 simp
theorem PX {s:ByteArray} {a:Nat} (h1:a≤s.size) : Rg s (a:Int)=some (s.extract a s.size):=by
 unfold Rg
 rw [if_pos ⟨by omega,by simpa using h1⟩]
 simp
theorem PZ {s:ByteArray} {a:Nat} (h1:a≤s.size) : Ni s (a:Int)=some (s.extract 0 a):=by
 unfold Ni
 rw [if_pos ⟨by omega,by simpa using h1⟩]
 simp
theorem yk (s:ByteArray) (a b:Nat) : (s.extract a b).size≤s.size:=by simp only [ByteArray.size_extract]; omega
theorem vT {k:Nat} (hk:k≤1000000) : i64.wrap ((k:Int) + 1)=((k + 1:Nat) : Int):=by rw [IntKind.wrap_i64]; omega
theorem ltS {k n:Nat} (h:k < n) : decide ((k:Int) < (n:Int))=true:=by simpa using h
theorem geS {k:Nat} : decide ((k:Int) < (k:Int))=false:=by simp
theorem H0 (s:ByteArray) (c:Int) (hs:s.size≤100000) : ∃ r,E7 s c=some r∧r.length≤s.size + 1∧∀ x∈r,x.size≤s.size:=by
 unfold E7
 dsimp only
 obtain ⟨r,r1,r2⟩:=aM (f:=sI s c) (fun st=>∃ i a:Nat,st.2.2=(i:Int)∧st.2.1=(a:Int)∧i≤s.size∧a≤i∧st.1.length≤i∧∀ x∈st.1,x.size≤s.size) (fun st=>s.size - st.2.2.toNat) (fun r=>∃ a:Nat,r.2.1=(a:Int)∧a≤s.size∧r.1.length≤s.size∧∀ x∈r.1,x.size≤s.size) (fun st ⟨i,a,h1,h2,h3,h4,h5,h6⟩=>by
  unfold sI
  simp only [h1,h2]
  by_cases hlt:i < s.size
  ·obtain ⟨b,hb⟩:=pf (s:=s) (k:=(i:Int)) (by omega) (by simpa using hlt)
   simp only [ltS hlt,if_true,hb,zb,vT (show i≤1000000 by omega)]
   split
   ·rw [PY h4 h3]
    simp only [zb]
    rw [aD (by simp; omega)]
    refine .inl ⟨_,rfl,⟨i + 1,i + 1,rfl,rfl,hlt,Nat.le_refl _,by simp; omega,fun x hx=>?_⟩,by simp only [zt]; omega⟩
    simp only [List.mem_append,List.mem_singleton] at hx
    rcases hx with hx | rfl
    ·exact h6 x hx
    ·exact yk _ _ _
   ·exact .inl ⟨_,rfl,⟨i + 1,a,rfl,rfl,hlt,by omega,by show st.1.length≤i + 1; omega,h6⟩,by simp only [zt]; omega⟩
  ·have:i=s.size:=by omega
   subst this
   simp only [geS,zf,if_false]
   exact .inr ⟨_,rfl,a,rfl,h4,h5,h6⟩) ac ([],0,0) ⟨0,0,rfl,rfl,Nat.zero_le _,Nat.le_refl _,Nat.le_refl _,fun x hx=>by cases hx⟩ (by show s.size - (0:Int).toNat < ac; unfold ac; omega)
 rw [r1]
 obtain ⟨a,k1,k2,k3,k4⟩:=r2
 simp only [zb,k1]
 split
 ·rw [PX k2]
  simp only [zb]
  rw [aD (by simp; omega)]
  refine ⟨_,rfl,by simp; omega,fun x hx=>?_⟩
  simp only [List.mem_append,List.mem_singleton] at hx
  rcases hx with hx | rfl
  ·exact k4 x hx
  ·exact yk _ _ _
 ·exact ⟨_,rfl,by show r.1.length≤_; omega,k4⟩
theorem L8 (s:ByteArray) (hs:s.size≤100000) : ∃ r,yD s=some r∧r.length≤s.size + 1∧∀ x∈r,x.size≤s.size:=by
 obtain ⟨l,l1,l2,l3⟩:=H0 s 32 hs
 have hl:l.length≤1000000:=by omega
 unfold yD
 simp only [l1,zb]
 obtain ⟨r,r1,r2⟩:=aM (f:=pF l) (fun st=>∃ i:Nat,st.2=(i:Int)∧i≤l.length∧st.1.length≤i∧∀ x∈st.1,x.size≤s.size) (fun st=>l.length - st.2.toNat) (fun r=>r.1.length≤s.size + 1∧∀ x∈r.1,x.size≤s.size) (fun st ⟨i,h1,h2,h3,h4⟩=>by
  unfold pF
  simp only [h1]
  by_cases hlt:i < l.length
  ·have g1:l[i]? = some l[i]:=zq hlt
   simp only [ci g1,if_true,aN g1,zb,bm hlt hl]
   split
   ·rw [aD (by simp; omega)]
    refine .inl ⟨_,rfl,⟨i + 1,rfl,hlt,by simp; omega,fun x hx=>?_⟩,by simp only [zt]; omega⟩
    simp only [List.mem_append,List.mem_singleton] at hx
    rcases hx with hx | rfl
    ·exact h4 x hx
    ·exact l3 _ (List.getElem_mem _)
   ·exact .inl ⟨_,rfl,⟨i + 1,rfl,hlt,by show st.1.length≤i + 1; omega,h4⟩,by simp only [zt]; omega⟩
  ·have:i=l.length:=by omega
   subst this
   simp only [bU,zf,if_false]
   exact .inr ⟨_,rfl,by show st.1.length≤_; omega,h4⟩) ac ([],0) ⟨0,rfl,Nat.zero_le _,Nat.le_refl _,fun x hx=>by cases hx⟩ (by have:=an hl; show l.length - (0:Int).toNat < ac; omega)
 rw [r1]
 exact ⟨_,rfl,r2⟩
theorem sH (s:ByteArray) (hs:s.size≤100000) : ∃ r,o0 s=some r:=by
 unfold o0
 simp only [orB,zb]
 by_cases h0:s.size < 1∨s.size > 7
 ·have:(decide ((s.size:Int) < 1)||decide ((s.size:Int) > 7))=true:=by
   rcases h0 with h | h
   ·have:decide ((s.size:Int) < 1)=true:=by simp; omega
    rw [this]; rfl
   ·have:decide ((s.size:Int) > 7)=true:=by simp; omega
    rw [this]; simp
  simp only [this,if_true,zb]
  exact ⟨_,rfl⟩
 ·have:(decide ((s.size:Int) < 1)||decide ((s.size:Int) > 7))=false:=by
   have h1:decide ((s.size:Int) < 1)=false:=by simp; omega
   have h2:decide ((s.size:Int) > 7)=false:=by simp; omega
   rw [h1,h2]; rfl
  obtain ⟨b,hb⟩:=pf (s:=s) (k:=0) (by omega) (by simp; omega)
  simp only [this,zf,if_false,hb,dM,zb]
  split
  ·exact ⟨_,rfl⟩
  ·obtain ⟨r,r1,_⟩:=aM (f:=oh s) (fun st=>∃ i:Nat,st.2=(i:Int)∧i≤s.size) (fun st=>s.size - st.2.toNat) (fun _=>True) (fun st ⟨i,h1,h2⟩=>by
    unfold oh
    simp only [h1]
    by_cases hlt:i < s.size
    ·obtain ⟨b,hb⟩:=pf (s:=s) (k:=(i:Int)) (by omega) (by simpa using hlt)
     simp only [ltS hlt,if_true,hb,orB,zb,vT (show i≤1000000 by omega)]
     split
     ·exact .inr ⟨_,rfl,trivial⟩
     ·exact .inl ⟨_,rfl,⟨i + 1,rfl,hlt⟩,by simp only [zt]; omega⟩
    ·have:i=s.size:=by omega
     subst this
     simp only [geS,zf,if_false]
     exact .inr ⟨_,rfl,trivial⟩) ac (0,0) ⟨0,rfl,Nat.zero_le _⟩ (by show s.size - (0:Int).toNat < ac; unfold ac; omega)
   rw [r1]
   simp only [zb]
   cases r <;> exact ⟨_,rfl⟩
theorem L9 (s:ByteArray) (hs:s.size≤100000) : ∃ r,yE s=some r:=by
 unfold yE
 dsimp only
 obtain ⟨r,r1,i,r2,r3⟩:=aM (f:=pG s) (fun st=>∃ i:Nat,st=(i:Int)∧i≤s.size) (fun st=>s.size - st.toNat) (fun st=>∃ i:Nat,st=(i:Int)∧i≤s.size) (fun st ⟨i,h1,h2⟩=>by
  unfold pG
  simp only [h1]
  by_cases hlt:i < s.size
  ·obtain ⟨b,hb⟩:=pf (s:=s) (k:=(i:Int)) (by omega) (by simpa using hlt)
   simp only [ltS hlt,if_true,hb,zb,vT (show i≤1000000 by omega)]
   split
   ·exact .inl ⟨_,rfl,⟨i + 1,rfl,hlt⟩,by simp only [zt]; omega⟩
   ·exact .inr ⟨_,rfl,i,rfl,h2⟩
  ·have:i=s.size:=by omega
   subst this
   simp only [geS,zf,if_false,zb]
   exact .inr ⟨_,rfl,_,rfl,Nat.le_refl _⟩) ac 0 ⟨0,rfl,Nat.zero_le _⟩ (by show s.size - (0:Int).toNat < ac; unfold ac; omega)
 rw [r1]
 subst r2
 simp only [zb]
 split
 ·exact ⟨_,rfl⟩
 ·rename_i hne
  have hlt:i < s.size:=by
   have:i≠s.size:=fun e=>hne (by rw [e]; simp)
   omega
  obtain ⟨a,ha⟩:=sH (s.extract 0 i) (Nat.le_trans (yk _ _ _) hs)
  obtain ⟨b,hb⟩:=sH (s.extract (i + 1) s.size) (Nat.le_trans (yk _ _ _) hs)
  rw [PZ (Nat.le_of_lt hlt)]
  simp only [zb,ha,vT (show i≤1000000 by omega)]
  rw [PX hlt]
  simp only [zb,hb,dM]
  exact ⟨_,rfl⟩
theorem Ma (w:List ByteArray) (n:Nat) (hn:n≤1000) (hw:w.length≤100001) (hs:∀ x∈w,x.size≤100000) : ∃ r,yF w (n:Int)=some r∧r.1.bA.length≤100001∧r.1.aK.size≤100000:=by
 have hwr:i64.wrap (3 + (n:Int))=((3 + n:Nat) : Int):=by rw [IntKind.wrap_i64]; omega
 unfold yF
 simp only [hwr]
 by_cases hl:w.length=3 + n
 ·have hl':((w.length:Int) != ((3 + n:Nat) : Int))=false:=by rw [hl]; simp
  have g0:w[0]? = some w[0]:=zq (by omega)
  have g1:w[1]? = some w[1]:=zq (by omega)
  have g2:w[2]? = some w[2]:=zq (by omega)
  have i0:=aN g0
  have i1:=aN g1
  have i2:=aN g2
  obtain ⟨m,hm⟩:=sH w[2] (hs _ (List.getElem_mem _))
  have i0':aw w 0=some w[0]:=i0
  have i1':aw w 1=some w[1]:=i1
  have i2':aw w 2=some w[2]:=i2
  simp only [hl',zf,if_false,i0',zb]
  split
  ·exact ⟨_,rfl,by simp,Nat.zero_le _⟩
  ·simp only [i2',hm,i1',zb]
   obtain ⟨r,r1,r2⟩:=aM (f:=pH w) (fun st=>∃ i:Nat,st.2.2=(i:Int)∧i≤w.length∧st.2.1.bA.length≤i∧st.2.1.aK.size≤100000) (fun st=>w.length - st.2.2.toNat) (fun r=>r.2.1.bA.length≤100001∧r.2.1.aK.size≤100000) (fun st ⟨i,h1,h2,h3,h4⟩=>by
    unfold pH
    simp only [h1]
    by_cases hlt:i < w.length
    ·have g1:w[i]? = some w[i]:=zq hlt
     obtain ⟨c,hc⟩:=L9 w[i] (hs _ (List.getElem_mem _))
     simp only [ci g1,if_true,aN g1,hc,zb,bm hlt (show w.length≤1000000 by omega)]
     split
     ·rw [aD (by simp; omega)]
      exact .inl ⟨_,rfl,⟨i + 1,rfl,hlt,by simp; omega,h4⟩,by simp only [zt]; omega⟩
     ·exact .inr ⟨_,rfl,by show st.2.1.bA.length≤_; omega,h4⟩
    ·have:i=w.length:=by omega
     subst this
     simp only [bU,zf,if_false,zb]
     exact .inr ⟨_,rfl,by show st.2.1.bA.length≤_; omega,h4⟩) ac (m.2,(⟨w[1],[],m.1⟩ : aC),3) ⟨3,rfl,by omega,by simp,hs _ (List.getElem_mem _)⟩ (by show w.length - (3:Int).toNat < ac; unfold ac; omega)
   rw [r1]
   exact ⟨_,rfl,r2⟩
 ·have hl':((w.length:Int) != ((3 + n:Nat) : Int))=true:=by simp; omega
  simp only [hl',if_true,zb]
  exact ⟨_,rfl,by simp,Nat.zero_le _⟩
structure nf (c:ay) : Prop where
 labels:c.al.length≤3
 label:∀ x∈c.al,x.size≤100000
 queues:c.ae.length≤2001
 paths:∀ q∈c.ae,q.aK.size≤100000
 caps:∀ q∈c.ae,q.bA.length≤100001
theorem nf.nil:nf ⟨[],[]⟩:=⟨by simp,fun x hx=>(by cases hx),by simp,fun x hx=>(by cases hx),fun x hx=>(by cases hx)⟩
theorem Md (s:ByteArray) : ∃ r,yH s=some r∧nf r.1:=by
 unfold yH
 by_cases h0:s.size > 2000
 ·have:decide ((s.size:Int) > 2000)=true:=by simp; omega
  simp only [this,if_true]
  exact ⟨_,rfl,.nil⟩
 have hd:decide ((s.size:Int) > 2000)=false:=by simp; omega
 simp only [hd,zf,if_false]
 obtain ⟨l,l1,l2,l3⟩:=H0 s 10 (by omega)
 have hl:l.length≤1000000:=by omega
 simp only [l1,zb]
 obtain ⟨r,r1,r2⟩:=aM (f:=pJ l) (fun st=>∃ i:Nat,st.2.2=(i:Int)∧i≤l.length∧st.1.ae.length≤i∧nf st.1) (fun st=>l.length - st.2.2.toNat) (fun r=>match r with | .inl m=>nf m.1 | .inr m=>nf m.1) (fun st ⟨i,h1,h2,hq,hp⟩=>by
  unfold pJ
  simp only [h1]
  by_cases hlt:i < l.length
  ·have g1:l[i]? = some l[i]:=zq hlt
   have hls:=l3 _ (List.getElem_mem hlt)
   obtain ⟨w,w1,w2,w3⟩:=L8 l[i] (by omega)
   simp only [ci g1,if_true,aN g1,w1,zb,bm hlt hl]
   split
   ·exact .inl ⟨_,rfl,⟨i + 1,rfl,hlt,by show st.1.ae.length≤i + 1; omega,hp⟩,by simp only [zt]; omega⟩
   rename_i hw0
   have hw : 0 < w.length:=by
    rcases Nat.eq_zero_or_pos w.length with e | e
    ·rw [e] at hw0; simp at hw0
    ·exact e
   have i0':aw w 0=some w[0]:=aN (zq hw)
   split
   ·simp only [i0',zb]
    split
    ·exact .inr ⟨_,rfl,.nil⟩
    split
    ·exact .inr ⟨_,rfl,.nil⟩
    rename_i h3
    have h3:w.length≤3:=by have : ¬ ((w.length:Int) > 3):=fun e=>h3 (by simpa using e); omega
    have hlo:loO w 1=some (w.drop 1):=lh (l:=w) (k:=1) hw
    simp only [hlo,zb]
    rw [aD (by simp; omega)]
    simp only [zb]
    refine .inl ⟨_,rfl,⟨i + 1,rfl,hlt,by show st.1.ae.length≤i + 1; omega,⟨by simp; omega,fun x hx=>?_,hp.queues,hp.paths,hp.caps⟩⟩,by simp only [zt]; omega⟩
    simp only [List.singleton_append,List.mem_cons] at hx
    rcases hx with rfl | hx
    ·exact Nat.zero_le _
    ·have:=w3 x (List.mem_of_mem_drop hx); omega
   ·simp only [i0',dM,zb]
    split
    ·exact .inr ⟨_,rfl,.nil⟩
    obtain ⟨q,q1,q2,q3⟩:=Ma w st.1.al.length (by have:=hp.labels; omega) (by omega) (fun x hx=>by have:=w3 x hx; omega)
    simp only [q1,zb]
    split
    ·exact .inr ⟨_,rfl,.nil⟩
    obtain ⟨K,k1,k2,k3,k4⟩:=aM (f:=pI st.1 q.1) (fun st2=>∃ j:Nat,st2=(j:Int)∧j≤st.1.ae.length) (fun st2=>st.1.ae.length - st2.toNat) (fun st2=>∃ j:Nat,st2=(j:Int)∧j≤st.1.ae.length) (fun st2 ⟨j,e1,e2⟩=>by
     unfold pI
     simp only [e1]
     by_cases hj:j < st.1.ae.length
     ·have g2:st.1.ae[j]? = some st.1.ae[j]:=zq hj
      simp only [ci g2,if_true,aN g2,zb,bm hj (show st.1.ae.length≤1000000 by omega)]
      split
      ·exact .inl ⟨_,rfl,⟨j + 1,rfl,hj⟩,by simp only [zt]; omega⟩
      ·exact .inr ⟨_,rfl,j,rfl,e2⟩
     ·have:j=st.1.ae.length:=by omega
      subst this
      simp only [bU,zf,if_false,zb]
      exact .inr ⟨_,rfl,_,rfl,Nat.le_refl _⟩) ac 0 ⟨0,rfl,Nat.zero_le _⟩ (by have:=an (show st.1.ae.length≤1000000 by omega); show st.1.ae.length - (0:Int).toNat < ac; omega)
    subst k3
    have fin:∀ tw:Bool,(∃ s',(Option.bind (hiO st.1.ae ((k2:Nat) : Int)) fun b16=>Option.bind (aW ([] : (List aC)) b16) fun b17=>Option.bind (aW b17 [q.1]) fun b18=>Option.bind (loO st.1.ae ((k2:Nat) : Int)) fun b19=>Option.bind (aW b18 b19) fun b20=>some (Sum.inl ({ st.1 with ae:=b20 },tw,((i + 1:Nat) : Int)) : (ay×Bool×Int)⊕((ay×Bool×Int)⊕(ay×Int))))=some (.inl s')∧(∃ i:Nat,s'.2.2=(i:Int)∧i≤l.length∧s'.1.ae.length≤i∧nf s'.1)∧l.length - s'.2.2.toNat < l.length - ((i:Nat) : Int).toNat):=by
     intro tw
     rw [pm k4]
     simp only [zb]
     rw [aD (by simp; omega)]
     simp only [zb]
     rw [aD (by simp; omega)]
     simp only [zb]
     rw [lh k4]
     simp only [zb]
     rw [aD (by simp; omega)]
     simp only [zb]
     have mem:∀ x∈([] ++ st.1.ae.take k2 ++ [q.1])++st.1.ae.drop k2,x∈st.1.ae∨x=q.1:=by
      intro x hx
      simp only [List.nil_append,List.mem_append,List.mem_singleton] at hx
      rcases hx with (hx | hx) | hx
      ·exact .inl (List.mem_of_mem_take hx)
      ·exact .inr hx
      ·exact .inl (List.mem_of_mem_drop hx)
     refine ⟨_,rfl,⟨i + 1,rfl,hlt,by simp; omega,⟨hp.labels,hp.label,by simp; omega,fun x hx=>?_,fun x hx=>?_⟩⟩,by simp only [zt]; omega⟩
     ·rcases mem x hx with hx | rfl
      ·exact hp.paths x hx
      ·exact q3
     ·rcases mem x hx with hx | rfl
      ·exact hp.caps x hx
      ·exact q2
    simp only [k1,orB,zb]
    by_cases hj:k2 < st.1.ae.length
    ·have g2:st.1.ae[k2]? = some st.1.ae[k2]:=zq hj
     simp only [ci g2,if_true,aN g2,zb]
     by_cases ht:st.2.1=true
     ·simp only [ht,if_true,zb]
      exact .inl (fin _)
     ·simp only [ht,zf,if_false,zb]
      exact .inl (fin _)
    ·have:k2=st.1.ae.length:=by omega
     subst this
     simp only [bU,zf,if_false,zb]
     by_cases ht:st.2.1=true
     ·simp only [ht,if_true,zb]
      exact .inl (fin _)
     ·simp only [ht,zf,if_false,zb]
      exact .inl (fin _)
  ·have:i=l.length:=by omega
   subst this
   simp only [bU,zf,if_false]
   exact .inr ⟨_,rfl,hp⟩) ac ((⟨[],[]⟩ : ay),false,0) ⟨0,rfl,Nat.zero_le _,by simp,.nil⟩ (by have:=an hl; show l.length - (0:Int).toNat < ac; omega)
 rw [r1]
 simp only [zb]
 cases r with
 | inr m=>exact ⟨_,rfl,r2⟩
 | inl m =>
  dsimp only
  split
  ·exact ⟨_,rfl,.nil⟩
  split
  ·exact ⟨_,rfl,.nil⟩
  ·exact ⟨_,rfl,r2⟩
def inI (n:Int) : Prop:=-9223372036854775808≤n∧n≤9223372036854775807
theorem eZ {s t:ByteArray} (h:s.size + t.size≤9223372036854775807) : mn s t=some (s++t):=by unfold mn; rw [if_pos h]
theorem TP (n:Int) : ∃ r,Wb [n] = some r∧r.size=1:=⟨_,rfl,by simp [ByteArray.size_push]⟩
theorem NV:∀ (d:Nat) (n:Int),0≤n→n < 10 ^ (d + 1)→d≤30→n≤9223372036854775807→∀ f,d < f→∃ r,dp f n=some r∧r.size≤d + 1
 | d,n,h0,h1,hd,h2,0,hf=>by omega
 | d,n,h0,h1,hd,h2,f + 1,hf=>by
  unfold dp
  have e1:decide (n < 0)=false:=by simp; omega
  simp only [e1,zf,if_false]
  by_cases hn:n≥10
  ·have e2:decide (n≥10)=true:=by simpa using hn
   match d,h1,hd,hf with
   | 0,h1,_,_=>simp at h1; omega
   | d + 1,h1,hd,hf =>
   have hq:n.tdiv 10=n / 10:=Int.tdiv_eq_ediv_of_nonneg h0
   have hm:n.tmod 10=n % 10:=Int.tmod_eq_emod_of_nonneg h0
   have hw:i64.wrap (n / 10)=n / 10:=by rw [IntKind.wrap_i64]; omega
   have hlt:n / 10 < 10 ^ (d + 1):=by
    have e:(10:Int) ^ (d + 1 + 1)=10 ^ (d + 1) * 10:=by rw [Int.pow_succ]
    rw [e] at h1
    generalize (10:Int) ^ (d + 1)=P at h1 ⊢
    omega
   obtain ⟨a,a1,a2⟩:=NV d (n / 10) (by omega) hlt (by omega) (by omega) f (by omega)
   obtain ⟨b,b1,b2⟩:=NV 0 (n % 10) (by omega) (by simp; omega) (by omega) (by omega) f (by omega)
   simp only [e2,if_true,hq,hm,hw,a1,b1,zb]
   rw [eZ (by omega)]
   exact ⟨_,rfl,by simp only [ByteArray.size_append]; omega⟩
  ·have e2:decide (n≥10)=false:=by simp; omega
   obtain ⟨r,r1,r2⟩:=TP (IntKind.u8.wrap (i64.wrap (48 + n)))
   simp only [e2,zf,if_false,r1,zb]
   exact ⟨_,rfl,by omega⟩
theorem QN {n:Int} (h0 : 0≤n) (h:n≤9223372036854775807) {f:Nat} (hf : 18 < f) : ∃ r,dp f n=some r∧r.size≤19:=NV 18 n h0 (Int.lt_of_le_of_lt h (by decide)) (by omega) h f hf
theorem qM {n:Int} (h:inI n) : ∃ r,dp ac n=some r∧r.size≤30:=by
 by_cases h0 : 0≤n
 ·obtain ⟨r,r1,r2⟩:=QN h0 h.2 (f:=ac) (by unfold ac; omega)
  exact ⟨r,r1,by omega⟩
 ·have hr:ac=999999999 + 1:=rfl
  rw [hr]
  have hneg:∀ f,18 < f→∃ r,dp (f + 1) n=some r∧r.size≤30:=fun f hf=>by
   unfold dp
   have e1:decide (n < 0)=true:=by simp; omega
   simp only [e1,if_true]
   split
   ·exact ⟨_,rfl,by decide⟩
   ·rename_i hne
    have hne:n≠-9223372036854775808:=by simpa using hne
    have hw:i64.wrap (0 - n)=0 - n:=by rw [IntKind.wrap_i64]; have:=h.1; omega
    obtain ⟨a,a1,a2⟩:=QN (n:=0 - n) (by omega) (by have:=h.1; omega) (f:=f) hf
    simp only [hw,a1,zb]
    have e3:(⟨#[45]⟩ : ByteArray).size=1:=rfl
    rw [eZ (by rw [e3]; omega)]
    exact ⟨_,rfl,by simp only [ByteArray.size_append,e3]; omega⟩
  exact hneg 999999999 (by omega)
structure Vn (c:ay) : Prop where
 labels:c.al.length≤1000
 label:∀ x∈c.al,x.size≤100000
 queues:c.ae.length≤1000
 paths:∀ q∈c.ae,q.aK.size≤100000
 caps:∀ q∈c.ae,q.bA.length≤1000
 user:∀ q∈c.ae,inI q.eh
 nums:∀ q∈c.ae,∀ x∈q.bA,inI x.mO∧inI x.tX
theorem E8 {c:ay} (h:Vn c) : ∃ r,yG c=some r:=by
 have s1:(⟨#[32]⟩ : ByteArray).size=1:=rfl
 have s2:(⟨#[10]⟩ : ByteArray).size=1:=rfl
 have s3:(⟨#[47]⟩ : ByteArray).size=1:=rfl
 have s4:(⟨#[113,117,101,117,101,32]⟩ : ByteArray).size=6:=rfl
 have s5:(⟨#[108,97,98,101,108,115]⟩ : ByteArray).size=6:=rfl
 have hl:=h.labels
 have hq:=h.queues
 unfold yG
 dsimp only
 obtain ⟨r,r1,r2⟩:=aM (f:=qL c) (fun st=>∃ i:Nat,st.2=(i:Int)∧i≤1001∧st.1.size≤10 + i * 200000) (fun st=>c.al.length - st.2.toNat) (fun r=>r.1.size≤300000000) (fun st ⟨i,h1,h2,h3⟩=>by
  unfold qL
  simp only [h1]
  by_cases hlt:i < c.al.length
  ·have g1:c.al[i]? = some c.al[i]:=zq hlt
   have hs:=h.label _ (List.getElem_mem hlt)
   simp only [ci g1,if_true,aN g1,zb,bm hlt (show c.al.length≤1000000 by omega)]
   rw [eZ (by rw [s1]; omega)]
   simp only [zb]
   rw [eZ (by simp only [ByteArray.size_append,s1]; omega)]
   exact .inl ⟨_,rfl,⟨i + 1,rfl,by omega,by simp only [ByteArray.size_append,s1]; omega⟩,by simp only [zt]; omega⟩
  ·have:decide ((i:Int) < (c.al.length:Int))=false:=by simp; omega
   simp only [this,zf,if_false]
   exact .inr ⟨_,rfl,by show st.1.size≤_; omega⟩) ac ((⟨#[108,97,98,101,108,115]⟩ : ByteArray),1) ⟨1,rfl,by omega,by rw [s5]; omega⟩ (by show c.al.length - (1:Int).toNat < ac; unfold ac; omega)
 rw [r1]
 simp only [zb]
 rw [eZ (by rw [s2]; omega)]
 simp only [zb]
 obtain ⟨q,q1,_⟩:=aM (f:=qK c) (fun st=>∃ i:Nat,st.2=(i:Int)∧i≤c.ae.length∧st.1.size≤400000000 + i * 1000000) (fun st=>c.ae.length - st.2.toNat) (fun _=>True) (fun st ⟨i,h1,h2,h3⟩=>by
  unfold qK
  simp only [h1]
  by_cases hlt:i < c.ae.length
  ·have g1:c.ae[i]? = some c.ae[i]:=zq hlt
   have hm:=List.getElem_mem hlt
   generalize c.ae[i] = Q at g1 hm
   have hp:=h.paths _ hm
   have hc:=h.caps _ hm
   have hn:=h.nums _ hm
   obtain ⟨u,u1,u2⟩:=qM (h.user _ hm)
   simp only [ci g1,if_true,aN g1,u1,zb,bm hlt (show c.ae.length≤1000000 by omega)]
   rw [eZ (by rw [s4]; omega)]
   simp only [zb]
   rw [eZ (by simp only [ByteArray.size_append,s4]; omega)]
   simp only [zb]
   rw [eZ (by simp only [ByteArray.size_append,s4,s1]; omega)]
   simp only [zb]
   rw [eZ (by simp only [ByteArray.size_append,s4,s1]; omega)]
   simp only [zb]
   generalize hX:st.1++(⟨#[113,117,101,117,101,32]⟩ : ByteArray)++Q.aK++(⟨#[32]⟩ : ByteArray)++u=X
   have hXs:X.size≤400000000 + i * 1000000 + 200000:=by rw [← hX]; simp only [ByteArray.size_append,s4,s1]; omega
   obtain ⟨w,w1,w2⟩:=aM (f:=qJ Q) (fun st2=>∃ j:Nat,st2.2=(j:Int)∧j≤Q.bA.length∧st2.1.size≤X.size + j * 100) (fun st2=>Q.bA.length - st2.2.toNat) (fun r=>r.1.size≤X.size + 100000) (fun st2 ⟨j,e1,e2,e3⟩=>by
    unfold qJ
    simp only [e1]
    by_cases hj:j < Q.bA.length
    ·have g2:Q.bA[j]? = some Q.bA[j]:=zq hj
     obtain ⟨n1,n2⟩:=hn _ (List.getElem_mem hj)
     obtain ⟨a,a1,a2⟩:=qM n1
     obtain ⟨b,b1,b2⟩:=qM n2
     simp only [ci g2,if_true,aN g2,a1,b1,zb,bm hj (show Q.bA.length≤1000000 by omega)]
     rw [eZ (by rw [s1]; omega)]
     simp only [zb]
     rw [eZ (by simp only [ByteArray.size_append,s1]; omega)]
     simp only [zb]
     rw [eZ (by simp only [ByteArray.size_append,s1,s3]; omega)]
     simp only [zb]
     rw [eZ (by simp only [ByteArray.size_append,s1,s3]; omega)]
     exact .inl ⟨_,rfl,⟨j + 1,rfl,hj,by simp only [ByteArray.size_append,s1,s3]; omega⟩,by simp only [zt]; omega⟩
    ·have:j=Q.bA.length:=by omega
     subst this
     simp only [bU,zf,if_false]
     exact .inr ⟨_,rfl,by show st2.1.size≤_; omega⟩) ac (X,0) ⟨0,rfl,Nat.zero_le _,by simp⟩ (by show Q.bA.length - (0:Int).toNat < ac; unfold ac; omega)
   rw [w1]
   simp only [zb]
   rw [eZ (by rw [s2]; omega)]
   exact .inl ⟨_,rfl,⟨i + 1,rfl,hlt,by simp only [ByteArray.size_append,s2]; omega⟩,by simp only [zt]; omega⟩
  ·have:i=c.ae.length:=by omega
   subst this
   simp only [bU,zf,if_false]
   exact .inr ⟨_,rfl,trivial⟩) ac (r.1++(⟨#[10]⟩ : ByteArray),0) ⟨0,rfl,Nat.zero_le _,by simp only [ByteArray.size_append,s2]; omega⟩ (by show c.ae.length - (0:Int).toNat < ac; unfold ac; omega)
 rw [q1]
 exact ⟨_,rfl⟩
def cnt (s:ByteArray) (k:Nat) : Nat:=((s.data.toList.take k).filter (fun c=>c==46)).length
def dots (s:ByteArray) : Nat:=cnt s s.size
theorem GN {s:ByteArray} {i:Nat} {b:Int} (h:lb s (i:Int)=some b) : ∃ c:UInt8,s.data.toList[i]? = some c∧b=(c.toNat:Int):=by
 unfold lb at h
 rw [if_pos (by omega)] at h
 rw [zt,zm] at h
 obtain ⟨c,h1,h2⟩:=h
 exact ⟨c,h1,h2.symm⟩
theorem EG {s:ByteArray} {i:Nat} {c:UInt8} (h:s.data.toList[i]? = some c) : cnt s (i + 1)=cnt s i + (if c=46 then 1 else 0):=by
 unfold cnt
 rw [List.take_add_one,h,List.filter_append,List.length_append]
 by_cases hc:c=46
 ·subst hc; simp
 ·have:(c==46)=false:=by simpa using hc
  simp [hc,this]
theorem U6 (s:ByteArray) {i j:Nat} (h:i≤j) : cnt s i≤cnt s j:=by
 unfold cnt
 exact (List.Sublist.filter _ ((List.take_prefix_take_left h).sublist)).length_le
theorem UW {c:UInt8} (h:((c.toNat:Int) != 46)=false) : c=46:=by
 have h:(c.toNat:Int)=46:=by simpa using h
 have h:c.toNat=46:=by omega
 exact UInt8.toNat_inj.1 (by rw [h]; rfl)
theorem Ud {c:UInt8} (h:((c.toNat:Int) != 46)=true) : c≠46:=by
 intro e
 subst e
 simp at h
theorem UV {s:ByteArray} {k:Nat} (hk:k≤s.size) : dots (s.extract 0 k)=cnt s k:=by
 unfold dots cnt
 have e1:(s.extract 0 k).data.toList=s.data.toList.take k:=by
  simp [ByteArray.data_extract]
 have e2:(s.extract 0 k).size=k:=by simp only [ByteArray.size_extract]; omega
 rw [e1,e2,List.take_take,Nat.min_self]
theorem N6 {p r:ByteArray} (hp:p.size≤1000000) (h:d6 p=some r) : r.size=0∨dots r + 1≤dots p:=by
 unfold d6 at h
 dsimp only at h
 obtain ⟨k,hk,h⟩:=br h
 have hq:k < 0∨lb p k=some 46:=by
  refine mH (f:=jd p) (fun _=>True) (fun k=>k < 0∨lb p k=some 46) (fun st r _ h=>?_) _ _ k trivial hk
  unfold jd at h
  dsimp only at h
  obtain ⟨q,hq,h⟩:=br h
  split at h
  ·injection h with h; subst h; trivial
  ·rename_i hf
   injection h with h
   subst h
   show st < 0∨lb p st=some 46
   split at hq
   ·obtain ⟨b,hb,hq⟩:=br hq
    injection hq with hq
    have:b=46:=by rw [← hq] at hf; simpa using hf
    exact .inr (by rw [hb,this])
   ·rename_i hge
    exact .inl (by have : ¬ (st≥0):=fun e=>hge (by simpa using e); omega)
 split at h
 ·injection h with h; subst h; exact .inl rfl
 ·rename_i hge
  have hge : ¬ k < 0:=fun e=>hge (by simpa using e)
  obtain ⟨b,hb,h⟩:=br h
  injection h with h
  subst h
  rcases hq with hq | hq
  ·exact absurd hq hge
  ·obtain ⟨n,rfl⟩ : ∃ n:Nat,k=(n:Int):=⟨k.toNat,by omega⟩
   obtain ⟨c,hc,e⟩:=GN hq
   have hlt:n < p.size:=by have:=(zg.1 hc).1; simpa using this
   rw [PZ (Nat.le_of_lt hlt)] at hb
   injection hb with hb
   subst hb
   refine .inr ?_
   rw [UV (Nat.le_of_lt hlt)]
   have hc46:c=46:=UW (by rw [← e]; rfl)
   have h1:=EG hc
   rw [if_pos hc46] at h1
   have h2:=U6 p (i:=n + 1) (j:=p.size) hlt
   unfold dots
   omega
theorem rA {p:ByteArray} (hp:p.size≤1000000) : d6 p=some (eX p)∧((eX p).size < p.size∨(eX p).size=0):=by
 obtain ⟨r,h1,h2⟩:=nS p hp
 unfold eX
 rw [h1]
 exact ⟨rfl,h2⟩
theorem EA:∀ (n:Nat) (p:ByteArray),p.size≤1000000→dz n p≤dots p + 1
 | 0,p,_=>Nat.zero_le _
 | n + 1,p,hp=>by
  unfold dz
  split
  ·exact Nat.zero_le _
  ·obtain ⟨h1,h2⟩:=rA hp
   have ih:=EA n (eX p) (by omega)
   rcases N6 hp h1 with h | h
   ·have:dz n (eX p)=0:=by
     cases n with
     | zero=>rfl
     | succ n=>unfold dz; rw [if_pos h]
    omega
   ·omega
theorem E6 (s:ByteArray) : ∃ r,vn s=some r:=by
 unfold vn
 simp only [orB,zb]
 by_cases h0:s.size < 1∨s.size > 12
 ·have:(decide ((s.size:Int) < 1)||decide ((s.size:Int) > 12))=true:=by
   rcases h0 with h | h
   ·have:decide ((s.size:Int) < 1)=true:=by simp; omega
    rw [this]; rfl
   ·have:decide ((s.size:Int) > 12)=true:=by simp; omega
    rw [this]; simp
  simp only [this,if_true]
  exact ⟨_,rfl⟩
 ·have:(decide ((s.size:Int) < 1)||decide ((s.size:Int) > 12))=false:=by
   have h1:decide ((s.size:Int) < 1)=false:=by simp; omega
   have h2:decide ((s.size:Int) > 12)=false:=by simp; omega
   rw [h1,h2]; rfl
  simp only [this,zf,if_false]
  obtain ⟨r,r1,_⟩:=aM (f:=qI s) (fun st=>∃ i:Nat,st=(i:Int)∧i≤s.size) (fun st=>s.size - st.toNat) (fun _=>True) (fun st ⟨i,h1,h2⟩=>by
   unfold qI
   simp only [h1]
   by_cases hlt:i < s.size
   ·obtain ⟨b,hb⟩:=pf (s:=s) (k:=(i:Int)) (by omega) (by simpa using hlt)
    simp only [ltS hlt,if_true,hb,orB,dM,zb,vT (show i≤1000000 by omega)]
    split
    ·exact .inr ⟨_,rfl,trivial⟩
    ·exact .inl ⟨_,rfl,⟨i + 1,rfl,hlt⟩,by simp only [zt]; omega⟩
   ·have:i=s.size:=by omega
    subst this
    simp only [geS,zf,if_false]
    exact .inr ⟨_,rfl,trivial⟩) ac 0 ⟨0,rfl,Nat.zero_le _⟩ (by show s.size - (0:Int).toNat < ac; unfold ac; omega)
  rw [r1]
  simp only [zb]
  cases r <;> exact ⟨_,rfl⟩
theorem JA (s:ByteArray) (hs:s.size≤100000) : ∃ r,vm s=some r∧(r=true→dots s≤3):=by
 unfold vm
 dsimp only
 have hcn:∀ k,cnt s k≤100000:=fun k=>by
  unfold cnt
  refine Nat.le_trans (List.length_filter_le _ _) (Nat.le_trans (List.length_take_le' _ _) ?_)
  simpa using hs
 obtain ⟨r,r1,r2⟩:=aM (f:=og s) (fun st=>∃ i a n:Nat,st.2.2=(i:Int)∧st.1=(a:Int)∧st.2.1=(n:Int)∧a≤i∧((i≤s.size∧n=cnt s i)∨(i=s.size + 1∧n=cnt s s.size + 1))) (fun st=>s.size + 1 - st.2.2.toNat) (fun r=>match r with | .inl m=>m.2.1=((cnt s s.size + 1:Nat) : Int) | .inr b=>b=false) (fun st ⟨i,a,n,h1,h2,h3,h4,h5⟩=>by
  unfold og
  simp only [h1,h2,h3]
  rcases h5 with ⟨h5,h6⟩ | ⟨h5,h6⟩
  ·have hle:decide ((i:Int)≤(s.size:Int))=true:=by simp; omega
   have hn:n≤100000:=by rw [h6]; exact hcn i
   obtain ⟨nm,hnm⟩:=E6 (s.extract a i)
   simp only [hle,if_true]
   have body:∀ n',(n' = n + 1)→(i=s.size∨cnt s (i + 1)=n + 1)→∃ o,(Option.bind (Ix s (a:Int) (i:Int)) fun b5=>Option.bind (vn b5) fun c6=>Option.bind (if (!c6)=true then some true else Option.bind (if ((n:Int)==0)=true then Option.bind (Ix s (a:Int) (i:Int)) fun b7=>some (!(b7.toList==(⟨#[114,111,111,116]⟩ : ByteArray).toList)) else some false) fun q8=>some q8) fun q9=>if q9=true then some (Sum.inr (Sum.inr false) : (Int×Int×Int)⊕((Int×Int×Int)⊕Bool)) else some (.inl (i64.wrap ((i:Int) + 1),i64.wrap ((n:Int) + 1),i64.wrap ((i:Int) + 1))))=some o∧(o = .inr (.inr false)∨o = .inl (((i + 1:Nat) : Int),((n + 1:Nat) : Int),((i + 1:Nat) : Int))):=by
    intro n' _ _
    simp only [PY h4 h5,hnm,zb,vT (show i≤1000000 by omega),vT (show n≤1000000 by omega)]
    have:∀ q:Bool,∃ o,(if q=true then some (Sum.inr (Sum.inr false) : (Int×Int×Int)⊕((Int×Int×Int)⊕Bool)) else some (.inl (((i + 1:Nat) : Int),((n + 1:Nat) : Int),((i + 1:Nat) : Int))))=some o∧(o = .inr (.inr false)∨o = .inl (((i + 1:Nat) : Int),((n + 1:Nat) : Int),((i + 1:Nat) : Int))):=fun q=>by
     cases q
     ·exact ⟨_,rfl,.inr rfl⟩
     ·exact ⟨_,rfl,.inl rfl⟩
    cases nm with
    | false=>simp only [Bool.not_false,if_true,zb]; exact ⟨_,rfl,.inl rfl⟩
    | true =>
     simp only [Bool.not_true,zf,if_false]
     split
     ·simp only [zb]; exact this _
     ·simp only [zb]; exact this _
   by_cases hlt:i < s.size
   ·obtain ⟨b,hb⟩:=pf (s:=s) (k:=(i:Int)) (by omega) (by simpa using hlt)
    obtain ⟨c,hc,e⟩:=GN hb
    simp only [ltS hlt,if_true,hb,zb]
    cases hbd:(b != 46) with
    | true =>
     simp only [if_true,vT (show i≤1000000 by omega)]
     have hnd:=Ud (c:=c) (by rw [← e]; exact hbd)
     exact .inl ⟨_,rfl,⟨i + 1,a,n,rfl,rfl,rfl,by omega,.inl ⟨hlt,by rw [EG hc,if_neg hnd]; exact h6⟩⟩,by simp only [zt]; omega⟩
    | false =>
     simp only [zf,if_false]
     have hdt:=UW (c:=c) (by rw [← e]; exact hbd)
     have hcs:cnt s (i + 1)=n + 1:=by rw [EG hc,if_pos hdt,h6]
     obtain ⟨o,o1,o2⟩:=body (n + 1) rfl (.inr hcs)
     rw [o1]
     rcases o2 with rfl | rfl
     ·exact .inr ⟨_,rfl,rfl⟩
     ·exact .inl ⟨_,rfl,⟨i + 1,i + 1,n + 1,rfl,rfl,rfl,Nat.le_refl _,.inl ⟨hlt,hcs.symm⟩⟩,by simp only [zt]; omega⟩
   ·have hi:i=s.size:=by omega
    subst hi
    simp only [geS,zf,if_false,zb]
    obtain ⟨o,o1,o2⟩:=body (n + 1) rfl (.inl rfl)
    rw [o1]
    rcases o2 with rfl | rfl
    ·exact .inr ⟨_,rfl,rfl⟩
    ·exact .inl ⟨_,rfl,⟨s.size + 1,s.size + 1,n + 1,rfl,rfl,rfl,Nat.le_refl _,.inr ⟨rfl,by rw [h6]⟩⟩,by simp only [zt]; omega⟩
  ·have hle:decide ((i:Int)≤(s.size:Int))=false:=by simp; omega
   simp only [hle,zf,if_false]
   exact .inr ⟨_,rfl,by show (n:Int) = _; rw [h6]⟩) ac (0,0,0) ⟨0,0,0,rfl,rfl,rfl,Nat.le_refl _,.inl ⟨Nat.zero_le _,by simp [cnt]⟩⟩ (by show s.size + 1 - (0:Int).toNat < ac; unfold ac; omega)
 rw [r1]
 simp only [zb]
 cases r with
 | inr m=>exact ⟨_,rfl,fun e=>by rw [show m=false from r2] at e; cases e⟩
 | inl m =>
  refine ⟨_,rfl,fun e=>?_⟩
  have r2:m.2.1=((cnt s s.size + 1:Nat) : Int):=r2
  rw [r2] at e
  have:=zd e
  unfold dots
  omega
theorem Jz {c:ay} (h:nf c) : ∃ r,rB c=some r∧(r=0→1≤c.al.length∧c.al.length≤3∧c.ae.length≤16):=by
 have hl:=h.labels
 have hq:=h.queues
 unfold rB
 simp only [orB,zb]
 cases hb:(decide ((c.al.length:Int) < 1)||decide ((c.al.length:Int) > 3)||decide ((c.ae.length:Int) > 16)) with
 | true=>simp only [if_true]; exact ⟨_,rfl,fun e=>by cases e⟩
 | false =>
  simp only [Bool.or_eq_false_iff,decide_eq_false_iff_not] at hb
  obtain ⟨⟨b1,b2⟩,b3⟩:=hb
  have good : 1≤c.al.length∧c.al.length≤3∧c.ae.length≤16:=⟨by omega,by omega,by omega⟩
  have hpos : 0 < c.al.length:=by omega
  have i0:aw c.al 0=some c.al[0]:=aN (zq hpos)
  simp only [zf,if_false,i0,zb]
  split
  ·exact ⟨_,rfl,fun _=>good⟩
  obtain ⟨r,r1,_⟩:=aM (f:=oe c) (fun st=>∃ i:Nat,st=(i:Int)) (fun st=>c.al.length - st.toNat) (fun _=>True) (fun st ⟨i,h1⟩=>by
   unfold oe
   simp only [h1]
   by_cases hlt:i < c.al.length
   ·have g1:c.al[i]? = some c.al[i]:=zq hlt
    obtain ⟨n,hn⟩:=E6 c.al[i]
    simp only [ci g1,if_true,aN g1,hn,zb,bm hlt (show c.al.length≤1000000 by omega)]
    split
    ·exact .inr ⟨_,rfl,trivial⟩
    ·exact .inl ⟨_,rfl,⟨i + 1,rfl⟩,by simp only [zt]; omega⟩
   ·have:decide ((i:Int) < (c.al.length:Int))=false:=by simp; omega
    simp only [this,zf,if_false]
    exact .inr ⟨_,rfl,trivial⟩) ac 1 ⟨1,rfl⟩ (by show c.al.length - (1:Int).toNat < ac; unfold ac; omega)
  rw [r1]
  simp only [zb]
  cases r with
  | inr m=>exact ⟨_,rfl,fun _=>good⟩
  | inl m =>
   dsimp only
   obtain ⟨q,q1,_⟩:=aM (f:=od c) (fun st=>∃ i:Nat,st=(i:Int)) (fun st=>c.al.length - st.toNat) (fun _=>True) (fun st ⟨i,h1⟩=>by
    unfold od
    simp only [h1]
    by_cases hlt:i < c.al.length
    ·have g1:c.al[i]? = some c.al[i]:=zq hlt
     obtain ⟨w,w1,_⟩:=aM (f:=ob (i:Int) c) (fun st=>∃ j:Nat,st=(j:Int)) (fun st=>i - st.toNat) (fun _=>True) (fun st ⟨j,e1⟩=>by
      unfold ob
      simp only [e1]
      by_cases hj:j < i
      ·have g2:c.al[j]? = some c.al[j]:=zq (by omega)
       have hd:decide ((j:Int) < (i:Int))=true:=by simpa using hj
       simp only [hd,if_true,aN g1,aN g2,zb,vT (show j≤1000000 by omega)]
       split
       ·exact .inr ⟨_,rfl,trivial⟩
       ·exact .inl ⟨_,rfl,⟨j + 1,rfl⟩,by simp only [zt]; omega⟩
      ·have hd:decide ((j:Int) < (i:Int))=false:=by simp; omega
       simp only [hd,zf,if_false]
       exact .inr ⟨_,rfl,trivial⟩) ac 1 ⟨1,rfl⟩ (by show i - (1:Int).toNat < ac; unfold ac; omega)
     simp only [ci g1,if_true,w1,zb]
     cases w with
     | inr m=>exact .inr ⟨_,rfl,trivial⟩
     | inl m =>
      simp only [bm hlt (show c.al.length≤1000000 by omega)]
      exact .inl ⟨_,rfl,⟨i + 1,rfl⟩,by simp only [zt]; omega⟩
    ·have:decide ((i:Int) < (c.al.length:Int))=false:=by simp; omega
     simp only [this,zf,if_false]
     exact .inr ⟨_,rfl,trivial⟩) ac 1 ⟨1,rfl⟩ (by show c.al.length - (1:Int).toNat < ac; unfold ac; omega)
   rw [q1]
   simp only [zb]
   cases q with
   | inr m=>exact ⟨_,rfl,fun _=>good⟩
   | inl m=>exact ⟨_,rfl,fun _=>good⟩
structure uL (c:ay) (i:Nat) (q:aC) : Prop where
 dots:dots q.aK≤3
 above : 0 < i→isQ c (eX q.aK)=true
 caps:q.bA.length=c.al.length
theorem nf.sz {c:ay} (h:nf c) (hc:∀ q∈c.ae,q.bA.length≤1000) (hq:c.ae.length≤16) : SzC c :=
 ⟨Nat.le_trans h.labels (by decide),Nat.le_trans hq (by decide),hc,fun q hq=>Nat.le_trans (h.paths q hq) (by decide)⟩
theorem SK (c:ay) (p:ByteArray) (hq:c.ae.length≤1000000) (hc:∀ q∈c.ae,q.bA.length≤1000000) : jA c p=some (D5 c p,isQ c p):=by
 unfold jA D5 isQ
 dsimp only
 rw [rC c p () hq]
 have hg:dN c p=fun (_:Unit) q=>if (q.aK.toList==p.toList)=true then Option.bind (aW [] q.bA) fun b=>some (.inr (.inr ({ q with bA:=b },true))) else some (.inl ()):=rfl
 obtain ⟨r,h1,h2⟩ : ∃ r,bl (dN c p) (fun _=>(.inl (c.ae.length:Int) : Int⊕(aC×Bool))) () c.ae=some r∧r=(match c.ae.find? fun q=>q.aK.toList==p.toList with | some q=>.inr (q,true) | none=>.inl (c.ae.length:Int)):=by
  rw [hg]
  have:∀ l:List aC,(∀ q∈l,q.bA.length≤1000000)→bl (fun (_:Unit) q=>if (q.aK.toList==p.toList)=true then Option.bind (aW [] q.bA) fun b=>some (.inr (.inr ({ q with bA:=b },true))) else some (.inl ())) (fun _=>(.inl (c.ae.length:Int) : Int⊕(aC×Bool))) () l=some (match l.find? fun q=>q.aK.toList==p.toList with | some q=>.inr (q,true) | none=>.inl (c.ae.length:Int)):=by
   intro l
   induction l with
   | nil=>intro _; rfl
   | cons q l ih =>
    intro hl
    simp only [bl,List.find?_cons]
    cases hb:(q.aK.toList==p.toList) with
    | true =>
     simp only [if_true]
     rw [aD (by have:=hl q List.mem_cons_self; simp; omega)]
     simp
    | false =>
     simp only [zf,if_false]
     exact ih (fun x hx=>hl x (List.mem_cons_of_mem _ hx))
  exact ⟨_,this _ hc,rfl⟩
 rw [h1,h2]
 cases hf:c.ae.find? fun q=>q.aK.toList==p.toList with
 | none =>
  have:(c.ae.any fun q=>q.aK.toList==p.toList)=false:=by
   rw [List.any_eq_false]; intro x hx; have:=List.find?_eq_none.1 hf x hx; simpa using this
  rw [this]; rfl
 | some q =>
  have:(c.ae.any fun q=>q.aK.toList==p.toList)=true:=by rw [List.any_eq_true]; exact ⟨q,List.mem_of_find?_eq_some hf,List.find?_some (p:=fun q:aC=>q.aK.toList==p.toList) hf⟩
  rw [this]; rfl
theorem L2 {c:ay} (h:nf c) (i:Nat) (hi:i < c.ae.length) : ∃ r,un c (i:Int)=some r∧(r=0→uL c i c.ae[i]):=by
 have hq:=h.queues
 have g1:c.ae[i]? = some c.ae[i]:=zq hi
 have hm:=List.getElem_mem hi
 have hps:=h.paths _ hm
 have hcs:=h.caps _ hm
 obtain ⟨b,b1,b2⟩:=JA c.ae[i].aK hps
 obtain ⟨a1,a2⟩:=rA (p:=c.ae[i].aK) (by omega)
 have hfind:=SK c (eX c.ae[i].aK) (by omega) (fun q hq=>Nat.le_trans (h.caps q hq) (by decide))
 unfold un
 simp only [aN g1,b1,zb]
 cases b with
 | false=>simp only [Bool.not_false,if_true]; exact ⟨_,rfl,fun e=>by cases e⟩
 | true =>
  have hd:=b2 rfl
  simp only [Bool.not_true,zf,if_false]
  have step:∀ q4:Bool,∃ r,(if q4=true then some 7 else Option.bind (d6 c.ae[i].aK) fun c5=>Option.bind (jA c c5) fun c6=>Option.bind (if decide ((i:Int) > 0)=true then some (!c6.2) else some false) fun q7=>if q7=true then some 12 else Option.bind (if decide (c.ae[i].eh < 1)=true then some true else some (decide (c.ae[i].eh > 1000000))) fun q8=>Option.bind (if q8=true then some true else some ((c.ae[i].bA.length:Int) != (c.al.length:Int))) fun q9=>if q9=true then some 1 else Option.bind (ah (lD c.ae[i]) ac 0) fun r15=>match r15 with | .inr m16=>some m16 | .inl m16=>some (0:Int))=some r∧(r=0→uL c i c.ae[i]):=by
   intro q4
   cases q4 with
   | true=>simp only [if_true]; exact ⟨_,rfl,fun e=>by cases e⟩
   | false =>
    simp only [zf,if_false,a1,hfind,zb,orB,dM]
    split
    ·exact ⟨_,rfl,fun e=>by cases e⟩
    rename_i h7
    split
    ·exact ⟨_,rfl,fun e=>by cases e⟩
    rename_i h9
    have good:uL c i c.ae[i]:=⟨hd,fun h0=>by
     have hdd:decide ((i:Int) > 0)=true:=by simpa using h0
     rw [hdd] at h7
     simpa using h7,by
     have : ¬ ((c.ae[i].bA.length:Int) != (c.al.length:Int))=true:=fun e=>h9 (by rw [e]; simp)
     have:(c.ae[i].bA.length:Int)=(c.al.length:Int):=by simpa using this
     omega⟩
    obtain ⟨w,w1,_⟩:=aM (f:=lD c.ae[i]) (fun st=>∃ j:Nat,st=(j:Int)) (fun st=>c.ae[i].bA.length - st.toNat) (fun _=>True) (fun st ⟨j,e1⟩=>by
     unfold lD
     simp only [e1]
     by_cases hj:j < c.ae[i].bA.length
     ·have g2:c.ae[i].bA[j]? = some c.ae[i].bA[j]:=zq hj
      simp only [ci g2,if_true,aN g2,orB,zb,bm hj (show c.ae[i].bA.length≤1000000 by omega)]
      split
      ·exact .inr ⟨_,rfl,trivial⟩
      ·exact .inl ⟨_,rfl,⟨j + 1,rfl⟩,by simp only [zt]; omega⟩
     ·have hd:decide ((j:Int) < (c.ae[i].bA.length:Int))=false:=by simp; omega
      simp only [hd,zf,if_false]
      exact .inr ⟨_,rfl,trivial⟩) ac 0 ⟨0,rfl⟩ (by show c.ae[i].bA.length - (0:Int).toNat < ac; unfold ac; omega)
    rw [w1]
    simp only [zb]
    cases w with
    | inr m=>exact ⟨_,rfl,fun _=>good⟩
    | inl m=>exact ⟨_,rfl,fun _=>good⟩
  by_cases h0 : 0 < i
  ·have hdd:decide ((i:Int) > 0)=true:=by simpa using h0
   obtain ⟨k,rfl⟩ : ∃ k,i=k + 1:=⟨i - 1,by omega⟩
   have hk:i64.wrap (((k + 1:Nat) : Int) - 1)=(k:Int):=by rw [Ih (by omega)]; omega
   have g2:c.ae[k]? = some c.ae[k]:=zq (by omega)
   simp only [hdd,if_true,hk,aN g2,zb]
   have:=step (Op.bytesLess c.ae[k + 1].aK.toList c.ae[k].aK.toList||c.ae[k + 1].aK.toList==c.ae[k].aK.toList)
   simp only [hdd,if_true] at this
   exact this
  ·have hdd:decide ((i:Int) > 0)=false:=by simp; omega
   simp only [hdd,zf,if_false,zb]
   have:=step false
   simp only [hdd,zf,if_false] at this
   exact this
theorem uo (c:ay) (p:ByteArray) (h:SzC c) : ∃ r,ff c p=some r∧r.length≤c.ae.length∧∀ x∈r,∃ q∈c.ae,q.aK=x∧(!(p.toList==(⟨#[]⟩ : ByteArray).toList))=true∧eX x=p:=by
 unfold ff
 have hs:=jz c p [] (by have:=h.queues; omega)
 dsimp only
 rw [hs]
 obtain ⟨r,h1,h2⟩:=aV (g:=cw c p) (fin:=fun a=>(a,(c.ae.length:Int))) (fun k a=>a.length≤k∧∀ x∈a,∃ q∈c.ae,q.aK=x∧(!(p.toList==(⟨#[]⟩ : ByteArray).toList))=true∧eX x=p) (fun r=>r.1.length≤c.ae.length∧∀ x∈r.1,∃ q∈c.ae,q.aK=x∧(!(p.toList==(⟨#[]⟩ : ByteArray).toList))=true∧eX x=p) c.ae 0 [] (fun j a x hx ⟨h1,h2⟩=>by
  have hm:=List.mem_of_getElem? hx
  have hj:=(zg.1 hx).1
  obtain ⟨hr,_⟩:=rA (h.paths x hm)
  have hqs:=h.queues
  unfold cw
  simp only [hr,zb,dM]
  split
  ·rename_i hc
   rw [Bool.and_eq_true] at hc
   rw [aD (by simp; omega)]
   refine ⟨_,rfl,fun a' e=>?_,fun r e=>by cases e⟩
   injection e with e
   subst e
   refine ⟨by simp; omega,fun y hy=>?_⟩
   simp only [List.mem_append,List.mem_singleton] at hy
   rcases hy with hy | rfl
   ·exact h2 y hy
   ·exact ⟨x,hm,rfl,hc.1,ru hc.2⟩
  ·refine ⟨_,rfl,fun a' e=>?_,fun r e=>by cases e⟩
   injection e with e
   subst e
   exact ⟨by omega,h2⟩) (fun a ⟨h1,h2⟩=>⟨by simpa using h1,h2⟩) ⟨by simp,by simp⟩
 rw [h1]
 exact ⟨_,rfl,h2⟩
theorem CJ {c:ay} {q:aC} (h:q∈c.ae) : isQ c q.aK=true:=by
 unfold isQ
 rw [List.any_eq_true]
 exact ⟨q,h,by simp⟩
theorem LY:eX ⟨#[114,111,111,116]⟩=⟨#[]⟩:=by kernel_rfl
theorem Ol {c:ay} (h:SzC c) (hc:∀ q∈c.ae,q.bA.length=c.al.length) : ∃ r,CS c=some r:=by
 have hq:=h.queues
 have hl:=h.labels
 unfold CS
 dsimp only
 rw [AU c () (by omega)]
 obtain ⟨r,r1,_⟩:=aV (g:=il c) (fin:=fun _=>(.inl (c.ae.length:Int) : Int⊕Bool)) (fun _ _=>True) (fun _=>True) c.ae 0 () (fun j a x hx _=>by
  obtain ⟨ks,k1,k2,k3⟩:=uo c x.aK h
  have hkl:ks.length≤1000000:=by omega
  unfold il
  simp only [k1,zb]
  obtain ⟨w,w1,_⟩:=aM (f:=nr c ks) (fun st=>∃ i:Nat,st=(i:Int)) (fun st=>c.al.length - st.toNat) (fun _=>True) (fun st ⟨i,h1⟩=>by
   unfold nr
   simp only [h1,dM]
   by_cases hlt:i < c.al.length
   ·obtain ⟨v,v1,_⟩ : ∃ v,ah (jX ks c (i:Int)) ac (0,0)=some v∧True:=by
     rw [AR ks c (i:Int) 0 hkl]
     exact aV (g:=ik ks c (i:Int)) (fin:=fun a=>(a,(ks.length:Int))) (fun _ _=>True) (fun _=>True) ks 0 0 (fun j2 a y hy _=>by
      obtain ⟨q,q1,q2,_⟩:=k3 y (List.mem_of_getElem? hy)
      have hqq:isQ c y=true:=by rw [← q2]; exact CJ q1
      have hcl:=hc _ (yi hqq).1
      have g2:(D5 c y).bA[i]? = some (D5 c y).bA[i]:=zq (by omega)
      unfold ik
      simp only [mQ c y h,zb,aN g2]
      exact ⟨_,rfl,fun _ _=>trivial,fun _ _=>trivial⟩) (fun _ _=>trivial) trivial
    simp only [v1,zb,vT (show i≤1000000 by omega)]
    split
    ·split
     ·exact .inr ⟨_,rfl,trivial⟩
     ·exact .inl ⟨_,rfl,⟨i + 1,rfl⟩,by simp only [zt]; omega⟩
    ·exact .inr ⟨_,rfl,trivial⟩
   ·have hd:decide ((i:Int) < (c.al.length:Int))=false:=by simp; omega
    simp only [hd,Bool.false_and,zf,if_false]
    exact .inr ⟨_,rfl,trivial⟩) ac 0 ⟨0,rfl⟩ (by show c.al.length - (0:Int).toNat < ac; unfold ac; omega)
  rw [w1]
  simp only [zb]
  cases w <;> exact ⟨_,rfl,fun _ _=>trivial,fun _ _=>trivial⟩) (fun _ _=>trivial) trivial
 rw [r1]
 simp only [zb]
 cases r <;> exact ⟨_,rfl⟩
structure XF (c:ay) : Prop where
 form:zK c
 lab1 : 1≤c.al.length
 lab3:c.al.length≤3
 leaf:∃ q∈c.ae,Bs c q.aK=true
theorem Eg {α : Type} (f : α→Nat) : ∀ (l:List α),l≠[]→∃ x∈l,∀ y∈l,f y≤f x
 | [],h=>absurd rfl h
 | [x],_=>⟨x,List.mem_cons_self,fun y hy=>by simp at hy; subst hy; exact Nat.le_refl _⟩
 | x::z::l,_=>by
  obtain ⟨m,hm,hmax⟩:=Eg f (z::l) (by simp)
  by_cases h:f m≤f x
  ·refine ⟨x,List.mem_cons_self,fun y hy=>?_⟩
   rcases List.mem_cons.1 hy with rfl | hy
   ·exact Nat.le_refl _
   ·exact Nat.le_trans (hmax y hy) h
  ·refine ⟨m,List.mem_cons_of_mem _ hm,fun y hy=>?_⟩
   rcases List.mem_cons.1 hy with rfl | hy
   ·omega
   ·exact hmax y hy
theorem Qp {c:ay} (h:SzC c) (hne:c.ae≠[]) : ∃ q∈c.ae,Bs c q.aK=true:=by
 obtain ⟨q,hq,hmax⟩:=Eg (fun q:aC=>q.aK.size) c.ae hne
 refine ⟨q,hq,?_⟩
 obtain ⟨ks,k1,k2,k3⟩:=uo c q.aK h
 have hnil:ks = []:=by
  cases ks with
  | nil=>rfl
  | cons x ks =>
   exfalso
   obtain ⟨q2,m1,m2,m3,m4⟩:=k3 x List.mem_cons_self
   have h0:=ql m3
   subst m2
   rcases (rA (h.paths q2 m1)).2 with e | e
   ·have:=hmax q2 m1
    rw [m4] at e
    omega
   ·rw [m4] at e; omega
 have:kh c q.aK=some true:=by
  unfold kh
  simp only [mQ c _ h,CJ hq,if_true,k1,hnil,zb]
  rfl
 unfold Bs
 rw [this]; rfl
theorem WI {c:ay} (h:nf c) (hl : 1≤c.al.length∧c.al.length≤3∧c.ae.length≤16) (hroot:∃ q,c.ae[0]? = some q∧q.aK=⟨#[114,111,111,116]⟩) (hq:∀ i (hi:i < c.ae.length),uL c i c.ae[i]) : XF c:=by
 have hmem:∀ q∈c.ae,∃ i,uL c i q∧(i=0→q.aK=⟨#[114,111,111,116]⟩):=fun q hm=>by
  obtain ⟨i,hi,rfl⟩:=List.getElem_of_mem hm
  refine ⟨i,hq i hi,fun e=>?_⟩
  subst e
  obtain ⟨q0,e1,e2⟩:=hroot
  rw [zq hi] at e1
  injection e1 with e1
  rw [e1]; exact e2
 have hcap:∀ q∈c.ae,q.bA.length=c.al.length:=fun q hm=>by
  obtain ⟨i,hp,_⟩:=hmem q hm
  exact hp.caps
 have hsz:SzC c:=h.sz (fun q hm=>by rw [hcap q hm]; omega) hl.2.2
 have hne:c.ae≠[]:=by
  obtain ⟨q0,e1,_⟩:=hroot
  intro e
  rw [e] at e1
  cases e1
 refine ⟨⟨hsz,hcap,fun q hm r hr=>?_,⟨hl.2.2,fun q hm=>?_⟩,hl.1,Qp hsz hne,fun x hx=>Nat.le_trans (h.label x hx) (by decide)⟩,hl.1,hl.2.1,Qp hsz hne⟩
 ·unfold yC at hr
  dsimp only at hr
  obtain ⟨st,hst,hr⟩:=br hr
  injection hr with hr
  subst hr
  refine mH (f:=nT) (fun st=>(∀ x∈st.1,isQ c x=true)∧(0 < st.2.size→isQ c st.2=true)) (fun t=>∀ x∈t.1,isQ c x=true) (fun st r ⟨i1,i2⟩ h1=>?_) _ ([],q.aK) st ⟨fun x hx=>(by cases hx),fun _=>CJ hm⟩ hst
  unfold nT at h1
  dsimp only at h1
  split at h1
  ·rename_i hne2
   have h0:=ql hne2
   have hq2:=i2 h0
   obtain ⟨b,hb,h1⟩:=br h1
   obtain ⟨a,ha,h1⟩:=br h1
   injection h1 with h1
   subst h1
   obtain ⟨g1,g2⟩:=yi hq2
   have ge:=ru g2
   obtain ⟨i,hp,hrt⟩:=hmem _ g1
   rw [ge] at hrt
   have hav:a=eX st.2:=by
    unfold eX
    rw [ha]; rfl
   refine ⟨fun x hx=>?_,fun ha0=>?_⟩
   ·have hb2:=(yx hb).2
    subst hb2
    simp only [List.mem_append,List.mem_singleton] at hx
    rcases hx with hx | rfl
    ·exact i1 x hx
    ·exact hq2
   ·show isQ c a=true
    rcases Nat.eq_zero_or_pos i with e | e
    ·have:=hrt e
     exfalso
     have:a=⟨#[]⟩:=by rw [hav,this]; exact LY
     rw [show (((b,a) : List ByteArray×ByteArray).2)=a from rfl,this] at ha0
     exact absurd ha0 (by decide)
    ·have:=hp.above e
     rw [ge] at this
     rw [hav]; exact this
  ·injection h1 with h1
   subst h1
   exact i1
 ·obtain ⟨i,hp,_⟩:=hmem q hm
  have:=EA 6 q.aK (by have:=h.paths q hm; omega)
  have:=hp.dots
  omega
theorem L7 {c:ay} (h:nf c) : ∃ r,uq c=some r∧(r=0→XF c):=by
 obtain ⟨e,e1,e2⟩:=Jz h
 have hqs:=h.queues
 unfold uq
 simp only [e1,zb]
 by_cases he:e=0
 ·subst he
  have hl:=e2 rfl
  have n0:((0:Int) != 0)=false:=by decide
  simp only [n0,zf,if_false]
  by_cases hq0:c.ae.length=0
  ·have:((c.ae.length:Int)==0)=true:=by simp [hq0]
   simp only [this,if_true,zb]
   exact ⟨_,rfl,fun e=>by cases e⟩
  ·have hb:((c.ae.length:Int)==0)=false:=by simp; intro e; exact hq0 (by rw [e]; rfl)
   have hpos : 0 < c.ae.length:=by omega
   have i0:aw c.ae 0=some c.ae[0]:=aN (zq hpos)
   simp only [hb,zf,if_false,i0,zb]
   cases hr:(!(c.ae[0].aK.toList==(⟨#[114,111,111,116]⟩ : ByteArray).toList)) with
   | true=>simp only [if_true]; exact ⟨_,rfl,fun e=>by cases e⟩
   | false =>
    have hrt:c.ae[0].aK=⟨#[114,111,111,116]⟩:=ru (by simpa using hr)
    simp only [zf,if_false]
    obtain ⟨w,w1,w2⟩:=aM (f:=pE c) (fun st=>∃ i:Nat,st=(i:Int)∧i≤c.ae.length∧∀ j (hj:j < c.ae.length),j < i→uL c j c.ae[j]) (fun st=>c.ae.length - st.toNat) (fun r=>match r with | .inl _=>∀ j (hj:j < c.ae.length),uL c j c.ae[j] | .inr m=>m≠0) (fun st ⟨i,h1,h2,h3⟩=>by
     unfold pE
     simp only [h1]
     by_cases hlt:i < c.ae.length
     ·have g1:c.ae[i]? = some c.ae[i]:=zq hlt
      obtain ⟨b,b1,b2⟩:=L2 h i hlt
      simp only [ci g1,if_true,b1,zb,bm hlt (show c.ae.length≤1000000 by omega)]
      split
      ·rename_i hne
       exact .inr ⟨_,rfl,by simpa using hne⟩
      ·rename_i hz
       have hz:b=0:=by simpa using hz
       refine .inl ⟨_,rfl,⟨i + 1,rfl,hlt,fun j hj hji=>?_⟩,by simp only [zt]; omega⟩
       rcases Nat.lt_or_ge j i with h4 | h4
       ·exact h3 j hj h4
       ·have:j=i:=by omega
        subst this
        exact b2 hz
     ·have:i=c.ae.length:=by omega
      subst this
      simp only [bU,zf,if_false]
      exact .inr ⟨_,rfl,fun j hj=>h3 j hj hj⟩) ac 0 ⟨0,rfl,Nat.zero_le _,fun j _ hj=>by omega⟩ (by show c.ae.length - (0:Int).toNat < ac; unfold ac; omega)
    rw [w1]
    simp only [zb]
    cases w with
    | inr m=>exact ⟨_,rfl,fun e=>absurd e w2⟩
    | inl m =>
     dsimp only
     have w2:∀ j (hj:j < c.ae.length),uL c j c.ae[j]:=w2
     have hform:=WI h hl ⟨_,zq hpos,hrt⟩ w2
     have hcap0:=(w2 0 hpos).caps
     obtain ⟨v,v1,v2⟩:=aM (f:=pD c) (fun st=>∃ i:Nat,st=(i:Int)) (fun st=>c.al.length - st.toNat) (fun _=>True) (fun st ⟨i,h1⟩=>by
      unfold pD
      simp only [h1]
      by_cases hlt:i < c.al.length
      ·have g1:c.al[i]? = some c.al[i]:=zq hlt
       have g2:c.ae[0].bA[i]? = some c.ae[0].bA[i]:=zq (by omega)
       simp only [ci g1,if_true,i0,aN g2,zb,bm hlt (show c.al.length≤1000000 by omega)]
       split
       ·exact .inr ⟨_,rfl,trivial⟩
       ·exact .inl ⟨_,rfl,⟨i + 1,rfl⟩,by simp only [zt]; omega⟩
      ·have hd:decide ((i:Int) < (c.al.length:Int))=false:=by simp; omega
       simp only [hd,zf,if_false]
       exact .inr ⟨_,rfl,trivial⟩) ac 0 ⟨0,rfl⟩ (by show c.al.length - (0:Int).toNat < ac; unfold ac; omega)
     rw [v1]
     simp only [zb]
     cases v with
     | inr m=>exact ⟨_,rfl,fun _=>hform⟩
     | inl m =>
      dsimp only
      obtain ⟨s,s1⟩:=Ol hform.form.sz hform.form.each
      rw [s1]
      simp only [zb]
      cases s <;> exact ⟨_,rfl,fun _=>hform⟩
 ·have:(e != 0)=true:=by simpa using he
  simp only [this,if_true]
  exact ⟨_,rfl,fun e0=>absurd e0 he⟩
def dc (oy:Int) (v_n:Int) : Option (Int) :=
 (FV oy v_n).bind fun b1=>let v_k:Int:=b1
 (if (decide (v_k < 0))=true then
 let v_k:Int:=(i64.wrap (v_k + v_n))
 some v_k
 else
 some v_k).bind fun j2=>let v_k:=j2
 some v_k
def kv (fI:(List Int)) (v_i:Int) : Option (Int) :=
 if ((fI.length:Int)==0)=true then
 some v_i
 else
 (FV v_i (fI.length:Int)).bind fun b1=>(aw fI b1).bind fun b2=>some b2
def ek (v_c:ay) (st:aC×Int) : Option ((aC×Int)⊕((aC×Int))) :=
 let v_q:=st.1
 let v_k:=st.2
 if (decide (v_k < (v_c.al.length:Int)))=true then
 (aW v_q.bA [(⟨10000,10000⟩ : eu)]).bind fun b11=>let v_q:aC:={ v_q with bA:=b11 }
 let v_k:Int:=(i64.wrap (v_k + 1))
 some (.inl (v_q,v_k))
 else
 some (.inr (v_q,v_k))
def dv (v_l:(List ByteArray)) (fI:(List Int)) (st:ay×Int) : Option ((ay×Int)⊕((ay×Int))) :=
 let v_c:=st.1
 let v_i:=st.2
 if (decide (v_i < (v_l.length:Int)))=true then
 (aw v_l v_i).bind fun b5=>let v_q:aC:=(⟨b5,[],1000000⟩ : aC)
 (if (decide (v_i < (fI.length:Int)))=true then (aw fI v_i).bind fun b6=>some ((Int.tmod b6 3)==0) else some false).bind fun q7=>(if q7=true then
 (aw fI v_i).bind fun b9=>(dc b9 20000).bind fun c10=>let v_q:aC:={ v_q with eh:=(i64.wrap (1 + c10)) }
 some v_q
 else
 some v_q).bind fun j8=>let v_q:=j8
 let v_k:Int:=0
 (ah (ek v_c) ac (v_q,v_k)).bind fun r12 =>
 let v_q:=r12.1
 let v_k:=r12.2
 (aW v_c.ae [v_q]).bind fun b13=>let v_c:ay:={ v_c with ae:=b13 }
 let v_i:Int:=(i64.wrap (v_i + 1))
 some (.inl (v_c,v_i))
 else
 some (.inr (v_c,v_i))
def ej (kZ:Int) (v_n:Int) (cg:Int) (v_j:Int) (bB:(List ByteArray)) (st:ay×Int) : Option ((ay×Int)⊕((ay×Int))) :=
 let v_c:=st.1
 let v_m:=st.2
 if (decide (v_m < (v_c.ae.length:Int)))=true then
 (aw v_c.ae v_m).bind fun b28=>(aw bB v_j).bind fun b29=>if (b28.aK.toList==b29.toList)=true then
 (aw v_c.ae v_m).bind fun b30=>(aw b30.bA kZ).bind fun b31=>(aw v_c.ae v_m).bind fun b32=>let v_c:ay:={ v_c with ae:=(List.set v_c.ae (Int.toNat v_m) ({ b32 with bA:=(List.set b30.bA (Int.toNat kZ) (⟨v_n,cg⟩ : eu)) })) }
 let v_m:Int:=(i64.wrap (v_m + 1))
 some (.inl (v_c,v_m))
 else
 let v_m:Int:=(i64.wrap (v_m + 1))
 some (.inl (v_c,v_m))
 else
 some (.inr (v_c,v_m))
def cU (bB:(List ByteArray)) (fI:(List Int)) (aU:Int) (kZ:Int) (st:Int×ay×Int) : Option ((Int×ay×Int)⊕((Int×ay×Int))) :=
 let ch:=st.1
 let v_c:=st.2.1
 let v_j:=st.2.2
 if (decide (v_j < (bB.length:Int)))=true then
 let v_n:Int:=ch
 (if (decide (v_j < (i64.wrap ((bB.length:Int) - 1))))=true then
 (kv fI (i64.wrap ((i64.wrap (aU + v_j)) + kZ))).bind fun c18=>(dc c18 (i64.wrap (ch + 1))).bind fun c19=>(kv fI (i64.wrap ((i64.wrap (aU * v_j)) + kZ))).bind fun c20=>(dc c20 4).bind fun c21=>(aw ([0,(i64.wrap (Int.tdiv ch 2)),ch,c19] : (List Int)) c21).bind fun b22=>let v_n:Int:=b22
 some v_n
 else
 some v_n).bind fun j17=>let v_n:=j17
 let ch:Int:=(i64.wrap (ch - v_n))
 (kv fI (i64.wrap (v_j + kZ))).bind fun c23=>(dc c23 (i64.wrap ((i64.wrap (10000 - v_n)) + 1))).bind fun c24=>(kv fI (i64.wrap (aU + (i64.wrap (2 * v_j))))).bind fun c25=>(dc c25 3).bind fun c26=>(aw ([10000,v_n,(i64.wrap (v_n + c24))] : (List Int)) c26).bind fun b27=>let cg:Int:=b27
 let v_m:Int:=0
 (ah (ej kZ v_n cg v_j bB) ac (v_c,v_m)).bind fun r33 =>
 let v_c:=r33.1
 let v_m:=r33.2
 let v_j:Int:=(i64.wrap (v_j + 1))
 some (.inl (ch,v_c,v_j))
 else
 some (.inr (ch,v_c,v_j))
def du (fI:(List Int)) (aU:Int) (bB:(List ByteArray)) (st:ay×Int) : Option ((ay×Int)⊕((ay×Int))) :=
 let v_c:=st.1
 let kZ:=st.2
 if (decide (kZ < (v_c.al.length:Int)))=true then
 let ch:Int:=10000
 let v_j:Int:=0
 (ah (cU bB fI aU kZ) ac (ch,v_c,v_j)).bind fun r34 =>
 let ch:=r34.1
 let v_c:=r34.2.1
 let v_j:=r34.2.2
 let kZ:Int:=(i64.wrap (kZ + 1))
 some (.inl (v_c,kZ))
 else
 some (.inr (v_c,kZ))
def cK (v_l:(List ByteArray)) (fI:(List Int)) (st:ay×Int) : Option ((ay×Int)⊕((ay×Int))) :=
 let v_c:=st.1
 let aU:=st.2
 if (decide (aU < (v_l.length:Int)))=true then
 (aw v_l aU).bind fun b15=>(ff v_c b15).bind fun c16=>let bB:(List ByteArray):=c16
 let kZ:Int:=0
 (ah (du fI aU bB) ac (v_c,kZ)).bind fun r35 =>
 let v_c:=r35.1
 let kZ:=r35.2
 let aU:Int:=(i64.wrap (aU + 1))
 some (.inl (v_c,aU))
 else
 some (.inr (v_c,aU))
def fO (PP:Int) (fI:(List Int)) : Option (ay) :=
 let V5:(List (List ByteArray)):=([([(⟨#[114,111,111,116]⟩ : ByteArray)] : (List ByteArray)),([(⟨#[114,111,111,116]⟩ : ByteArray),(⟨#[114,111,111,116,46,97]⟩ : ByteArray),(⟨#[114,111,111,116,46,98]⟩ : ByteArray)] : (List ByteArray)),([(⟨#[114,111,111,116]⟩ : ByteArray),(⟨#[114,111,111,116,46,97]⟩ : ByteArray),(⟨#[114,111,111,116,46,97,46,120]⟩ : ByteArray),(⟨#[114,111,111,116,46,97,46,121]⟩ : ByteArray),(⟨#[114,111,111,116,46,98]⟩ : ByteArray)] : (List ByteArray)),([(⟨#[114,111,111,116]⟩ : ByteArray),(⟨#[114,111,111,116,46,97]⟩ : ByteArray),(⟨#[114,111,111,116,46,98]⟩ : ByteArray),(⟨#[114,111,111,116,46,98,46,120]⟩ : ByteArray),(⟨#[114,111,111,116,46,98,46,120,46,112]⟩ : ByteArray),(⟨#[114,111,111,116,46,98,46,120,46,113]⟩ : ByteArray),(⟨#[114,111,111,116,46,99]⟩ : ByteArray)] : (List ByteArray)),([(⟨#[114,111,111,116]⟩ : ByteArray),(⟨#[114,111,111,116,46,97]⟩ : ByteArray)] : (List ByteArray))] : (List (List ByteArray)))
 (dc (i64.wrap (Int.tdiv PP 5)) 2).bind fun c2=>(hiO ([(⟨#[]⟩ : ByteArray),(⟨#[103,112,117]⟩ : ByteArray)] : (List ByteArray)) (i64.wrap (1 + c2))).bind fun b1=>let v_c:ay:=(⟨b1,[]⟩ : ay)
 (dc PP 5).bind fun c3=>(aw V5 c3).bind fun b4=>let v_l:(List ByteArray):=b4
 let v_i:Int:=0
 (ah (dv v_l fI) ac (v_c,v_i)).bind fun r14 =>
 let v_c:=r14.1
 let v_i:=r14.2
 let aU:Int:=0
 (ah (cK v_l fI) ac (v_c,aU)).bind fun r36 =>
 let v_c:=r36.1
 let aU:=r36.2
 some v_c
def iw (v_c:ay) (st:aC) (x_:ByteArray) : Option ((aC)⊕((aC×Int))) :=
 let v_q:=st
 (aW v_q.bA [(⟨10000,10000⟩ : eu)]).bind fun b12=>let v_q:aC:={ v_q with bA:=b12 }
 some (.inl v_q)
theorem rP (v_c:ay) (a_:aC) (hl:v_c.al.length≤1000000) : ah (ek v_c) ac (a_,(0))=bl (iw v_c) (fun a_=>(a_,((v_c.al.length:Int)))) a_ v_c.al :=
 ax v_c.al (S:=aC×Int) (fun a_ k_=>(a_,(k_))) (iw v_c) (fun a_=>(a_,((v_c.al.length:Int)))) (an hl) (fun k a x hx=>by
  unfold ek iw; exact bE)
  (fun a=>by unfold ek; exact cA) a_
def iy (v_l:(List ByteArray)) (fI:(List Int)) (st:ay) (v_i:Int) (x_:ByteArray) : Option ((ay)⊕((ay×Int))) :=
 let v_c:=st
 let v_q:aC:=(⟨x_,[],1000000⟩ : aC)
 (if (decide (v_i < (fI.length:Int)))=true then (aw fI v_i).bind fun b14=>some ((Int.tmod b14 3)==0) else some false).bind fun q15=>(if q15=true then
 (aw fI v_i).bind fun b17=>(dc b17 20000).bind fun c18=>let v_q:aC:={ v_q with eh:=(i64.wrap (1 + c18)) }
 some v_q
 else
 some v_q).bind fun j16=>let v_q:=j16
 let v_k:Int:=0
 (ah (ek v_c) ac (v_q,v_k)).bind fun r19 =>
 let v_q:=r19.1
 let v_k:=r19.2
 (aW v_c.ae [v_q]).bind fun b20=>let v_c:ay:={ v_c with ae:=b20 }
 some (.inl v_c)
theorem Ba (v_l:(List ByteArray)) (fI:(List Int)) (a_:ay) (hl:v_l.length≤1000000) : ah (dv v_l fI) ac (a_,(0))=nC (iy v_l fI) (fun a_=>(a_,((v_l.length:Int)))) a_ 0 v_l :=
 fa v_l (S:=ay×Int) (fun a_ k_=>(a_,(k_))) (iy v_l fI) (fun a_=>(a_,((v_l.length:Int)))) (an hl) (fun k a x hx=>by
  unfold dv iy; exact bE)
  (fun a=>by unfold dv; exact cA) a_
def it (bB:(List ByteArray)) (fI:(List Int)) (aU:Int) (kZ:Int) (st:Int×ay) (v_j:Int) (x_:ByteArray) : Option ((Int×ay)⊕((Int×ay×Int))) :=
 let ch:=st.1
 let v_c:=st.2
 let v_n:Int:=ch
 (if (decide (v_j < (i64.wrap ((bB.length:Int) - 1))))=true then
 (kv fI (i64.wrap ((i64.wrap (aU + v_j)) + kZ))).bind fun c35=>(dc c35 (i64.wrap (ch + 1))).bind fun c36=>(kv fI (i64.wrap ((i64.wrap (aU * v_j)) + kZ))).bind fun c37=>(dc c37 4).bind fun c38=>(aw ([0,(i64.wrap (Int.tdiv ch 2)),ch,c36] : (List Int)) c38).bind fun b39=>let v_n:Int:=b39
 some v_n
 else
 some v_n).bind fun j34=>let v_n:=j34
 let ch:Int:=(i64.wrap (ch - v_n))
 (kv fI (i64.wrap (v_j + kZ))).bind fun c40=>(dc c40 (i64.wrap ((i64.wrap (10000 - v_n)) + 1))).bind fun c41=>(kv fI (i64.wrap (aU + (i64.wrap (2 * v_j))))).bind fun c42=>(dc c42 3).bind fun c43=>(aw ([10000,v_n,(i64.wrap (v_n + c41))] : (List Int)) c43).bind fun b44=>let cg:Int:=b44
 let v_m:Int:=0
 (ah (ej kZ v_n cg v_j bB) ac (v_c,v_m)).bind fun r45 =>
 let v_c:=r45.1
 let v_m:=r45.2
 some (.inl (ch,v_c))
theorem A8 (bB:(List ByteArray)) (fI:(List Int)) (aU:Int) (kZ:Int) (a_:Int×ay) (hl:bB.length≤1000000) : ah (cU bB fI aU kZ) ac (a_.1,a_.2,(0))=nC (it bB fI aU kZ) (fun a_=>(a_.1,a_.2,((bB.length:Int)))) a_ 0 bB :=
 fa bB (S:=Int×ay×Int) (fun a_ k_=>(a_.1,a_.2,(k_))) (it bB fI aU kZ) (fun a_=>(a_.1,a_.2,((bB.length:Int)))) (an hl) (fun k a x hx=>by
  unfold cU it; exact bE)
  (fun a=>by unfold cU; exact cA) a_
def iu (v_l:(List ByteArray)) (fI:(List Int)) (st:ay) (aU:Int) (x_:ByteArray) : Option ((ay)⊕((ay×Int))) :=
 let v_c:=st
 (ff v_c x_).bind fun c36=>let bB:(List ByteArray):=c36
 let kZ:Int:=0
 (ah (du fI aU bB) ac (v_c,kZ)).bind fun r37 =>
 let v_c:=r37.1
 let kZ:=r37.2
 some (.inl v_c)
theorem A9 (v_l:(List ByteArray)) (fI:(List Int)) (a_:ay) (hl:v_l.length≤1000000) : ah (cK v_l fI) ac (a_,(0))=nC (iu v_l fI) (fun a_=>(a_,((v_l.length:Int)))) a_ 0 v_l :=
 fa v_l (S:=ay×Int) (fun a_ k_=>(a_,(k_))) (iu v_l fI) (fun a_=>(a_,((v_l.length:Int)))) (an hl) (fun k a x hx=>by
  unfold cK iu; exact bE)
  (fun a=>by unfold cK; exact cA) a_
theorem g6 (a:Int) {n:Int} (h0 : 0 < n) (h1:n≤1000000000) : Ok (dc a n) (fun k=>0≤k∧k < n):=by
 unfold dc FV
 rw [if_neg (by omega)]
 have h:=Iq (a:=a) h0
 simp only [zb]
 refine Ok.bind (P:=fun k=>0≤k∧k < n) (Ok.ite (fun hc=>?_) fun hc=>?_) fun r hr=>Ok.pure hr
 ·have:=zd hc
  refine Ok.pure ?_
  rw [IntKind.wrap_i64]; omega
 ·have:=of_decide_eq_false (by simpa using hc:decide (a.tmod n < 0)=false)
  exact Ok.pure (by omega)
theorem sU (ns:List Int) {i:Int} (h : 0≤i) : Ok (kv ns i) (fun _=>True):=by
 unfold kv
 refine Ok.ite (fun _=>Ok.pure trivial) fun hc=>?_
 have hn:(ns.length:Int)≠0:=fun e=>hc (by rw [e]; rfl)
 unfold FV
 rw [if_neg hn]
 simp only [zb]
 refine Ok.bind (ka (Int.tmod_nonneg _ h) (Iq (by omega)).2) fun r _=>Ok.pure trivial
structure QG (L:Nat) (q:aC) : Prop where
 path:q.aK.size≤100
 caps:q.bA.length=L
 user:inI q.eh
 nums:∀ x∈q.bA,inI x.mO∧inI x.tX
structure CG (L:Nat) (c:ay) : Prop where
 labels:c.al.length=L
 label:∀ x∈c.al,x.size≤100
 queues:∀ q∈c.ae,QG L q
theorem CG.text {L:Nat} {c:ay} (h:CG L c) (hL:L≤10) (hn:c.ae.length≤10) : Vn c :=
 ⟨by have:=h.labels; omega,fun x hx=>Nat.le_trans (h.label x hx) (by omega),by omega,fun q hq=>Nat.le_trans (h.queues q hq).path (by omega),fun q hq=>by have:=(h.queues q hq).caps; omega,fun q hq=>(h.queues q hq).user,fun q hq=>(h.queues q hq).nums⟩
theorem CG.sz {L:Nat} {c:ay} (h:CG L c) (hL:L≤10) (hn:c.ae.length≤10) : SzC c :=
 ⟨by have:=h.labels; omega,by omega,fun q hq=>by have:=(h.queues q hq).caps; omega,fun q hq=>Nat.le_trans (h.queues q hq).path (by omega)⟩
theorem oX {n:Int} (h : -1000000000≤n∧n≤1000000000) : inI n:=by unfold inI; omega
theorem Qi {α : Type} {l:List α} {i:Nat} {a x : α} (h:x∈l.set i a) : x∈l∨x=a:=List.mem_or_eq_of_mem_set h
theorem VK {L:Nat} {k:Nat} (hk:k < L) {n most:Int} (hn:inI n) (hm:inI most) {kids:List ByteArray} {j:Nat} (hj:j < kids.length) {N:Nat} (hN:N≤10) {c:ay} (hc:CG L c) (hcn:c.ae.length=N) : Ok (ah (ej (k:Int) n most (j:Int) kids) ac (c,0)) (fun r=>CG L r.1∧r.1.ae.length=N):=by
 refine aM (fun st=>∃ m:Nat,st.2=(m:Int)∧m≤N∧CG L st.1∧st.1.ae.length=N) (fun st=>N - st.2.toNat) _ (fun st ⟨m,h1,h2,h3,h4⟩=>?_) ac (c,0) ⟨0,rfl,Nat.zero_le _,hc,hcn⟩ (by show N - (0:Int).toNat < ac; unfold ac; omega)
 unfold ej
 simp only [h1]
 split
 ·rename_i hlt
  have hlt:m < st.1.ae.length:=by have:=zd hlt; omega
  have e1:=zq hlt
  have e2:=zq hj
  have hq:=h3.queues _ (List.getElem_mem hlt)
  have hkk:k < st.1.ae[m].bA.length:=by rw [hq.caps]; exact hk
  have e3:=zq hkk
  simp only [aN e1,aN e2,aN e3,zb,bm (show m < 10 by omega) (show 10≤1000000 by omega),zt]
  left
  split
  ·refine ⟨_,rfl,⟨m + 1,rfl,by omega,⟨h3.labels,h3.label,fun q hq'=>?_⟩,by simpa using h4⟩,by simp only [zt]; omega⟩
   rcases Qi hq' with h | h
   ·exact h3.queues q h
   ·subst h
    refine ⟨hq.path,by simpa using hq.caps,hq.user,fun x hx=>?_⟩
    rcases Qi hx with h | h
    ·exact hq.nums x h
    ·subst h; exact ⟨hn,hm⟩
  ·exact ⟨_,rfl,⟨m + 1,rfl,by omega,h3,h4⟩,by simp only [zt]; omega⟩
 ·exact .inr ⟨_,rfl,h3,h4⟩
theorem w64 {n:Int} (h : -1000000000000≤n∧n≤1000000000000) : i64.wrap n=n:=by rw [IntKind.wrap_i64]; omega
theorem VM {L:Nat} {k:Nat} (hk:k < L) (hL:L≤10) {kids:List ByteArray} (hkd:kids.length≤10) (ns:List Int) {i:Nat} (hi:i≤10) {N:Nat} (hN:N≤10) {c:ay} (hc:CG L c) (hcn:c.ae.length=N) : Ok (ah (cU kids ns (i:Int) (k:Int)) ac (10000,c,0)) (fun r=>CG L r.2.1∧r.2.1.ae.length=N):=by
 have:=A8 kids ns (i:Int) (k:Int) (10000,c) (by omega)
 dsimp only at this
 rw [this]
 refine Ok.weak (tB (g:=it kids ns (i:Int) (k:Int)) (fin:=fun a_=>(a_.1,a_.2,((kids.length:Int)))) (fun _ st=>(0≤st.1∧st.1≤10000)∧CG L st.2∧st.2.ae.length=N) kids (10000,c) (fun j st x hx ⟨⟨l0,l1⟩,h2,h3⟩=>?_) ⟨⟨by omega,by omega⟩,hc,hcn⟩) (fun r ⟨a,e,h⟩=>by subst e; exact h.2)
 have hj:=(zg.1 hx).1
 obtain ⟨left,c⟩:=st
 dsimp only at l0 l1 h2 h3
 unfold it
 dsimp only
 have hij:(i:Int) * (j:Int)≤100:=by
  have:i * j≤10 * 10:=Nat.mul_le_mul hi (by omega)
  exact_mod_cast this
 have hij0 : 0≤(i:Int) * (j:Int):=Int.mul_nonneg (by omega) (by omega)
 refine Ok.bind (P:=fun n=>0≤n∧n≤left) (Ok.ite (fun _=>?_) fun _=>Ok.pure ⟨l0,Int.le_refl _⟩) fun n hn=>?_
 ·have h2d:left.tdiv 2=left / 2:=Int.tdiv_eq_ediv_of_nonneg l0
  rw [h2d,w64 (n:=(i:Int) + j) (by omega),w64 (n:=(i:Int) + j + k) (by omega),w64 (n:=left + 1) (by omega),w64 (n:=(i:Int) * j) (by omega),w64 (n:=(i:Int) * j + k) (by omega),w64 (n:=left / 2) (by omega)]
  refine Ok.bind (sU ns (by omega)) fun p _=>Ok.bind (g6 p (by omega) (by omega)) fun v hv=>Ok.bind (sU ns (by omega)) fun p2 _=>Ok.bind (g6 p2 (by omega) (by omega)) fun u hu=>Ok.bind (ka hu.1 hu.2) fun b hb=>Ok.pure ?_
  simp only [List.mem_cons,List.not_mem_nil,or_false] at hb
  omega
 ·rw [w64 (n:=left - n) (by omega),w64 (n:=(j:Int) + k) (by omega),w64 (n:=10000 - n) (by omega),w64 (n:=10000 - n + 1) (by omega),w64 (n:=2 * (j:Int)) (by omega),w64 (n:=(i:Int) + 2 * j) (by omega)]
  refine Ok.bind (sU ns (by omega)) fun p _=>Ok.bind (g6 p (by omega) (by omega)) fun v hv=>Ok.bind (sU ns (by omega)) fun p2 _=>Ok.bind (g6 p2 (by omega) (by omega)) fun u hu=>Ok.bind (ka hu.1 hu.2) fun b hb=>?_
  rw [w64 (n:=n + v) (by omega)] at hb
  simp only [List.mem_cons,List.not_mem_nil,or_false] at hb
  refine Ok.bind (VK hk (oX (n:=n) (by omega)) (oX (n:=b) (by omega)) hj hN h2 h3) fun r hr=>Ok.pure ⟨_,rfl,⟨by show 0≤left - n; omega,by show left - n≤10000; omega⟩,hr.1,hr.2⟩
theorem VN {L:Nat} (hL:L≤10) {kids:List ByteArray} (hkd:kids.length≤10) (ns:List Int) {i:Nat} (hi:i≤10) {N:Nat} (hN:N≤10) {c:ay} (hc:CG L c) (hcn:c.ae.length=N) : Ok (ah (du ns (i:Int) kids) ac (c,0)) (fun r=>CG L r.1∧r.1.ae.length=N):=by
 refine aM (fun st=>∃ m:Nat,st.2=(m:Int)∧m≤L∧CG L st.1∧st.1.ae.length=N) (fun st=>L - st.2.toNat) _ (fun st ⟨m,h1,h2,h3,h4⟩=>?_) ac (c,0) ⟨0,rfl,Nat.zero_le _,hc,hcn⟩ (by show L - (0:Int).toNat < ac; unfold ac; omega)
 unfold du
 simp only [h1]
 split
 ·rename_i hlt
  have hlt:m < L:=by have:=zd hlt; have:=h3.labels; omega
  obtain ⟨r,r1,r2,r3⟩:=VM hlt hL hkd ns hi hN h3 h4
  simp only [r1,zb,bm (show m < 10 by omega) (show 10≤1000000 by omega)]
  exact .inl ⟨_,rfl,⟨m + 1,rfl,by omega,r2,r3⟩,by simp only [zt]; omega⟩
 ·exact .inr ⟨_,rfl,h3,h4⟩
theorem VP {L:Nat} {c:ay} (hl:c.al.length=L) (hL:L≤10) {q:aC} (hp:q.aK.size≤100) (hu:inI q.eh) (hc:q.bA = []) : Ok (ah (ek c) ac (q,0)) (fun r=>QG L r.1):=by
 rw [rP c q (by omega)]
 refine Ok.weak (Df (g:=iw c) (fin:=fun a_=>(a_,((c.al.length:Int)))) (fun k b=>QG k b) c.al q (fun j b x hx hb=>?_) ⟨hp,by rw [hc]; rfl,hu,by rw [hc]; intro x hx; cases hx⟩) (fun r ⟨a,e,h⟩=>by subst e; rw [hl] at h; exact h)
 have hj:=(zg.1 hx).1
 have:=hb.caps
 unfold iw
 dsimp only
 rw [aD (by simp; omega)]
 refine Ok.pure ⟨_,rfl,hb.path,by simpa using this,hb.user,fun y hy=>?_⟩
 simp only [List.mem_append,List.mem_singleton] at hy
 rcases hy with h | h
 ·exact hb.nums y h
 ·subst h; exact ⟨oX (by decide),oX (by decide)⟩
theorem VR {L:Nat} (hL:L≤10) {l:List ByteArray} (hl:l.length≤10) (hs:∀ x∈l,x.size≤100) (ns:List Int) {c:ay} (hc:CG L c) (hq:c.ae = []) : Ok (ah (dv l ns) ac (c,0)) (fun r=>CG L r.1∧r.1.ae.length=l.length):=by
 rw [Ba l ns c (by omega)]
 refine Ok.weak (tB (g:=iy l ns) (fin:=fun a_=>(a_,((l.length:Int)))) (fun k b=>CG L b∧b.ae.length=k) l c (fun j b x hx ⟨hb,hn⟩=>?_) ⟨hc,by rw [hq]; rfl⟩) (fun r ⟨a,e,h⟩=>by subst e; exact h)
 have hj:=(zg.1 hx).1
 unfold iy
 dsimp only
 refine Ok.bind (P:=fun t=>t=true→j < ns.length) (Ok.ite (fun hd=>?_) fun _=>Ok.pure (fun e=>by cases e)) fun t ht=>?_
 ·have hd:=zd hd
  exact Ok.bind (ka (by omega) hd) fun b _=>Ok.pure (fun _=>by omega)
 refine Ok.bind (P:=fun q:aC=>q.aK=x∧q.bA = []∧inI q.eh) (Ok.ite (fun hd=>?_) fun _=>Ok.pure ⟨rfl,rfl,(by show inI 1000000; exact oX (by decide))⟩) fun q ⟨q1,q2,q3⟩=>?_
 ·have:=ht hd
  refine Ok.bind (ka (by omega) (by omega)) fun b _=>Ok.bind (g6 b (by omega) (by omega)) fun v hv=>Ok.pure ⟨rfl,rfl,?_⟩
  show inI (i64.wrap (1 + v))
  rw [w64 (by omega)]
  exact oX (by omega)
 ·refine Ok.bind (VP hb.labels hL (by rw [q1]; exact hs x (List.mem_of_getElem? hx)) q3 q2) fun r hr=>?_
  rw [aD (by simp; omega)]
  refine Ok.pure ⟨_,rfl,⟨hb.labels,hb.label,fun y hy=>?_⟩,by simp; omega⟩
  simp only [List.mem_append,List.mem_singleton] at hy
  rcases hy with h | h
  ·exact hb.queues y h
  ·subst h; exact hr
theorem VO {L:Nat} (hL:L≤10) {l:List ByteArray} (hl:l.length≤10) (ns:List Int) {N:Nat} (hN:N≤10) {c:ay} (hc:CG L c) (hq:c.ae.length=N) : Ok (ah (cK l ns) ac (c,0)) (fun r=>CG L r.1∧r.1.ae.length=N):=by
 rw [A9 l ns c (by omega)]
 refine Ok.weak (tB (g:=iu l ns) (fin:=fun a_=>(a_,((l.length:Int)))) (fun k b=>CG L b∧b.ae.length=N) l c (fun j b x hx ⟨hb,hn⟩=>?_) ⟨hc,hq⟩) (fun r ⟨a,e,h⟩=>by subst e; exact h)
 have hj:=(zg.1 hx).1
 unfold iu
 dsimp only
 obtain ⟨kd,k1,k2,_⟩:=uo b x (hb.sz hL (by omega))
 refine Ok.bind (P:=fun kd=>kd.length≤10) ⟨kd,k1,by omega⟩ fun kd hkd=>Ok.bind (VN hL hkd ns (by omega) hN hb hn) fun r hr=>Ok.pure ⟨_,rfl,hr.1,hr.2⟩
theorem FQ (shape:Int) (ns:List Int) : Ok (fO shape ns) Vn:=by
 unfold fO
 dsimp only
 refine Ok.bind (g6 _ (by omega) (by omega)) fun w hw=>?_
 rw [w64 (n:=1 + w) (by omega)]
 obtain ⟨W,rfl⟩ : ∃ W:Nat,w=(W:Int):=⟨w.toNat,by omega⟩
 rw [show (1 + (W:Int))=((1 + W:Nat) : Int) by omega,pm (by simp; omega)]
 simp only [zb]
 refine Ok.bind (g6 _ (by omega) (by omega)) fun t ht=>Ok.bind (ka ht.1 ht.2) fun l hl=>?_
 have key:l.length≤7∧∀ x∈l,x.size≤100:=by
  simp only [List.mem_cons,List.not_mem_nil,or_false] at hl
  rcases hl with h | h | h | h | h <;> subst h <;> decide
 have hL:(List.take (1 + W) [(⟨#[]⟩ : ByteArray),⟨#[103,112,117]⟩]).length≤10:=Nat.le_trans (List.length_take_le' _ _) (by decide)
 refine Ok.bind (VR hL (by omega) key.2 ns ⟨rfl,fun x hx=>?_,fun q hq=>by cases hq⟩ rfl) fun r hr=>Ok.bind (VO hL (by omega) ns (by omega) hr.1 hr.2) fun q hq=>Ok.pure (hq.1.text hL (by have:=hq.2; omega))
 have:=List.mem_of_mem_take hx
 simp only [List.mem_cons,List.not_mem_nil,or_false] at this
 rcases this with h | h <;> subst h <;> decide
section
def bT (l:Tx) : ByteArray:=⟨l.toArray⟩
def gP (c:Int×Int) : eu:=⟨c.1,c.2⟩
def gQ (d:QD) : aC:=⟨bT d.path,d.caps.map gP,d.user⟩
def gC (nl:Nat) (ds:List QD) : ay:=⟨(B9 nl).map bT,ds.map gQ⟩
theorem Vg {a b:Tx} : ((bT a).toList==(bT b).toList)=decide (a=b):=by
 by_cases h:a=b
 ·subst h; simp
 ·have:bT a≠bT b:=fun e=>h (by
   have:=congrArg (fun x:ByteArray=>x.data.toList) e
   simpa [bT] using this)
  rw [decide_eq_false h]
  cases hb:((bT a).toList==(bT b).toList) with
  | false=>rfl
  | true=>exact absurd (ru hb) this
theorem g7 (a:Int) {n:Int} (h0 : 0 < n) (h1:n≤1125899906842625) : dc a n=some (a % n):=by
 have l1:a.tmod n < n:=Int.tmod_lt_of_pos a h0
 have l2 : -n < a.tmod n:=by have:=Int.lt_tmod_of_pos a h0; omega
 unfold dc FV
 rw [if_neg (by omega)]
 simp only [zb]
 by_cases hneg:a.tmod n < 0
 ·rw [Lv h0 hneg]
  simp only [hneg,decide_true,if_true,zb]
  rw [IntKind.wrap_i64]
  congr 1
  omega
 ·rw [Lu h0 hneg]
  simp only [hneg,decide_false,zf,if_false,zb]
def g8 (xs:List Int) (i:Int) : Int:=if xs.length=0 then i else xs.getD (i % (xs.length:Int)).toNat 0
theorem sV (xs:List Int) {i:Int} (h : 0≤i) : kv xs i=some (g8 xs i):=by
 unfold kv g8
 by_cases hz:xs.length=0
 ·rw [if_pos (by rw [hz]; rfl),if_pos hz]
 ·have hn:(xs.length:Int)≠0:=by omega
  rw [if_neg (by simpa using hz),if_neg hz]
  unfold FV
  rw [if_neg hn]
  simp only [zb]
  have e:i.tmod (xs.length:Int)=i % (xs.length:Int):=Int.tmod_eq_emod_of_nonneg h
  rw [e]
  have h0:=Int.emod_nonneg i hn
  have h1:=Int.emod_lt_of_pos i (show (0:Int) < xs.length by omega)
  obtain ⟨m,hm⟩ : ∃ m:Nat,i % (xs.length:Int)=(m:Int):=⟨(i % (xs.length:Int)).toNat,by omega⟩
  rw [hm] at h1 ⊢
  have hmx:m < xs.length:=by omega
  rw [aN (zq hmx)]
  simp [List.getD,zq hmx]
def D1 (xs:List Int) (k:Nat) : Bool:=decide (k < xs.length)&&((xs.getD k 0).tmod 3==0)
def G5 (xs:List Int) (k:Nat) : Int:=if D1 xs k=true then 1 + xs.getD k 0 % 20000 else 1000000
theorem VQ {nl:Nat} (hnl:nl≤2) (c:ay) (hc:c.al.length=nl) (p:ByteArray) (u:Int) : ah (ek c) ac (⟨p,[],u⟩,0)=some (⟨p,(List.replicate nl qO).map gP,u⟩,(nl:Int)):=by
 rw [rP c _ (by omega)]
 obtain ⟨ls,qs⟩:=c
 dsimp only at hc ⊢
 subst hc
 rcases ls with _ | ⟨a,_ | ⟨b,_ | ⟨d,ls⟩⟩⟩
 ·rfl
 ·rfl
 ·rfl
 ·simp only [List.length_cons] at hnl; omega
theorem PI {nl:Nat} (hnl:nl≤2) (ps:List Tx) (xs:List Int) (ds:List QD) {k:Nat} (hk:k < ps.length) (hps:ps.length≤7) (hds:ds.length≤7) : dv (ps.map bT) xs (gC nl ds,(k:Int))=some (.inl (gC nl (ds ++ [⟨ps[k],List.replicate nl qO,G5 xs k⟩]),((k + 1:Nat) : Int))):=by
 have e1:(ps.map bT)[k]? = some (bT ps[k]):=by simp [hk]
 have d1:decide ((k:Int) < ((ps.map bT).length:Int))=true:=by simp; omega
 have hl:(gC nl ds).al.length=nl:=by show ((B9 nl).map bT).length=nl; rw [List.length_map,qn hnl]
 unfold dv
 dsimp only
 rw [if_pos d1,aN e1]
 simp only [zb]
 have fin:∀ u:Int,(Option.bind (ah (ek (gC nl ds)) ac ((⟨bT ps[k],[],u⟩ : aC),(0:Int))) fun r12=>Option.bind (aW (gC nl ds).ae [r12.1]) fun b13=>some (Sum.inl ((⟨(gC nl ds).al,b13⟩ : ay),i64.wrap ((k:Int) + 1)) : (ay×Int)⊕(ay×Int)))=some (.inl (gC nl (ds ++ [⟨ps[k],List.replicate nl qO,u⟩]),((k + 1:Nat) : Int))):=by
  intro u
  rw [VQ hnl _ hl]
  simp only [zb]
  rw [aD (by show (ds.map gQ).length + 1≤_; rw [List.length_map]; omega)]
  simp only [zb,bm (show k < 7 by omega) (show 7≤1000000 by omega)]
  unfold gC
  simp only [List.map_append,List.map_cons,List.map_nil,gQ]
 unfold G5 D1
 by_cases hN:k < xs.length
 ·have e2:xs[k]? = some xs[k]:=zq hN
  have e3:xs.getD k 0=xs[k]:=by simp [List.getD,e2]
  have d2:decide ((k:Int) < (xs.length:Int))=true:=by simp; omega
  simp only [d2,if_true,aN e2,zb,hN,decide_true,Bool.true_and,e3]
  by_cases ht:(xs[k].tmod 3==0)=true
  ·have h0:=Int.emod_nonneg xs[k] (show (20000:Int)≠0 by decide)
   have h1:=Int.emod_lt_of_pos xs[k] (show (0:Int) < 20000 by decide)
   simp only [ht,if_true,g7 xs[k] (show (0:Int) < 20000 by decide) (by decide),zb,w64 (n:=1 + xs[k] % 20000) (by omega)]
   exact fin _
  ·simp only [ht,if_false,zb,zf]
   exact fin _
 ·have d2:decide ((k:Int) < (xs.length:Int))=false:=by simp; omega
  simp only [d2,zf,if_false,zb,hN,decide_false,Bool.false_and]
  exact fin _
theorem DJ {α β : Type} (f : α→β) (g : α→α) (b : β) : ∀ (l:List α) (m:Nat) (h:m < l.length),b=f (g l[m])→(l.modify m g).map f=(l.map f).set m b
 | x::l,0,h,e=>by subst e; rfl
 | x::l,m + 1,h,e=>by
  simp only [List.modify_succ_cons,List.map_cons,List.set_cons_succ]
  rw [DJ f g b l m (by simpa using h) e]
theorem VL {nl:Nat} {ks:List Tx} {ds:List QD} {k j:Nat} (hj:j < ks.length) (n mo:Int) (hN:ds.length≤7) (hc:∀ q∈ds,q.caps.length=nl) (hk:k < nl) : ah (ej (k:Int) n mo (j:Int) (ks.map bT)) ac (gC nl ds,0)=some (gC nl (iJ ks[j] k n mo ds),(ds.length:Int)):=by
 have hp:∃ r,ah (ej (k:Int) n mo (j:Int) (ks.map bT)) ac (gC nl ds,0)=some r∧r=(gC nl (iJ ks[j] k n mo ds),(ds.length:Int)):=by
  refine aM (f:=ej (k:Int) n mo (j:Int) (ks.map bT)) (fun st=>∃ m:Nat,m≤ds.length∧st=(gC nl (eU ks[j] k n mo ds m),(m:Int))) (fun st=>ds.length - st.2.toNat) (fun r=>r=(gC nl (iJ ks[j] k n mo ds),(ds.length:Int))) (fun st ⟨m,hm,hst⟩=>?_) ac (gC nl ds,0) ⟨0,Nat.zero_le _,by rw [De]; rfl⟩ (by show ds.length - (0:Int).toNat < ac; unfold ac; omega)
  subst hst
  unfold ej
  dsimp only
  have hlen:(gC nl (eU ks[j] k n mo ds m)).ae.length=ds.length:=by show ((eU _ _ _ _ ds m).map gQ).length = _; rw [List.length_map,gN]
  rw [hlen]
  rcases Nat.lt_or_ge m ds.length with hlt | hge
  ·left
   have d1:decide ((m:Int) < (ds.length:Int))=true:=by simpa using hlt
   have hml:m < (eU ks[j] k n mo ds m).length:=by rw [gN]; exact hlt
   have e1:(gC nl (eU ks[j] k n mo ds m)).ae[m]? = some (gQ ds[m]):=by
    show ((eU _ _ _ _ ds m).map gQ)[m]? = _
    rw [List.getElem?_map,zq hml,zT _ _ _ _ _ _ hlt]
    rfl
   have e2:(ks.map bT)[j]? = some (bT ks[j]):=by simp [hj]
   have e3:(gQ ds[m]).bA[k]? = some (gP (ds[m].caps[k]'(by rw [hc _ (List.getElem_mem hlt)]; exact hk))):=by
    show (ds[m].caps.map gP)[k]? = _
    rw [List.getElem?_map,zq (by rw [hc _ (List.getElem_mem hlt)]; exact hk)]
    rfl
   rw [if_pos d1,aN e1,aN e2]
   simp only [zb,aN e3,bm (show m < 7 by omega) (show 7≤1000000 by omega),zt]
   rw [show (gQ ds[m]).aK=bT ds[m].path from rfl,Vg]
   by_cases he:ds[m].path=ks[j]
   ·rw [if_pos (by simpa using he)]
    refine ⟨_,rfl,⟨m + 1,hlt,?_⟩,by simp only [zt]; omega⟩
    rw [GL hlt he]
    congr 1
    unfold gC
    congr 1
    dsimp only
    refine (DJ gQ _ _ _ m hml ?_).symm
    rw [zT _ _ _ _ _ _ hlt]
    unfold gQ
    simp [List.map_set,gP]
   ·rw [if_neg (by simpa using he)]
    exact ⟨_,rfl,⟨m + 1,hlt,by rw [Ky hlt he]⟩,by simp only [zt]; omega⟩
  ·right
   have hm2:m=ds.length:=by omega
   subst hm2
   have d1:decide ((ds.length:Int) < (ds.length:Int))=false:=by simp
   rw [if_neg (by rw [d1]; decide)]
   exact ⟨_,rfl,by rw [GM]⟩
 obtain ⟨r,h1,h2⟩:=hp
 rw [h1,h2]
theorem Bh {σ α τ : Type} {g g' : σ→α→Option (σ⊕τ)} (fin : σ→τ) : ∀ (l:List α) (a : σ),(∀ x∈l,∀ a,g a x=g' a x)→bl g fin a l=bl g' fin a l
 | [],a,_=>rfl
 | x::l,a,h=>by
  simp only [bl]
  rw [h x (List.mem_cons_self ..)]
  cases g' a x with
  | none=>rfl
  | some o=>cases o with
   | inl a'=>exact Bh fin l a' (fun y hy=>h y (List.mem_cons_of_mem _ hy))
   | inr r=>rfl
theorem N5 (y:Nat) : ∀ x∈mu y,eX (bT x)=bT (above x):=by
 unfold mu
 split
 all_goals
  intro x hx
  simp only [List.mem_cons,List.not_mem_nil,or_false] at hx
  repeat (first | (subst hx; kernel_rfl) | (rcases hx with h | hx; (subst h; kernel_rfl)))
theorem Xi (nl:Nat) {ds:List QD} {ps:List Tx} {y:Nat} (hy:ps=mu y) (hd:ds.map (·.path)=ps) {p:Tx} (hp:p∈ps) : ff (gC nl ds) (bT p)=some ((Bu p ps).map bT):=by
 have hlen:ds.length≤7:=by
  have h1:=congrArg List.length hd
  have h2:=Kq y
  rw [hy,List.length_map] at h1
  omega
 have hsz:∀ q∈(gC nl ds).ae,q.aK.size≤1000000:=fun q hq=>by
  obtain ⟨d,hd2,rfl⟩:=List.mem_map.1 hq
  have h1:d.path∈ps:=by rw [← hd]; exact List.mem_map_of_mem hd2
  rw [hy] at h1
  have h2:=Kp y _ h1
  show (bT d.path).size≤_
  have:(bT d.path).size=d.path.length:=by simp [bT,ByteArray.size]
  omega
 unfold ff
 dsimp only
 rw [jz (gC nl ds) (bT p) [] (by show (ds.map gQ).length≤_; rw [List.length_map]; omega)]
 rw [Bh (g':=fun acc x=>if (!((bT p).toList==(⟨#[]⟩ : ByteArray).toList)&&((eX x.aK).toList==(bT p).toList))=true then (aW acc [x.aK]).map (fun a=>(.inl a:List ByteArray⊕(List ByteArray×Int))) else some (.inl acc)) _ _ _ (fun x hx acc=>by
  unfold cw
  simp only [(rA (hsz x hx)).1,zb,dM]
  split
  ·cases aW acc [x.aK] <;> rfl
  ·rfl)]
 rw [cj (fun x:aC=>!((bT p).toList==(⟨#[]⟩ : ByteArray).toList)&&((eX x.aK).toList==(bT p).toList)) aC.aK _ _ [] (by show 0 + (ds.map gQ).length≤_; rw [List.length_map]; omega)]
 simp only [zb,List.nil_append]
 congr 1
 have e1:((gC nl ds).ae.filter fun x:aC=>!((bT p).toList==(⟨#[]⟩ : ByteArray).toList)&&((eX x.aK).toList==(bT p).toList)).map aC.aK=(ps.filter fun x=>!((bT p).toList==(bT []).toList)&&((eX (bT x)).toList==(bT p).toList)).map bT:=by
  rw [← hd]
  show ((ds.map gQ).filter _).map _ = _
  rw [List.filter_map,List.filter_map,List.map_map,List.map_map]
  rfl
 rw [e1]
 congr 1
 unfold Bu
 refine List.filter_congr fun x hx=>?_
 rw [hy] at hx
 rw [N5 y x hx,Vg,Vg]
 simp
theorem ou {α β : Type} {o:Option α} {f : α→Option β} {r : α} {x:Option β} (h1:o=some r) (h2:f r=x) : Option.bind o f=x:=by subst h1; exact h2
def nV (xs:List Int) (i jj kk nk:Nat) (L:Int) : Int:=if jj + 1 < nk then [0,L / 2,L,g8 xs ((i:Int) + jj + kk) % (L + 1)].getD (g8 xs ((i:Int) * jj + kk) % 4).toNat 0 else L
def mV (xs:List Int) (i jj kk:Nat) (n:Int) : Int:=[10000,n,n + g8 xs ((jj:Int) + kk) % (10000 - n + 1)].getD (g8 xs ((i:Int) + 2 * jj) % 3).toNat 0
theorem G4 (l:List Int) (a:Int) (hl : 0 < l.length) : aw l (a % (l.length:Int))=some (l.getD (a % (l.length:Int)).toNat 0):=by
 have h0:=Int.emod_nonneg a (show (l.length:Int)≠0 by omega)
 have h1:=Int.emod_lt_of_pos a (show (0:Int) < l.length by omega)
 obtain ⟨m,hm⟩ : ∃ m:Nat,a % (l.length:Int)=(m:Int):=⟨(a % (l.length:Int)).toNat,by omega⟩
 rw [hm] at h1 ⊢
 have hmx:m < l.length:=by omega
 rw [aN (zq hmx)]
 simp [List.getD,zq hmx]
theorem YL (xs:List Int) (i jj kk nk:Nat) {L:Int} (h0 : 0≤L) : 0≤nV xs i jj kk nk L∧nV xs i jj kk nk L≤L:=by
 unfold nV
 split
 ·have a0:=Int.emod_nonneg (g8 xs ((i:Int) * jj + kk)) (show (4:Int)≠0 by decide)
  have a1:=Int.emod_lt_of_pos (g8 xs ((i:Int) * jj + kk)) (show (0:Int) < 4 by decide)
  have b0:=Int.emod_nonneg (g8 xs ((i:Int) + jj + kk)) (show (L + 1)≠0 by omega)
  have b1:=Int.emod_lt_of_pos (g8 xs ((i:Int) + jj + kk)) (show (0:Int) < L + 1 by omega)
  generalize g8 xs ((i:Int) + jj + kk) % (L + 1)=b at b0 b1
  obtain ⟨m,hm⟩ : ∃ m:Nat,(g8 xs ((i:Int) * jj + kk) % 4)=(m:Int):=⟨(g8 xs ((i:Int) * jj + kk) % 4).toNat,by omega⟩
  rw [hm] at a1 ⊢
  rcases m with _ | _ | _ | _ | m
  ·exact ⟨Int.le_refl _,h0⟩
  ·show 0≤L / 2∧L / 2≤L; omega
  ·exact ⟨h0,Int.le_refl _⟩
  ·show 0≤b∧b≤L; omega
  ·omega
 ·exact ⟨h0,Int.le_refl _⟩
theorem PH {nl:Nat} {ks:List Tx} {ds:List QD} {xs:List Int} {i jj kk:Nat} {L:Int} (hj:jj < ks.length) (hks:ks.length≤7) (hi:i≤7) (hnl:nl≤2) (hkk:kk < nl) (h0 : 0≤L) (h1:L≤10000) (hN:ds.length≤7) (hc:∀ q∈ds,q.caps.length=nl) :
  cU (ks.map bT) xs (i:Int) (kk:Int) (L,gC nl ds,(jj:Int))=some (.inl (L - nV xs i jj kk ks.length L,gC nl (iJ ks[jj] kk (nV xs i jj kk ks.length L) (mV xs i jj kk (nV xs i jj kk ks.length L)) ds),((jj + 1:Nat) : Int))):=by
 have hij:(i:Int) * (jj:Int)≤100:=by
  have:i * jj≤7 * 7:=Nat.mul_le_mul hi (by omega)
  have h2:((i * jj:Nat) : Int)≤49:=by omega
  rw [Int.natCast_mul] at h2
  omega
 have hij0 : 0≤(i:Int) * (jj:Int):=Int.mul_nonneg (by omega) (by omega)
 have hn:=YL xs i jj kk ks.length h0
 have d1:decide ((jj:Int) < ((ks.map bT).length:Int))=true:=by simp; omega
 unfold cU
 dsimp only
 rw [if_pos d1]
 refine ou (r:=nV xs i jj kk ks.length L) ?_ ?_
 ·unfold nV
  by_cases hl:jj + 1 < ks.length
  ·have d2:decide ((jj:Int) < i64.wrap (((ks.map bT).length:Int) - 1))=true:=by
    rw [List.length_map,w64 (by omega)]
    simp; omega
   have h2d:L.tdiv 2=L / 2:=Int.tdiv_eq_ediv_of_nonneg h0
   rw [if_pos d2,if_pos hl,h2d,w64 (n:=(i:Int) + jj) (by omega),w64 (n:=(i:Int) + jj + kk) (by omega),w64 (n:=L + 1) (by omega),w64 (n:=(i:Int) * jj) (by omega),w64 (n:=(i:Int) * jj + kk) (by omega),w64 (n:=L / 2) (by omega)]
   refine ou (sV xs (by omega)) (ou (g7 _ (by omega) (by omega)) (ou (sV xs (by omega)) (ou (g7 _ (by omega) (by omega)) (ou ?_ rfl))))
   exact G4 [0,L / 2,L,_] _ (by simp)
  ·have d2:decide ((jj:Int) < i64.wrap (((ks.map bT).length:Int) - 1))=false:=by
    rw [List.length_map,w64 (by omega)]
    simp; omega
   rw [if_neg (by rw [d2]; decide),if_neg hl]
 ·generalize nV xs i jj kk ks.length L=n at hn
  rw [w64 (n:=L - n) (by omega),w64 (n:=(jj:Int) + kk) (by omega),w64 (n:=10000 - n) (by omega),w64 (n:=10000 - n + 1) (by omega),w64 (n:=2 * (jj:Int)) (by omega),w64 (n:=(i:Int) + 2 * jj) (by omega)]
  have b0:=Int.emod_nonneg (g8 xs ((jj:Int) + kk)) (show (10000 - n + 1)≠0 by omega)
  have b1:=Int.emod_lt_of_pos (g8 xs ((jj:Int) + kk)) (show (0:Int) < 10000 - n + 1 by omega)
  refine ou (sV xs (by omega)) (ou (g7 _ (by omega) (by omega)) (ou (sV xs (by omega)) (ou (g7 _ (by omega) (by omega)) (ou (r:=mV xs i jj kk n) ?_ ?_))))
  ·rw [w64 (n:=n + g8 xs ((jj:Int) + kk) % (10000 - n + 1)) (by omega)]
   exact G4 [10000,n,_] _ (by simp)
  ·refine ou (VL hj n (mV xs i jj kk n) hN hc hkk) ?_
   rw [bm (show jj < 7 by omega) (show 7≤1000000 by omega)]
theorem KW {σ τ : Type} {f : σ→Option (σ⊕τ)} {s s' : σ} {n:Nat} (h:f s=some (.inl s')) : ah f (n + 1) s=ah f n s':=by simp only [ah,h]
theorem u4 {σ τ : Type} {f : σ→Option (σ⊕τ)} {s : σ} {r : τ} {n:Nat} (h:f s=some (.inr r)) : ah f (n + 1) s=some r:=by simp only [ah,h]
def E1 (sh:Int) (xs:List Int) (nl:Nat) (ps:List Tx) (k:Nat) (ds:List QD) : Prop:=∃ n,n + k=ac∧fO sh xs=Option.bind (ah (dv (ps.map bT) xs) n (gC nl ds,(k:Int))) fun r=>Option.bind (ah (cK (ps.map bT) xs) ac (r.1,0)) fun r=>some r.1
def E3 (sh:Int) (xs:List Int) (nl:Nat) (ps:List Tx) (i:Nat) (ds:List QD) : Prop:=∃ n,n + i=ac∧fO sh xs=Option.bind (ah (cK (ps.map bT) xs) n (gC nl ds,(i:Int))) fun r=>some r.1
def E4 (sh:Int) (xs:List Int) (nl:Nat) (ps:List Tx) (i:Nat) (ks:List Tx) (kk:Nat) (ds:List QD) : Prop:=∃ n3,n3 + (i + 1)=ac∧∃ n,n + kk=ac∧fO sh xs=Option.bind (Option.bind (ah (du xs (i:Int) (ks.map bT)) n (gC nl ds,(kk:Int))) fun r=>ah (cK (ps.map bT) xs) n3 (r.1,((i + 1:Nat) : Int))) fun r=>some r.1
def E5 (sh:Int) (xs:List Int) (nl:Nat) (ps:List Tx) (i:Nat) (ks:List Tx) (kk jj:Nat) (L:Int) (ds:List QD) : Prop:=∃ n3,n3 + (i + 1)=ac∧∃ n4,n4 + (kk + 1)=ac∧∃ n,n + jj=ac∧fO sh xs=Option.bind (Option.bind (Option.bind (ah (cU (ks.map bT) xs (i:Int) (kk:Int)) n (L,gC nl ds,(jj:Int))) fun r=>ah (du xs (i:Int) (ks.map bT)) n4 (r.2.1,((kk + 1:Nat) : Int))) fun r=>ah (cK (ps.map bT) xs) n3 (r.1,((i + 1:Nat) : Int))) fun r=>some r.1
section
variable {sh:Int} {xs:List Int} {nl:Nat} {ps:List Tx} {ds:List QD}
theorem E1.step {k:Nat} (h:E1 sh xs nl ps k ds) (hnl:nl≤2) (hk:k < ps.length) (hps:ps.length≤7) (hds:ds.length≤7) : E1 sh xs nl ps (k + 1) (ds ++ [⟨ps[k],List.replicate nl qO,G5 xs k⟩]):=by
 obtain ⟨n,h1,h2⟩:=h
 obtain ⟨n,rfl⟩ : ∃ m,n=m + 1:=⟨n - 1,by unfold ac at h1; omega⟩
 rw [KW (PI hnl ps xs ds hk hps hds)] at h2
 exact ⟨n,by omega,h2⟩
theorem E1.end (h:E1 sh xs nl ps ps.length ds) (hps:ps.length≤7) : E3 sh xs nl ps 0 ds:=by
 obtain ⟨n,h1,h2⟩:=h
 obtain ⟨n,rfl⟩ : ∃ m,n=m + 1:=⟨n - 1,by unfold ac at h1; omega⟩
 rw [u4 (r:=(gC nl ds,(ps.length:Int))) (by unfold dv; simp)] at h2
 exact ⟨ac,rfl,h2⟩
theorem E3.open {i:Nat} (h:E3 sh xs nl ps i ds) (hi:i < ps.length) (hps:ps.length≤7) {y:Nat} (hy:ps=mu y) (hd:ds.map (·.path)=ps) : E4 sh xs nl ps i (Bu ps[i] ps) 0 ds:=by
 obtain ⟨n,h1,h2⟩:=h
 obtain ⟨n,rfl⟩ : ∃ m,n=m + 1:=⟨n - 1,by unfold ac at h1; omega⟩
 refine ⟨n,by omega,ac,rfl,h2.trans ?_⟩
 have e1:(ps.map bT)[i]? = some (bT ps[i]):=by simp [hi]
 have d1:decide ((i:Int) < ((ps.map bT).length:Int))=true:=by simp; omega
 congr 1
 rw [ah]
 unfold cK
 dsimp only
 rw [if_pos d1,aN e1]
 simp only [zb,Xi nl hy hd (List.getElem_mem hi),bm (show i < 7 by omega) (show 7≤1000000 by omega)]
 cases ah (du xs (i:Int) ((Bu ps[i] ps).map bT)) ac (gC nl ds,0) <;> rfl
theorem E4.open {i kk:Nat} {ks:List Tx} (h:E4 sh xs nl ps i ks kk ds) (hk:kk < nl) (hnl:nl≤2) : E5 sh xs nl ps i ks kk 0 10000 ds:=by
 obtain ⟨n3,h3,n,h1,h2⟩:=h
 obtain ⟨n,rfl⟩ : ∃ m,n=m + 1:=⟨n - 1,by unfold ac at h1; omega⟩
 refine ⟨n3,h3,n,by omega,ac,rfl,h2.trans ?_⟩
 have hl:(gC nl ds).al.length=nl:=by show ((B9 nl).map bT).length=nl; rw [List.length_map,qn hnl]
 have d1:decide ((kk:Int) < ((gC nl ds).al.length:Int))=true:=by rw [hl]; simpa using hk
 congr 1
 congr 1
 rw [ah]
 unfold du
 dsimp only
 rw [if_pos d1]
 simp only [bm (show kk < 7 by omega) (show 7≤1000000 by omega)]
 cases ah (cU (ks.map bT) xs (i:Int) (kk:Int)) ac (10000,gC nl ds,0) <;> rfl
theorem E5.step {i kk jj:Nat} {ks:List Tx} {L:Int} (h:E5 sh xs nl ps i ks kk jj L ds) (hj:jj < ks.length) (hks:ks.length≤7) (hi:i≤7) (hnl:nl≤2) (hkk:kk < nl) (h0 : 0≤L) (hL:L≤10000) (hN:ds.length≤7) (hc:∀ q∈ds,q.caps.length=nl) :
  E5 sh xs nl ps i ks kk (jj + 1) (L - nV xs i jj kk ks.length L) (iJ ks[jj] kk (nV xs i jj kk ks.length L) (mV xs i jj kk (nV xs i jj kk ks.length L)) ds):=by
 obtain ⟨n3,h3,n4,h4,n,h1,h2⟩:=h
 obtain ⟨n,rfl⟩ : ∃ m,n=m + 1:=⟨n - 1,by unfold ac at h1; omega⟩
 rw [KW (PH hj hks hi hnl hkk h0 hL hN hc)] at h2
 exact ⟨n3,h3,n4,h4,n,by omega,h2⟩
theorem E5.end {i kk:Nat} {ks:List Tx} {L:Int} (h:E5 sh xs nl ps i ks kk ks.length L ds) (hks:ks.length≤7) : E4 sh xs nl ps i ks (kk + 1) ds:=by
 obtain ⟨n3,h3,n4,h4,n,h1,h2⟩:=h
 obtain ⟨n,rfl⟩ : ∃ m,n=m + 1:=⟨n - 1,by unfold ac at h1; omega⟩
 rw [u4 (r:=(L,gC nl ds,(ks.length:Int))) (by unfold cU; simp)] at h2
 exact ⟨n3,h3,n4,h4,h2⟩
theorem E4.end {i:Nat} {ks:List Tx} (h:E4 sh xs nl ps i ks nl ds) (hnl:nl≤2) : E3 sh xs nl ps (i + 1) ds:=by
 obtain ⟨n3,h3,n,h1,h2⟩:=h
 obtain ⟨n,rfl⟩ : ∃ m,n=m + 1:=⟨n - 1,by unfold ac at h1; omega⟩
 have hl:(gC nl ds).al.length=nl:=by show ((B9 nl).map bT).length=nl; rw [List.length_map,qn hnl]
 rw [u4 (r:=(gC nl ds,(nl:Int))) (by unfold du; simp [hl])] at h2
 exact ⟨n3,h3,h2⟩
theorem E3.end (h:E3 sh xs nl ps ps.length ds) (hps:ps.length≤7) : fO sh xs=some (gC nl ds):=by
 obtain ⟨n,h1,h2⟩:=h
 obtain ⟨n,rfl⟩ : ∃ m,n=m + 1:=⟨n - 1,by unfold ac at h1; omega⟩
 rw [u4 (r:=(gC nl ds,(ps.length:Int))) (by unfold cK; simp)] at h2
 exact h2
end
theorem E1.start (sh:Int) (xs:List Int) {nl y:Nat} (hnl:(nl:Int)=1 + i64.wrap (sh.tdiv 5) % 2) (hy:(y:Int)=sh % 5) : E1 sh xs nl (mu y) 0 []:=by
 refine ⟨ac,rfl,?_⟩
 have h0:=Int.emod_nonneg (i64.wrap (sh.tdiv 5)) (show (2:Int)≠0 by decide)
 have h1:=Int.emod_lt_of_pos (i64.wrap (sh.tdiv 5)) (show (0:Int) < 2 by decide)
 have y0:=Int.emod_nonneg sh (show (5:Int)≠0 by decide)
 have y1:=Int.emod_lt_of_pos sh (show (0:Int) < 5 by decide)
 unfold fO
 dsimp only
 refine ou (g7 _ (by decide) (by decide)) ?_
 rw [w64 (n:=1 + i64.wrap (sh.tdiv 5) % 2) (by omega),← hnl]
 refine ou (pm (by simp; omega)) (ou (g7 _ (by decide) (by decide)) ?_)
 rw [← hy]
 have hy5:y < 5:=by omega
 refine ou (r:=(mu y).map bT) ?_ ?_
 ·rcases y with _ | _ | _ | _ | _ | y
  all_goals first | rfl | omega
 ·have e:(⟨List.take nl [(⟨#[]⟩ : ByteArray),⟨#[103,112,117]⟩],[]⟩ : ay)=gC nl []:=by
   unfold gC B9
   rw [List.map_take]
   rfl
  rw [e]
  rfl
end
theorem df {w:World} {b:Nat} {cs:Array Value} {t:TypeId} (h:w.heap[b]? = some (.cells cs t (0,0))) (j:Nat) (v:Value) (hv:cs[j]? = some v) : w.cell? ⟨b,j,none⟩=some v:=by
 rw [cell_of_row w b j cs t (0,0) h,hv]
theorem rx {w:World} {b:Nat} {cs:Array Value} {t:TypeId} (h:w.heap[b]? = some (.cells cs t (0,0))) (j:Nat) : w.frozen? ⟨b,j,none⟩=false:=by
 simp [World.frozen?,h]
noncomputable def rh (w:World) : World:=((((((((w.alloc (Obj.cells #[Value.slice none 0 0,Value.slice none 0 0] 34)).alloc (Obj.cells #[Value.string { data:=#[114,111,111,116] }] 9)).alloc (Obj.cells #[Value.string { data:=#[114,111,111,116] },Value.string { data:=#[114,111,111,116,46,97] },Value.string { data:=#[114,111,111,116,46,98] }] 9)).alloc (Obj.cells #[Value.string { data:=#[114,111,111,116] },Value.string { data:=#[114,111,111,116,46,97] },Value.string { data:=#[114,111,111,116,46,97,46,120] },Value.string { data:=#[114,111,111,116,46,97,46,121] },Value.string { data:=#[114,111,111,116,46,98] }] 9)).alloc (Obj.cells #[Value.string { data:=#[114,111,111,116] },Value.string { data:=#[114,111,111,116,46,97] },Value.string { data:=#[114,111,111,116,46,98] },Value.string { data:=#[114,111,111,116,46,98,46,120] },Value.string { data:=#[114,111,111,116,46,98,46,120,46,112] },Value.string { data:=#[114,111,111,116,46,98,46,120,46,113] },Value.string { data:=#[114,111,111,116,46,99] }] 9)).alloc (Obj.cells #[Value.string { data:=#[114,111,111,116] },Value.string { data:=#[114,111,111,116,46,97] }] 9)).alloc (Obj.cells #[Value.slice (some { block:=w.heap.size + 1,off:=0 }) 1 1,Value.slice (some { block:=w.heap.size + 1 + 1,off:=0 }) 3 3,Value.slice (some { block:=w.heap.size + 1 + 1 + 1,off:=0 }) 5 5,Value.slice (some { block:=w.heap.size + 1 + 1 + 1 + 1,off:=0 }) 7 7,Value.slice (some { block:=w.heap.size + 1 + 1 + 1 + 1 + 1,off:=0 }) 2 2] 31)).alloc (Obj.cells #[Value.string { data:=#[] },Value.string { data:=#[103,112,117] }] 9))
theorem RO (w:World) : Ext w (rh w):=(((((((aP w _).trans (aP _ _)).trans (aP _ _)).trans (aP _ _)).trans (aP _ _)).trans (aP _ _)).trans (aP _ _)).trans (aP _ _)
theorem NG (w:World) : (rh w).heap.size=w.heap.size + 8:=by simp [rh]
theorem RN (w:World) : (rh w).heap[w.heap.size]? = some (.cells #[.slice none 0 0,.slice none 0 0] 34 (0,0)):=by
 have h:=heap_alloc_new w (.cells #[.slice none 0 0,.slice none 0 0] 34 (0,0))
 have x:Ext (w.alloc (.cells #[.slice none 0 0,.slice none 0 0] 34 (0,0))) (rh w):=((((((aP _ _).trans (aP _ _)).trans (aP _ _)).trans (aP _ _)).trans (aP _ _)).trans (aP _ _)).trans (aP _ _)
 exact (x.block _ (Array.getElem?_eq_some_iff.1 h).1).trans h
theorem NI (w:World) : (rh w).heap[w.heap.size + 1 + 1 + 1 + 1 + 1 + 1 + 1]? = some (.cells #[.string ⟨#[]⟩,.string ⟨#[103,112,117]⟩] 9 (0,0)):=by
 have e:∀ (W1:World) (o:Obj) (n:Nat),W1.heap.size=n→(W1.alloc o).heap[n]? = some o:=by intro W1 o n h; subst h; exact heap_alloc_new W1 o
 unfold rh
 exact e _ _ _ (by simp)
theorem NF (w:World) (y:Nat) (hy:y < 5) : (rh w).cell? ⟨w.heap.size + 1 + 1 + 1 + 1 + 1 + 1,y,none⟩=some (.slice (some ⟨w.heap.size + 1 + y,0,none⟩) (mu y).length (mu y).length):=by
 unfold rh
 rcases y with _ | _ | _ | _ | _ | y
 all_goals first | omega | (simp [go_sem,mu,Nat.add_assoc])
theorem NH (w:World) (y:Nat) (hy:y < 5) (i:Nat) (hi:i < (mu y).length) : (rh w).cell? ⟨w.heap.size + 1 + y,i,none⟩=some (.string ⟨((mu y)[i]).toArray⟩):=by
 unfold rh
 rcases y with _ | _ | _ | _ | _ | y
 all_goals first | omega | skip
 all_goals (rcases i with _ | _ | _ | _ | _ | _ | _ | i)
 all_goals first | (exfalso; simp [mu] at hi; done) | (exfalso; simp [mu] at hi; omega) | (simp [go_sem,mu,Nat.add_assoc])
theorem xS (v:Value) (xs:List Int) (i:Int) (w:World) (r0:Rd w v (xs.map (Value.int .i64))) (hn:xs.length≤9223372036854775807) (h0 : 0≤i) (h1:i≤1000000) :
  Calls prog 53 #[v,.int .i64 i] w fun e w'=>(∃ a:Int,e = .returned (.int .i64 a)∧a=g8 xs i)∧w=w':=by
 obtain ⟨A,N,c,rfl,hN,hc1,hc2,hcell⟩:=G2 r0
 have HC:=Lib.hid hcell
 have HN:=Lib.hid hN
 have hN1:N≤9223372036854775807:=by omega
 clear hcell hN r0
 by_cases hz:N=0
 ·subst hz
  have hp:g8 xs i=i:=by unfold g8; rw [if_pos (by have:=HN.out; omega)]
  rw [hp]
  clear hp
  go_enter Tryz.func53,Tryz.ntmps53
  go_wp2
  go_ret
  exact ⟨⟨_,rfl,rfl⟩,rfl⟩
 ·have q0:((N:Int)==0)=false:=by simp; omega
  obtain ⟨m,hm⟩ : ∃ m:Nat,i % (N:Int)=(m:Int):=⟨(i % (N:Int)).toNat,by have:=Int.emod_nonneg i (show (N:Int)≠0 by omega); omega⟩
  have hmN:m < N:=by have:=Int.emod_lt_of_pos i (show (0:Int) < N by omega); omega
  obtain ⟨a,rfl,hb,hcs⟩:=HC.out (by omega)
  have h3:=hcs m (by have:=HN.out; omega)
  have n1:(1:Int)≤(N:Int):=by omega
  have m0:(0:Int)≤(m:Int):=by omega
  have m1:(m:Int) < (N:Int):=by omega
  have hp:g8 xs i=xs[m]'(by have:=HN.out; omega):=by
   unfold g8
   rw [if_neg (by have:=HN.out; omega),show (xs.length:Int)=(N:Int) by have:=HN.out; omega,hm]
   simp [List.getD,zq (show m < xs.length by have:=HN.out; omega)]
  generalize xs[m]'(by have:=HN.out; omega)=x at h3 hp
  rw [hp]
  clear hp
  clear hcs
  go_enter Tryz.func53,Tryz.ntmps53
  go_wp2
  go_ret
  exact ⟨⟨_,rfl,rfl⟩,rfl⟩
section
section
variable {P:Program} {ops:Array Oper} {Q:Exit→Act→World→Prop} {md:Region.Mode} {L:World→World→Prop}
def fK (P:Program) (ops:Array Oper) (L:World→World→Prop) (W:World) (o:Oper) (v:Value) (a:Act) : Prop :=
 (Region.wanted o (yielded ops a.tmps)=true∧∀ w,L W w→OkX P v w ((execOp a.eval o).run P w)) ∨
 (Region.wanted o (yielded ops a.tmps)=false∧v=undef)
structure Way (L:World→World→Prop) : Prop where
 ext:∀ {a b},Ext a b→L a b
 trans:∀ {a b c},L a b→L b c→L a c
theorem fK.of_same {W:World} {o:Oper} {v:Value} {a a':Act} (hy:fK P ops L W o v a) (he:execOp a'.eval o=execOp a.eval o)
  (hw:Region.wanted o (yielded ops a'.tmps)=Region.wanted o (yielded ops a.tmps)) : fK P ops L W o v a':=by
 unfold fK at *
 rw [he,hw]
 exact hy
theorem fK.later (hL:Way L) {W W':World} {o:Oper} {v:Value} {a:Act} (hy:fK P ops L W o v a) (h:L W W') : fK P ops L W' o v a :=
 hy.imp (fun ⟨hw,hv⟩=>⟨hw,fun w k=>hv w (hL.trans h k)⟩) id
theorem fK.wpOp {W w:World} {i:Nat} {o:Oper} {v:Value} {a:Act} (hi:ops[i]? = some o) (hy:fK P ops L W o v a) (hW:L W w)
  {K:Act→World→Prop} (h:∀ w',Ext w w'→K (a.put o.dst v) w') : wpOp P ops Q i K a w:=by
 unfold Go.wpOp
 simp only [hi]
 rcases hy with ⟨hw,hv⟩ | ⟨hw,rfl⟩
 ·simp only [hw,if_true]
  refine .inl ?_
  unfold Oper.wp
  have:=hv w hW
  generalize (execOp a.eval o).run P w=r at *
  cases r with
  | ok n w' =>
   cases n <;> simp only [OkX] at this <;> simp only [Oper.upon]
   case value u=>rw [this.1]; exact h _ this.2
   case enter f args =>
    refine Calls.mono this.2 fun e w'' he=>?_
    rw [he.1]
    exact h _ (this.1.trans he.2)
  | halt x w'=>simp only [OkX] at this
 ·simp only [hw,zf,if_false]; exact h _ (Ext.refl _)
theorem Q2 {j:Nat} {W:World} {oi oj:Oper} {v:Value} (hj:ops[j]? = some oj) (hap:oi.apart ops oj=true)
  (hsi:∀ cs b,oi.op≠.select cs b) (hsj:∀ cs b,oj.op≠.select cs b)
  (hQ:∀ c a w,Q (.panic c) (a.put oi.dst v) w→Q (.panic c) a w) {K:Act→World→Prop} {a:Act} {w:World}
  (hy:fK P ops L W oi v a) (h:wpOp P ops Q j K (a.put oi.dst v) w) :
  wpOp P ops Q j (fun a' w'=>fK P ops L W oi v a'∧K (a'.put oi.dst v) w') a w:=by
 obtain ⟨h1,h2,h3⟩:=Oper.apart_spec hap
 have keep:∀ (a:Act),fK P ops L W oi v a→∀ u,fK P ops L W oi v (a.put oj.dst u):=fun a hy u =>
  hy.of_same (execOp_put oi hsi a oj.dst u h3) (wanted_put oi a oj.dst u h3)
 have keepD:∀ d,fK P ops L W oi v { a with defers:=d::a.defers } := fun d=>hy.of_same rfl rfl
 unfold Go.wpOp at *
 simp only [hj] at *
 rw [wanted_put oj a oi.dst v h1] at h
 split
 ·rename_i hw
  simp only [hw,if_true] at h
  rcases h with h | ⟨hasks,hlets⟩
  case inr=>exact .inr ⟨by unfold Oper.asks at *; rw [execOp_put oj hsj a oi.dst v h1] at hasks; exact hasks,hlets⟩
  refine .inl ?_
  unfold Oper.wp at *
  rw [execOp_put oj hsj a oi.dst v h1] at h
  generalize (execOp a.eval oj).run P w=r at *
  cases r with
  | ok n w' =>
   cases n <;> simp only [Oper.upon] at h ⊢
   case value u=>exact ⟨keep a hy u,by rw [← Act.put_comm a v u h2]; exact h⟩
   case skip=>exact ⟨keep a hy _,by rw [← Act.put_comm a v undef h2]; exact h⟩
   case defer d =>
    refine ⟨keep _ (keepD d) _,?_⟩
    rw [← Act.put_comm _ v undef h2,← Act.put_defers]
    exact h
   case enter f args =>
    refine Calls.mono h fun e w'' he=>?_
    cases e with
    | returned u=>exact ⟨keep a hy u,by rw [← Act.put_comm a v u h2]; exact he⟩
    | panicked c=>exact hQ _ _ _ he
    | outgrown=>exact he
   case row row args=>exact Rows.mono h fun u w'' he=>⟨keep a hy u,by rw [← Act.put_comm a v u h2]; exact he⟩
  | halt x w' =>
   cases x <;> simp only [Oper.upon] at h ⊢
   case panic u=>exact hQ _ _ _ h
 ·rename_i hw
  simp only [hw] at h
  exact ⟨keep a hy _,by rw [← Act.put_comm a v undef h2]; exact h⟩
def wpW (P:Program) (md:Region.Mode) (ops:Array Oper) (Q:Exit→Act→World→Prop) (L:World→World→Prop) : Nat→Array Bool→Act→World→Prop
 | 0,listed,a,w=>Region.ready md ops listed = []∧∀ w1,Ext w w1→Q .normal a w1
 | f + 1, listed, a, w => (Region.ready md ops listed = [] → ∀ w1, Ext w w1 → Q .normal a w1) ∧ ∀ w1, Ext w w1 →
     ∀ i∈Region.ready md ops listed,wpOp P ops Q i (fun a' w'=>L w1 w'∧wpW P md ops Q L f (listed.setIfInBounds i true) a' w') a w1
theorem wpW.later:∀ {f:Nat} {listed:Array Bool} {a:Act} {w w':World},wpW P md ops Q L f listed a w→Ext w w'→wpW P md ops Q L f listed a w'
 | 0,_,_,_,_,h,k=>⟨h.1,fun w1 k1=>h.2 w1 (k.trans k1)⟩
 | _ + 1,_,_,_,_,h,k=>⟨fun h0 w1 k1=>h.1 h0 w1 (k.trans k1),fun w1 k1=>h.2 w1 (k.trans k1)⟩
theorem xC:∀ (f:Nat) (listed:Array Bool) (a:Act) (w:World),wpW P md ops Q L f listed a w→wpAny P md ops Q f listed a w
 | 0,_,_,_,h=>⟨h.1,h.2 _ (Ext.refl _)⟩
 | f + 1,_,_,_,h=>⟨fun h0=>h.1 h0 _ (Ext.refl _),fun i hi=>wpOp_mono (fun a' w' h'=>xC f _ a' w' h'.2) (h.2 _ (Ext.refl _) i hi)⟩
theorem Q1 (hL:Way L) {i:Nat} {oi:Oper} {v:Value} (hi:ops[i]? = some oi) (hsel:∀ (j:Nat) (o:Oper) cs b,ops[j]? = some o→o.op≠.select cs b)
  (hQ:∀ c a w,Q (.panic c) (a.put oi.dst v) w→Q (.panic c) a w) :
  ∀ (f:Nat) (listed:Array Bool) (a:Act) (w:World),
   (∀ j oj,ops[j]? = some oj→j≠i→listed.getD j true=false→(∀ e∈oj.after,Region.binds md e=true→e.on≠i)→oi.apart ops oj=true) →
   i∈Region.ready md ops listed→fK P ops L w oi v a →
   wpW P md ops Q L f (listed.setIfInBounds i true) (a.put oi.dst v) w→wpW P md ops Q L (f + 1) listed a w:=by
 intro f
 induction f with
 | zero =>
  intro listed a w _ hr hy H
  refine ⟨fun h=>(by rw [h] at hr; cases hr),fun w1 k1 j hj=>?_⟩
  by_cases hji:j=i
  ·subst hji; exact hy.wpOp hi (hL.ext k1) fun w' k'=>⟨hL.ext k',wpW.later H (k1.trans k')⟩
  ·have:=ready_mono hj hji
   rw [H.1] at this
   cases this
 | succ f ih =>
  intro listed a w hfree hr hy H
  have hun:=(mem_ready.1 hr).1
  refine ⟨fun h=>(by rw [h] at hr; cases hr),fun w1 k1 j hj=>?_⟩
  by_cases hji:j=i
  ·subst hji; exact hy.wpOp hi (hL.ext k1) fun w' k'=>⟨hL.ext k',wpW.later H (k1.trans k')⟩
  ·have h1:=H.2 w1 k1 j (ready_mono hj hji)
   obtain ⟨hjun,oj,hoj,hall⟩:=mem_ready.1 hj
   have hnot:∀ e∈oj.after,Region.binds md e=true→e.on≠i:=fun e he hb heq=>by
    have h1:=hall e he hb
    rw [heq,getD_both hun] at h1
    cases h1
   have hfree':∀ k ok,ops[k]? = some ok→k≠i→(listed.setIfInBounds j true).getD k true=false →
     (∀ e∈ok.after,Region.binds md e=true→e.on≠i)→oi.apart ops ok=true:=fun k ok hk hki hun hno=>by
    refine hfree k ok hk hki ?_ hno
    by_cases hjk:j=k
    ·subst hjk; exact hjun
    ·rw [getD_set_ne true hjk] at hun; exact hun
   have h2:=Q2 hoj (hfree j oj hoj hji hjun hnot) (fun cs b=>hsel i oi cs b hi) (fun cs b=>hsel j oj cs b hoj) hQ hy h1
   refine wpOp_mono (fun a' w' h3=>⟨h3.2.1,ih (listed.setIfInBounds j true) a' w' hfree' (ready_mono hr (Ne.symm hji)) (h3.1.later hL (hL.trans (hL.ext k1) h3.2.1)) ?_⟩) h2
   rw [Array.setIfInBounds_comm _ _ hji]
   exact h3.2.2
def wG (md:Region.Mode) (ops:Array Oper) : List (Nat×Bool)→Array Bool→Bool
 | [],listed=>(Region.ready md ops listed).isEmpty
 | (i,true)::s,listed=>(Region.ready md ops listed).contains i&&Region.free md ops listed i&&wG md ops s (listed.setIfInBounds i true)
 | (i,false)::s,listed=>(Region.ready md ops listed == [i])&&wG md ops s (listed.setIfInBounds i true)
def wpS (P:Program) (ops:Array Oper) (Q:Exit→Act→World→Prop) (L:World→World→Prop) : List (Nat×Bool)→Act→World→Prop
 | [],a,W=>∀ w1,Ext W w1→Q .normal a w1
 | (i,true)::s,a,W=>∃ o v,ops[i]? = some o∧fK P ops L W o v a∧wpS P ops Q L s (a.put o.dst v) W
 | (i,false)::s,a,W=>∀ w1,Ext W w1→wpOp P ops Q i (fun a' w'=>L w1 w'∧wpS P ops Q L s a' w') a w1
def Qu (ops:Array Oper) (ds:Tmp→Bool) (s:List (Nat×Bool)) : Bool:=s.all fun p=>!p.2||((ops[p.1]?).all fun o=>o.dst.all ds)
theorem wv (hL:Way L) (hsel:Region.noSelect ops=true) (ds:Tmp→Bool) (hQ:∀ c (a:Act) (d:Tmp) v w,ds d=true→Q (.panic c) (a.put (some d) v) w→Q (.panic c) a w) :
  ∀ (s:List (Nat×Bool)) (listed:Array Bool) (a:Act) (W:World),Qu ops ds s=true→wG md ops s listed=true→wpS P ops Q L s a W→wpW P md ops Q L s.length listed a W
 | [],listed,a,W,_,hB,h=>⟨by simpa [wG] using hB,h⟩
 | (i,true)::s,listed,a,W,hI,hB,h=>by
  simp only [Qu,List.all_cons,Bool.and_eq_true,Bool.not_true,Bool.false_or] at hI
  obtain ⟨hI1,hI2⟩:=hI
  simp only [wG,Bool.and_eq_true] at hB
  obtain ⟨⟨hr,hf⟩,hB'⟩:=hB
  obtain ⟨o,v,h0,hy,hK⟩:=h
  exact Q1 hL h0 (Region.noSelect_spec hsel) (fun c a w=>by cases hd:o.dst with | none=>exact fun h=>h | some d=>exact hQ c a d v w (by simpa [h0,hd] using hI1)) s.length listed a W
   (Region.free_spec h0 hf) (by simpa using hr) hy (wv hL hsel ds hQ s _ _ _ hI2 hB' hK)
 | (i,false)::s,listed,a,W,hI,hB,h=>by
  simp only [Qu,List.all_cons,Bool.and_eq_true] at hI
  simp only [wG,Bool.and_eq_true,beq_iff_eq] at hB
  obtain ⟨hr,hB'⟩:=hB
  refine ⟨fun h0=>(by rw [hr] at h0; cases h0),fun w1 k1 j hj=>?_⟩
  rw [hr,List.mem_singleton] at hj
  subst hj
  exact wpOp_mono (fun a' w' h'=>⟨h'.1,wv hL hsel ds hQ s _ _ _ hI.2 hB' h'.2⟩) (h w1 k1)
theorem Ki:∀ (f:Nat) {g:Nat} {listed:Array Bool} {a:Act} {w:World},f≤g→wpAny P md ops Q f listed a w→wpAny P md ops Q g listed a w
 | 0,0,_,_,_,_,h=>h
 | 0,g + 1,_,_,_,_,h=>⟨fun _=>h.2,by rw [h.1]; simp⟩
 | f + 1,g + 1,_,_,_,hle,h=>⟨h.1,fun i hi=>wpOp_mono (fun a' w' h'=>Ki f (by omega) h') (h.2 i hi)⟩
 | f + 1,0,_,_,_,hle,_=>absurd hle (by omega)
theorem n7 (L:World→World→Prop) (hL:Way L) {id:Nat} {a:Act} {w:World} {l:List Oper} (s:List (Nat×Bool)) (hm:P.follows .mixedOrders=true)
  (hB:(Region.noSelect l.toArray&&decide (s.length≤l.toArray.size)&&wG .any l.toArray s (Array.replicate l.toArray.size false))=true)
  (hQ:∀ c (a:Act) (d:Tmp) v w,Q (.panic c) (a.put (some d) v) w→Q (.panic c) a w)
  (h:wpS P l.toArray Q L s a w.drew) : (Code.region id l.toArray true).wp P Q a w:=by
 simp only [Bool.and_eq_true,decide_eq_true_eq] at hB
 obtain ⟨⟨hsel,hle⟩,hB⟩:=hB
 exact wp_region_any hm (Ki _ hle (xC _ _ _ _ (wv (md:=.any) hL hsel (fun _=>true) (fun c a d v w _=>hQ c a d v w) s _ a w.drew (by simp [Qu]) hB h)))
variable {l:List Oper}
theorem qP {o:Oper} {a:Act} (h:o.guard=none) : Region.wanted o (yielded l.toArray a.tmps)=true:=by simp [Region.wanted,h]
theorem rY {W:World} {i:Nat} {s:List (Nat×Bool)} {a:Act} (o:Oper) (v:Value) (hi:l[i]? = some o) (hw:Region.wanted o (yielded l.toArray a.tmps)=true)
  (h:∀ w1,L W w1→OkX P v w1 ((execOp a.eval o).run P w1)) (hr:wpS P l.toArray Q L s (a.put o.dst v) W) : wpS P l.toArray Q L ((i,true)::s) a W:=⟨o,v,by simpa using hi,.inl ⟨hw,h⟩,hr⟩
theorem Nf {W:World} {i:Nat} {s:List (Nat×Bool)} {a:Act} (o:Oper) (hi:l[i]? = some o) (hw:Region.wanted o (yielded l.toArray a.tmps)=true)
  (h:∀ w1,Ext W w1→o.wp P a w1 (fun a' w'=>L w1 w'∧wpS P l.toArray Q L s a' w') Q) : wpS P l.toArray Q L ((i,false)::s) a W:=by
 intro w1 k1
 have hi':l.toArray[i]? = some o:=by simpa using hi
 unfold Go.wpOp
 simp only [hi',hw,if_true]
 exact .inl (h w1 k1)
theorem wF {W:World} {a:Act} (h:∀ w1,Ext W w1→Q .normal a w1) : wpS P ops Q L [] a W:=h
end
theorem I1:Way Ext:=⟨fun h=>h,Ext.trans⟩
end
end Go.Proofs.YtaknepbdbappdaaGreat
