/- My texts, in one. -/
import Derived.Test.YtaknepbdbappdaaGreatZD
set_option linter.all false
set_option maxRecDepth 100000
set_option maxHeartbeats 4000000
namespace Go.Proofs.YtaknepbdbappdaaGreat
open Go.RowKit
open IntKind (i64)
open Go.Proofs.Tryz (prog)
def Wf:Tx:=[114,111,111,116]
def mG:Nat→List Tx
 | 0=>[[114,111,111,116]]
 | 1=>[[114,111,111,116],[114,111,111,116,46,97],[114,111,111,116,46,98]]
 | 2=>[[114,111,111,116],[114,111,111,116,46,97],[114,111,111,116,46,97,46,120],[114,111,111,116,46,97,46,121],[114,111,111,116,46,98]]
 | 3=>[[114,111,111,116],[114,111,111,116,46,97],[114,111,111,116,46,98],[114,111,111,116,46,98,46,120],[114,111,111,116,46,98,46,120,46,112],[114,111,111,116,46,98,46,120,46,113],[114,111,111,116,46,99]]
 | _=>[[114,111,111,116],[114,111,111,116,46,97]]
def gpu:Tx:=[103,112,117]
def CX (nl:Nat) : List Tx:=([[],gpu] : List Tx).take nl
theorem qR {nl:Nat} (h:nl≤2) : (CX nl).length=nl:=by simp [CX]; omega
theorem LH (y:Nat) : (mG y).length≤7:=by
 unfold mG
 split <;> decide
theorem LG (y:Nat) : ∀ p∈mG y,p.length≤11:=by
 unfold mG
 split <;> decide
theorem OT (y:Nat) : (mG y).Nodup:=by
 unfold mG
 split <;> decide
def Cd (p:Tx) (ps:List Tx) : List Tx:=ps.filter fun x=>decide (p≠[])&&decide (above x=p)
theorem EL (p:Tx) (ds:List QD) : cz p ds=Cd p (ds.map (·.path)):=by
 unfold cz Cd
 rw [List.filter_map]
 rfl
def rQ:Int×Int:=(10000,10000)
structure G1 (nl:Nat) (ps:List Tx) (k:Nat) (ds:List QD) : Prop where
 paths:ds.map (·.path)=ps.take k
 each:∀ q∈ds,q.caps=List.replicate nl rQ∧1≤q.user∧q.user≤1000000
theorem G1.nil (nl:Nat) (ps:List Tx) : G1 nl ps 0 []:=⟨rfl,by simp⟩
theorem G1.snoc {nl k:Nat} {ps:List Tx} {ds:List QD} (h:G1 nl ps k ds) (hk:k < ps.length) {u:Int} (h1 : 1≤u) (h2:u≤1000000) : G1 nl ps (k + 1) (ds ++ [⟨ps[k],List.replicate nl rQ,u⟩]):=by
 refine ⟨?_,fun q hq=>?_⟩
 ·rw [List.map_append,h.paths,List.take_succ_eq_append_getElem hk]; rfl
 ·rcases List.mem_append.1 hq with hq | hq
  ·exact h.each q hq
  ·simp at hq; subst hq; exact ⟨rfl,h1,h2⟩
def abB (c:Int×Int) : Prop:=0≤c.1∧c.1≤c.2∧c.2≤10000
structure Gd (nl:Nat) (ps:List Tx) (ds:List QD) : Prop where
 paths:ds.map (·.path)=ps
 each:∀ q∈ds,q.caps.length=nl∧1≤q.user∧q.user≤1000000∧∀ c∈q.caps,abB c
 root:∀ q∈ds,q.path=Wf→q.caps=List.replicate nl rQ
theorem Gd.len {nl:Nat} {ps:List Tx} {ds:List QD} (h:Gd nl ps ds) : ds.length=ps.length:=by
 have:=congrArg List.length h.paths
 simpa using this
def Ij (k:Nat) (q:QD) : Int:=(q.caps.getD k (0,0)).1
def Pw (k:Nat) (l:List QD) : Int:=(l.map (Ij k)).sum
def mU (p:Tx) (ds:List QD) : List QD:=ds.filter (lA p)
theorem uN (p:Tx) (ds:List QD) : (mU p ds).length=(cz p ds).length:=by simp [mU,cz]
def ZM (k:Nat) (p:Tx) (ds:List QD) : Prop:=mU p ds≠[]→Pw k (mU p ds)=10000
structure GI (nl:Nat) (ps:List Tx) (i:Nat) (ds:List QD) : Prop where
 gd:Gd nl ps ds
 done:∀ i' (h:i' < ps.length),i' < i→∀ k,k < nl→ZM k ps[i'] ds
structure GK (nl:Nat) (ps:List Tx) (i k:Nat) (ds:List QD) : Prop where
 gi:GI nl ps i ds
 part:∀ h:i < ps.length,∀ k',k' < k→ZM k' ps[i] ds
structure GJ (nl:Nat) (ps:List Tx) (i k j:Nat) (left:Int) (ds:List QD) : Prop where
 gk:GK nl ps i k ds
 lo : 0≤left
 hi:left≤10000
 sum:∀ h:i < ps.length,Pw k ((mU ps[i] ds).take j)=10000 - left
 last:∀ h:i < ps.length,0 < j→j=(mU ps[i] ds).length→left=0
def qI (p:Tx) (k:Nat) (a b:Int) (q:QD) : QD:=if q.path=p then ⟨q.path,q.caps.set k (a,b),q.user⟩ else q
def iZ (p:Tx) (k:Nat) (a b:Int) (ds:List QD) : List QD:=ds.map (qI p k a b)
def e9 (p:Tx) (k:Nat) (a b:Int) (ds:List QD) (m:Nat) : List QD:=(ds.take m).map (qI p k a b)++ds.drop m
theorem D5 (p:Tx) (k:Nat) (a b:Int) (ds:List QD) : e9 p k a b ds 0=ds:=by simp [e9]
theorem H5 (p:Tx) (k:Nat) (a b:Int) (ds:List QD) : e9 p k a b ds ds.length=iZ p k a b ds:=by simp [e9,iZ]
theorem g7 (p:Tx) (k:Nat) (a b:Int) (ds:List QD) (m:Nat) : (e9 p k a b ds m).length=ds.length:=by simp [e9]; omega
theorem AK (p:Tx) (k:Nat) (a b:Int) (ds:List QD) (m:Nat) (hm:m < ds.length) (h:m < (e9 p k a b ds m).length) : (e9 p k a b ds m)[m] = ds[m]:=by
 have h2:(e9 p k a b ds m)[m]? = ds[m]? := by
  unfold e9
  rw [List.getElem?_append_right (by simp; omega),List.getElem?_drop]
  congr 1
  simp
  omega
 rw [zq h,zq hm] at h2
 injection h2
theorem AP (p:Tx) (k:Nat) (a b:Int) (q:QD) : (qI p k a b q).path=q.path:=by unfold qI; split <;> rfl
theorem TS (p:Tx) (k:Nat) (a b:Int) (q:QD) : (qI p k a b q).caps.length=q.caps.length:=by unfold qI; split <;> simp
theorem H8 (p:Tx) (k:Nat) (a b:Int) (q:QD) : (qI p k a b q).user=q.user:=by unfold qI; split <;> rfl
theorem JQ {p:Tx} {k:Nat} {a b:Int} {q:QD} (h:q.path≠p) : qI p k a b q=q:=by unfold qI; rw [if_neg h]
theorem LQ {p:Tx} {k:Nat} {a b:Int} {ds:List QD} {m:Nat} (hm:m < ds.length) (h:ds[m].path≠p) : e9 p k a b ds (m + 1)=e9 p k a b ds m:=by
 unfold e9
 rw [List.take_succ_eq_append_getElem hm,List.map_append,List.drop_eq_getElem_cons hm]
 simp [JQ h]
theorem EA {α : Type} : ∀ (l:List α) (x : α) (r:List α) (f : α→α) (n:Nat),l.length=n→(l++x::r).modify n f=l++f x::r
 | [],x,r,f,_,h=>by subst h; rfl
 | y::l,x,r,f,n,h=>by
  subst h
  simp only [List.cons_append,List.length_cons,List.modify_succ_cons]
  rw [EA l x r f _ rfl]
theorem H4 {p:Tx} {k:Nat} {a b:Int} {ds:List QD} {m:Nat} (hm:m < ds.length) (h:ds[m].path=p) : e9 p k a b ds (m + 1)=(e9 p k a b ds m).modify m (fun q=>⟨q.path,q.caps.set k (a,b),q.user⟩):=by
 have hl:((ds.take m).map (qI p k a b)).length=m:=by simp; omega
 unfold e9
 rw [List.take_succ_eq_append_getElem hm,List.map_append,List.append_assoc]
 conv=>rhs; rw [List.drop_eq_getElem_cons hm]
 rw [EA _ _ _ _ _ hl]
 simp [qI,h]
theorem G1.start {nl:Nat} {ps:List Tx} {ds:List QD} (h:G1 nl ps ps.length ds) : GI nl ps 0 ds:=by
 refine ⟨⟨by rw [h.paths,List.take_length],fun q hq=>?_,fun q hq _=>(h.each q hq).1⟩,fun _ _ h=>by omega⟩
 obtain ⟨h1,h2,h3⟩:=h.each q hq
 refine ⟨by rw [h1]; simp,h2,h3,fun c hc=>?_⟩
 rw [h1] at hc
 have:=List.eq_of_mem_replicate hc
 subst this
 exact ⟨by decide,by decide,by decide⟩
theorem GI.toK {nl i:Nat} {ps:List Tx} {ds:List QD} (h:GI nl ps i ds) : GK nl ps i 0 ds:=⟨h,fun _ _ h=>by omega⟩
theorem GK.toJ {nl i k:Nat} {ps:List Tx} {ds:List QD} (h:GK nl ps i k ds) : GJ nl ps i k 0 10000 ds:=⟨h,by omega,by omega,fun _=>by simp [Pw],fun _ h=>by omega⟩
theorem GJ.end {nl i k j:Nat} {left:Int} {ps:List Tx} {ds:List QD} (h:GJ nl ps i k j left ds) (hj:∀ h:i < ps.length,j=(cz ps[i] ds).length) : GK nl ps i (k + 1) ds:=by
 refine ⟨h.gk.gi,fun hi k' hk' hne=>?_⟩
 rcases Nat.lt_or_ge k' k with h1 | h1
 ·exact h.gk.part hi k' h1 hne
 ·obtain rfl:k' = k:=by omega
  have h2:=hj hi
  rw [← uN] at h2
  have h3:=h.sum hi
  have h4:=h.last hi (by
   have:(mU ps[i] ds).length≠0:=fun e=>hne (List.eq_nil_of_length_eq_zero e)
   omega) h2
  rw [h2,List.take_length] at h3
  omega
theorem GK.end {nl i:Nat} {ps:List Tx} {ds:List QD} (h:GK nl ps i nl ds) : GI nl ps (i + 1) ds:=by
 refine ⟨h.gi.gd,fun i' hi' hlt k hk=>?_⟩
 rcases Nat.lt_or_ge i' i with h1 | h1
 ·exact h.gi.done i' hi' h1 k hk
 ·obtain rfl:i' = i:=by omega
  exact h.part hi' k hk
theorem Mm {α : Type} {l:List α} (h:l.Nodup) {i j:Nat} (hi:i < l.length) (hj:j < l.length) (e:l[i] = l[j]) : i=j:=by
 rcases Nat.lt_trichotomy i j with h1 | h1 | h1
 ·exact absurd e (List.pairwise_iff_getElem.1 h i j hi hj h1)
 ·exact h1
 ·exact absurd e.symm (List.pairwise_iff_getElem.1 h j i hj hi h1)
theorem G3 {p:Tx} {k k':Nat} {a b:Int} {q:QD} (h:k'≠k) : Ij k' (qI p k a b q)=Ij k' q:=by
 unfold qI Ij
 split
 ·simp only [List.getD_eq_getElem?_getD]
  rw [List.getElem?_set_ne (by omega)]
 ·rfl
theorem Eg {p:Tx} {k:Nat} {a b:Int} {q:QD} (h:q.path=p) (hk:k < q.caps.length) : Ij k (qI p k a b q)=a:=by
 unfold qI Ij
 rw [if_pos h]
 simp only [List.getD_eq_getElem?_getD]
 rw [List.getElem?_set_self (by simpa using hk)]
 rfl
theorem PD (pp p:Tx) (k:Nat) (a b:Int) (q:QD) : lA pp (qI p k a b q)=lA pp q:=by unfold lA; rw [AP]
theorem yR (pp p:Tx) (k:Nat) (a b:Int) (ds:List QD) : mU pp (iZ p k a b ds)=(mU pp ds).map (qI p k a b):=by
 unfold mU iZ
 rw [List.filter_map]
 congr 1
 apply List.filter_congr
 intro q _
 exact PD pp p k a b q
theorem Zc {p:Tx} {k k':Nat} {a b:Int} (l:List QD) (h:k'≠k) : Pw k' (l.map (qI p k a b))=Pw k' l:=by
 unfold Pw
 rw [List.map_map]
 congr 1
 apply List.map_congr_left
 intro q _
 exact G3 h
theorem Ca {p:Tx} {k:Nat} {a b:Int} (l:List QD) (h:∀ q∈l,q.path≠p) : l.map (qI p k a b)=l:=by
 conv=>rhs; rw [← List.map_id l]
 apply List.map_congr_left
 intro q hq
 exact JQ (h q hq)
theorem xC {pp:Tx} {ds:List QD} {q:QD} (h:q∈mU pp ds) : above q.path=pp∧pp≠[]:=by
 unfold mU at h
 have:=(List.mem_filter.1 h).2
 simp [lA] at this
 exact ⟨this.2,this.1⟩
theorem Gd.set {nl k:Nat} {p:Tx} {n mo:Int} {ps:List Tx} {ds:List QD} (h:Gd nl ps ds) (hp:p≠Wf) (h0 : 0≤n) (h2:n≤mo) (h3:mo≤10000) : Gd nl ps (iZ p k n mo ds):=by
 refine ⟨?_,fun q hq=>?_,fun q hq hr=>?_⟩
 ·unfold iZ
  rw [List.map_map,← h.paths]
  apply List.map_congr_left
  intro q _
  exact AP _ _ _ _ _
 ·unfold iZ at hq
  obtain ⟨q',hq',rfl⟩:=List.mem_map.1 hq
  obtain ⟨h4,h5,h6,h7⟩:=h.each q' hq'
  refine ⟨by rw [TS]; exact h4,by rw [H8]; exact h5,by rw [H8]; exact h6,fun c hc=>?_⟩
  unfold qI at hc
  split at hc
  ·rcases List.mem_or_eq_of_mem_set hc with hc | hc
   ·exact h7 c hc
   ·subst hc; exact ⟨h0,h2,h3⟩
  ·exact h7 c hc
 ·unfold iZ at hq
  obtain ⟨q',hq',rfl⟩:=List.mem_map.1 hq
  rw [AP] at hr
  rw [JQ (by rw [hr]; exact fun e=>hp e.symm)]
  exact h.root q' hq' hr
theorem GJ.step {nl i k j:Nat} {left n mo:Int} {ps:List Tx} {ds:List QD} (h:GJ nl ps i k j left ds) (hps:ps.Nodup) (hi:i < ps.length) (hj:j < (cz ps[i] ds).length) (hk:k < nl) (h0 : 0≤n) (h1:n≤left) (hlast:j + 1=(cz ps[i] ds).length→n=left) (h2:n≤mo) (h3:mo≤10000) :
  GJ nl ps i k (j + 1) (left - n) (iZ ((cz ps[i] ds)[j]) k n mo ds):=by
 have hgd:=h.gk.gi.gd
 have hjl:j < (mU ps[i] ds).length:=by rw [uN]; exact hj
 obtain ⟨p,hp⟩ : ∃ p,p=(cz ps[i] ds)[j]:=⟨_,rfl⟩
 have hpp:(mU ps[i] ds)[j].path=p:=by rw [hp]; simp [cz,mU]
 have hmem:(mU ps[i] ds)[j]∈mU ps[i] ds:=List.getElem_mem hjl
 have hab:above p=ps[i]:=by rw [← hpp]; exact (xC hmem).1
 have hne0:ps[i]≠[]:=(xC hmem).2
 have hroot:p≠Wf:=by
  intro e
  rw [e] at hab
  exact hne0 (hab.symm.trans (by decide))
 rw [← hp]
 have hnd:((mU ps[i] ds).map (·.path)).Nodup:=by
  unfold mU
  have h5:(ds.map (·.path)).Nodup:=by rw [hgd.paths]; exact hps
  exact List.Nodup.sublist (List.Sublist.map _ List.filter_sublist) h5
 have other:∀ i' (hi':i' < ps.length),i'≠i→mU ps[i'] (iZ p k n mo ds)=mU ps[i'] ds:=by
  intro i' hi' hne
  rw [yR,Ca]
  intro q hq e
  have:=(xC hq).1
  rw [e,hab] at this
  exact hne (Mm hps hi' hi this.symm)
 have hcap:k < ((mU ps[i] ds)[j]).caps.length:=by
  have:(mU ps[i] ds)[j]∈ds:=(List.mem_filter.1 hmem).1
  rw [(hgd.each _ this).1]; exact hk
 have before:((mU ps[i] ds).take j).map (qI p k n mo)=(mU ps[i] ds).take j:=by
  apply Ca
  intro q hq e
  obtain ⟨j',hj',e2⟩:=List.mem_iff_getElem.1 hq
  rw [List.length_take] at hj'
  rw [List.getElem_take] at e2
  have e3:((mU ps[i] ds).map (·.path))[j']'(by simp; omega)=((mU ps[i] ds).map (·.path))[j]'(by simpa using hjl):=by
   simp only [List.getElem_map]
   rw [e2,e,hpp]
  have:=Mm hnd _ _ e3
  omega
 refine ⟨⟨⟨hgd.set hroot h0 h2 h3,fun i' hi' hlt k' hk'=>?_⟩,fun _ k' hk'=>?_⟩,by omega,by have:=h.hi; omega,fun _=>?_,fun _ _ hjj=>?_⟩
 ·unfold ZM
  rw [other i' hi' (by omega)]
  exact h.gk.gi.done i' hi' hlt k' hk'
 ·unfold ZM
  rw [yR,Zc _ (by omega)]
  intro hne
  exact h.gk.part hi k' hk' (fun e=>hne (by rw [e]; rfl))
 ·rw [yR,← List.map_take,List.take_succ_eq_append_getElem hjl,List.map_append,before]
  have hs:=h.sum hi
  unfold Pw at hs ⊢
  rw [List.map_append,List.sum_append,hs]
  simp only [List.map_cons,List.map_nil,List.sum_cons,List.sum_nil]
  rw [Eg hpp hcap]
  omega
 ·rw [yR,List.length_map,uN] at hjj
  rw [hlast hjj]
  omega
def gI (v_l:(List ByteArray)) (v_s:aa) (af:Int) (st:(List ByteArray)) (v_i:Int) (x_:ByteArray) : Option (((List ByteArray))⊕(((List ByteArray)×Int))) :=
 let am:=st
 let v_k:Int:=0
 (ah (jz am v_s v_i v_l af) ab v_k).bind fun r13 =>
 let v_k:=r13
 (hiO am v_k).bind fun b14=>(aX ([] : (List ByteArray)) b14).bind fun b15=>let v_x:(List ByteArray):=b15
 (aX v_x [x_]).bind fun b16=>let v_x:(List ByteArray):=b16
 (loO am v_k).bind fun b17=>(aX v_x b17).bind fun b18=>let am:(List ByteArray):=b18
 some (.inl am)
theorem zY (v_l:(List ByteArray)) (v_s:aa) (af:Int) (a_:(List ByteArray)) (hl:v_l.length≤1000000) : ah (l7 v_l v_s af) ab (a_,(0))=nX (gI v_l v_s af) (fun a_=>(a_,((v_l.length:Int)))) a_ 0 v_l :=
 fq v_l (S:=(List ByteArray)×Int) (fun a_ k_=>(a_,(k_))) (gI v_l v_s af) (fun a_=>(a_,((v_l.length:Int)))) (ao hl) (fun k a x hx=>by
  unfold l7 gI; exact bJ)
  (fun a=>by unfold l7; exact cI) a_
def gK (v_s:aa) (oX:ByteArray) (st:(List aC)) (x_:aC) : Option (((List aC))⊕(((List aC)×Int))) :=
 let am:=st
 let v_a:aC:=x_
 (dK v_a).bind fun c12=>(if (!c12)=true then some true else some (!(v_a.bQ.toList==oX.toList))).bind fun q13=>if q13=true then
 some (.inl am)
 else
 let v_k:Int:=0
 (ah (jA am v_a) ab v_k).bind fun r14 =>
 let v_k:=r14
 (hiO am v_k).bind fun b15=>(aX ([] : (List aC)) b15).bind fun b16=>let v_x:(List aC):=b16
 (aX v_x [v_a]).bind fun b17=>let v_x:(List aC):=b17
 (loO am v_k).bind fun b18=>(aX v_x b18).bind fun b19=>let am:(List aC):=b19
 some (.inl am)
theorem z7 (v_s:aa) (oX:ByteArray) (a_:(List aC)) (hl:v_s.ar.length≤1000000) : ah (l9 v_s oX) ab (a_,(0))=br (gK v_s oX) (fun a_=>(a_,((v_s.ar.length:Int)))) a_ v_s.ar :=
 az v_s.ar (S:=(List aC)×Int) (fun a_ k_=>(a_,(k_))) (gK v_s oX) (fun a_=>(a_,((v_s.ar.length:Int)))) (ao hl) (fun k a x hx=>by
  unfold l9 gK; exact bJ)
  (fun a=>by unfold l9; exact cI) a_
def gJ (am:(List aC)) (st:(List Int)) (x_:aC) : Option (((List Int))⊕(((List Int)×Int))) :=
 let v_l:=st
 (aX v_l [x_.fId]).bind fun b15=>let v_l:(List Int):=b15
 some (.inl v_l)
theorem z6 (am:(List aC)) (a_:(List Int)) (hl:am.length≤1000000) : ah (l8 am) ab (a_,(0))=br (gJ am) (fun a_=>(a_,((am.length:Int)))) a_ am :=
 az am (S:=(List Int)×Int) (fun a_ k_=>(a_,(k_))) (gJ am) (fun a_=>(a_,((am.length:Int)))) (ao hl) (fun k a x hx=>by
  unfold l8 gJ; exact bJ)
  (fun a=>by unfold l8; exact cI) a_
def jf (jk:(List ByteArray)) (ax:ByteArray) (st:Unit) (x_:ByteArray) : Option ((Unit)⊕((Int)⊕(Bool))) :=
 if (x_.toList==ax.toList)=true then
 some (.inr (.inr true))
 else
 some (.inl ())
theorem yg (jk:(List ByteArray)) (ax:ByteArray) (a_:Unit) (hl:jk.length≤1000000) : ah (kD jk ax) ab (0)=br (jf jk ax) (fun a_=>(.inl ((jk.length:Int)))) a_ jk :=
 az jk (S:=Int) (fun a_ k_=>(k_)) (jf jk ax) (fun a_=>(.inl ((jk.length:Int)))) (ao hl) (fun k a x hx=>by
  unfold kD jf; exact bJ)
  (fun a=>by unfold kD; exact cI) a_
def gL (v_s:aa) (af:Int) (ax:ByteArray) (yx:Bool) (mE:Int) (st:au) (x_:an) : Option ((au)⊕((au×Int))) :=
 let v_v:=st
 (eY v_s x_.bC).bind fun c11=>let v_a:aC:=c11.1
 let bV:Bool:=c11.2
 (if bV=true then some (x_.aA==af) else some false).bind fun q12=>(if q12=true then (np v_a.bQ ax).bind fun c13=>some c13 else some false).bind fun q14=>(if q14=true then (if yx=true then some true else some (v_a.de==mE)).bind fun q15=>some q15 else some false).bind fun q16=>if q16=true then
 (df v_v x_.cH).bind fun c17=>let v_v:au:=c17
 some (.inl v_v)
 else
 some (.inl v_v)
theorem Aa (v_s:aa) (af:Int) (ax:ByteArray) (yx:Bool) (mE:Int) (a_:au) (hl:v_s.ac.length≤1000000) : ah (mc v_s af ax yx mE) ab (a_,(0))=br (gL v_s af ax yx mE) (fun a_=>(a_,((v_s.ac.length:Int)))) a_ v_s.ac :=
 az v_s.ac (S:=au×Int) (fun a_ k_=>(a_,(k_))) (gL v_s af ax yx mE) (fun a_=>(a_,((v_s.ac.length:Int)))) (ao hl) (fun k a x hx=>by
  unfold mc gL; exact bJ)
  (fun a=>by unfold mc; exact cI) a_
def eg (v_s:aa) (af:Int) (ax:ByteArray) (st:au) (x_:aC) : Option ((au)⊕((au×Int))) :=
 let v_v:=st
 (dK x_).bind fun c9=>(if c9=true then (np x_.bQ ax).bind fun c10=>some c10 else some false).bind fun q11=>if q11=true then
 (kQ x_.bN af).bind fun c12=>(df v_v c12).bind fun c13=>let v_v:au:=c13
 some (.inl v_v)
 else
 some (.inl v_v)
theorem vr (v_s:aa) (af:Int) (ax:ByteArray) (a_:au) (hl:v_s.ar.length≤1000000) : ah (jg v_s af ax) ab (a_,(0))=br (eg v_s af ax) (fun a_=>(a_,((v_s.ar.length:Int)))) a_ v_s.ar :=
 az v_s.ar (S:=au×Int) (fun a_ k_=>(a_,(k_))) (eg v_s af ax) (fun a_=>(a_,((v_s.ar.length:Int)))) (ao hl) (fun k a x hx=>by
  unfold jg eg; exact bJ)
  (fun a=>by unfold jg; exact cI) a_
def gM (jk:(List ByteArray)) (v_s:aa) (af:Int) (sX:au) (st:Unit) (x_:ByteArray) : Option ((Unit)⊕((Int)⊕(Bool))) :=
 (eU v_s x_ af).bind fun c14=>(df c14 sX).bind fun c15=>let v_v:au:=c15
 (vV v_s x_ af).bind fun c16=>(f4 v_v c16).bind fun c17=>if (!c17)=true then
 some (.inr (.inr false))
 else
 (if (x_.toList==(⟨#[114,111,111,116]⟩ : ByteArray).toList)=true then (fv v_s af).bind fun c18=>(tC v_s af).bind fun c19=>(v6 c18 c19).bind fun c20=>(f4 v_v c20).bind fun c21=>some (!c21) else some false).bind fun q22=>if q22=true then
 some (.inr (.inr false))
 else
 some (.inl ())
theorem Ad (jk:(List ByteArray)) (v_s:aa) (af:Int) (sX:au) (a_:Unit) (hl:jk.length≤1000000) : ah (me jk v_s af sX) ab (0)=br (gM jk v_s af sX) (fun a_=>(.inl ((jk.length:Int)))) a_ jk :=
 az jk (S:=Int) (fun a_ k_=>(k_)) (gM jk v_s af sX) (fun a_=>(.inl ((jk.length:Int)))) (ao hl) (fun k a x hx=>by
  unfold me gM; exact bJ)
  (fun a=>by unfold me; exact cI) a_
def jr (v_l:(List aV)) (v_a:aV) (st:(List aV)×Bool) (x_:aV) : Option (((List aV)×Bool)⊕(((List aV)×Bool×Int))) :=
 let am:=st.1
 let cu:=st.2
 (if (!cu)=true then some (decide (x_.bD > v_a.bD)) else some false).bind fun q8=>(if q8=true then
 (aX am [v_a]).bind fun b10=>let am:(List aV):=b10
 let cu:Bool:=true
 some (am,cu)
 else
 some (am,cu)).bind fun j9=>let am:=j9.1
 let cu:=j9.2
 if (x_.bD != v_a.bD)=true then
 (aX am [x_]).bind fun b11=>let am:(List aV):=b11
 some (.inl (am,cu))
 else
 some (.inl (am,cu))
theorem C2 (v_l:(List aV)) (v_a:aV) (a_:(List aV)×Bool) (hl:v_l.length≤1000000) : ah (pe v_l v_a) ab (a_.1,a_.2,(0))=br (jr v_l v_a) (fun a_=>(a_.1,a_.2,((v_l.length:Int)))) a_ v_l :=
 az v_l (S:=(List aV)×Bool×Int) (fun a_ k_=>(a_.1,a_.2,(k_))) (jr v_l v_a) (fun a_=>(a_.1,a_.2,((v_l.length:Int)))) (ao hl) (fun k a x hx=>by
  unfold pe jr; exact bJ)
  (fun a=>by unfold pe; exact cI) a_
def lJ (v_l:(List aV)) (cJ:Int) (st:Unit) (x_:aV) : Option ((Unit)⊕((Int)⊕(aV×Bool))) :=
 if (x_.bD==cJ)=true then
 some (.inr (.inr (x_,true)))
 else
 some (.inl ())
theorem C3 (v_l:(List aV)) (cJ:Int) (a_:Unit) (hl:v_l.length≤1000000) : ah (pf v_l cJ) ab (0)=br (lJ v_l cJ) (fun a_=>(.inl ((v_l.length:Int)))) a_ v_l :=
 az v_l (S:=Int) (fun a_ k_=>(k_)) (lJ v_l cJ) (fun a_=>(.inl ((v_l.length:Int)))) (ao hl) (fun k a x hx=>by
  unfold pf lJ; exact bJ)
  (fun a=>by unfold pf; exact cI) a_
def iB (v_l:(List aV)) (cJ:Int) (st:Bool×(List aV)) (x_:aV) : Option ((Bool×(List aV))⊕((Bool×(List aV)×Int))) :=
 let bV:=st.1
 let am:=st.2
 let v_a:aV:=x_
 if (v_a.bD==cJ)=true then
 let bV:Bool:=true
 let t6:Int:=(i64.wrap (v_a.g9 - 1))
 let t7:Int:=0
 let v_a:aV:={ v_a with g9:=t6 }
 let v_a:aV:={ v_a with jb:=t7 }
 if (decide (v_a.g9≤0))=true then
 some (.inl (bV,am))
 else
 (aX am [v_a]).bind fun b8=>let am:(List aV):=b8
 some (.inl (bV,am))
 else
 (aX am [v_a]).bind fun b9=>let am:(List aV):=b9
 some (.inl (bV,am))
theorem Bz (v_l:(List aV)) (cJ:Int) (a_:Bool×(List aV)) (hl:v_l.length≤1000000) : ah (nC v_l cJ) ab (a_.1,a_.2,(0))=br (iB v_l cJ) (fun a_=>(a_.1,a_.2,((v_l.length:Int)))) a_ v_l :=
 az v_l (S:=Bool×(List aV)×Int) (fun a_ k_=>(a_.1,a_.2,(k_))) (iB v_l cJ) (fun a_=>(a_.1,a_.2,((v_l.length:Int)))) (ao hl) (fun k a x hx=>by
  unfold nC iB; exact bJ)
  (fun a=>by unfold nC; exact cI) a_
def eH (v_l:(List aV)) (af:Int) (st:au) (x_:aV) : Option ((au)⊕((au×Int))) :=
 let v_v:=st
 if (x_.aA==af)=true then
 (df v_v (⟨(i64.wrap (x_.cH.bg * x_.g9)),(i64.wrap (x_.cH.aI * x_.g9))⟩ : au)).bind fun c7=>let v_v:au:=c7
 some (.inl v_v)
 else
 some (.inl v_v)
theorem wo (v_l:(List aV)) (af:Int) (a_:au) (hl:v_l.length≤1000000) : ah (jH v_l af) ab (a_,(0))=br (eH v_l af) (fun a_=>(a_,((v_l.length:Int)))) a_ v_l :=
 az v_l (S:=au×Int) (fun a_ k_=>(a_,(k_))) (eH v_l af) (fun a_=>(a_,((v_l.length:Int)))) (ao hl) (fun k a x hx=>by
  unfold jH eH; exact bJ)
  (fun a=>by unfold jH; exact cI) a_
def lI (a b:au) : au:=⟨i64.wrap (a.bg + b.bg),i64.wrap (a.aI + b.aI)⟩
def G7 (a b:au) : Bool:=decide (a.bg≤b.bg)&&decide (a.aI≤b.aI)
def inV (n:Int) : Bool:=decide (n≥0)&&decide (n≤1125899906842624)
def G5 (a:au) : Bool:=inV a.bg&&inV a.aI
theorem cS (a b:au) : df a b=some (lI a b):=rfl
theorem ic (a b:au) : f4 a b=some (G7 a b):=by unfold f4 G7; simp only [cW,zb]
theorem QO (n:Int) : zw n=some (inV n):=by unfold zw inV; simp only [cW,zb]
theorem Jh (a:au) : tG a=some (G5 a):=by unfold tG G5; simp only [QO,cW,zb]
def WY (a b:au) : au:=(v6 a b).getD au.zero
theorem Gh (a b:au) : v6 a b=some (WY a b):=rfl
def xq (n bp:Int) : Int:=(vb n bp).getD 0
theorem NK (n bp:Int) : vb n bp=some (xq n bp):=rfl
def aaU (a b:Int) : Int×Int:=(zv a b).getD (0,0)
theorem QL (a b:Int) : zv a b=some (aaU a b):=rfl
def Qd (a:au) (bp:Int) : au×Int :=
 if (!G5 a||decide (bp < 0)||decide (bp > 1000000))=true then (au.zero,1)
 else if G5 ⟨xq a.bg bp,xq a.aI bp⟩=true then (⟨xq a.bg bp,xq a.aI bp⟩,0) else (au.zero,11)
theorem Ct (a:au) (bp:Int) : vd a bp=some (Qd a bp):=by
 unfold vd Qd
 simp only [Jh,orB,zb,NK]
 generalize (!G5 a||decide (bp < 0)||decide (bp > 1000000))=b1
 generalize G5 ⟨xq a.bg bp,xq a.aI bp⟩=b2
 cases b1 <;> cases b2 <;> rfl
theorem sZ {α : Type} (c:Bool) (a b : α) : (if c=true then some a else some b)=some (if c=true then a else b):=by cases c <;> rfl
def JU (x y:bh) : Int:=(qk x y).getD 0
theorem Cs (x y:bh) : qk x y=some (JU x y):=by
 unfold JU
 have:∃ r,qk x y=some r:=by
  unfold qk
  simp only [orB,cW,zb,QL,sZ]
  exact ⟨_,rfl⟩
 obtain ⟨r,hr⟩:=this
 rw [hr]
 rfl
def SC (a p:au) : bh:=if decide (JU ⟨a.bg,p.bg⟩ ⟨a.aI,p.aI⟩ < 0)=true then ⟨a.aI,p.aI⟩ else ⟨a.bg,p.bg⟩
theorem QQ (a p:au) : zx a p=some (SC a p):=by
 unfold zx SC
 simp only [Cs,zb,sZ]
def Yi (a p b q:au) : Int:=if (!G5 a || !G5 p || !G5 b || !G5 q)=true then 0 else JU (SC a p) (SC b q)
theorem NM (a p b q:au) : zy a p b q=some (Yi a p b q):=by
 unfold zy Yi
 simp only [Jh,orB,zb,QQ,Cs]
 simp only [sZ]
theorem Qe (n:Int) : zh n=some (decide (n≥1)&&decide (n≤1073741824)):=by
 unfold zh
 simp only [cW,zb]
def abo (a:aV) (n:Int) : Int:=(p7 a n).getD 0
theorem Nu (a:aV) (n:Int) : p7 a n=some (abo a n):=by
 have:∃ r,p7 a n=some r:=by
  unfold p7
  simp only [Qe,orB,cW,zb]
  simp only [sZ]
  exact ⟨_,rfl⟩
 obtain ⟨r,hr⟩:=this
 unfold abo
 rw [hr]; rfl
theorem UQ (l:List aV) (a:aV) (hl:l.length≤100000) : ∃ r,FX l a=some r∧r.1.length≤8:=by
 unfold FX
 dsimp only
 rw [C2 l { a with jb:=0 } ([],a.g9==0) (by omega)]
 obtain ⟨r,h1,h2⟩:=a7 (g:=jr l { a with jb:=0 }) (fin:=fun b=>(b.1,b.2,(l.length:Int))) (fun k b=>b.1.length≤2 * k) (fun r=>r.1.length≤2 * l.length) l 0 ([],a.g9==0) (fun j b x hx hb=>by
  have hj:=(zg.1 hx).1
  unfold jr
  simp only [cW,zb]
  cases (!b.2&&decide (x.bD > a.bD)) with
  | true =>
   simp only [if_true]
   rw [aJ (by simp; omega)]
   simp only [zb]
   cases (x.bD != a.bD) with
   | true =>
    simp only [if_true]
    rw [aJ (by simp; omega)]
    exact ⟨_,rfl,fun a' e=>by injection e with e; subst e; simp; omega,fun r e=>by cases e⟩
   | false =>
    exact ⟨_,rfl,fun a' e=>by injection e with e; subst e; simp; omega,fun r e=>by cases e⟩
  | false =>
   simp only [zf,if_false,zb]
   cases (x.bD != a.bD) with
   | true =>
    simp only [if_true]
    rw [aJ (by simp; omega)]
    exact ⟨_,rfl,fun a' e=>by injection e with e; subst e; simp; omega,fun r e=>by cases e⟩
   | false =>
    exact ⟨_,rfl,fun a' e=>by injection e with e; subst e; show b.1.length≤_; omega,fun r e=>by cases e⟩) (fun b hb=>by simpa using hb) (by simp)
 rw [h1]
 simp only [zb]
 have fin:∀ o:List aV,∃ r,(if decide ((o.length:Int) > 8)=true then some (([] : List aV),(4:Int)) else some (o,0))=some r∧r.1.length≤8:=by
  intro o
  by_cases h:(o.length:Int) > 8
  ·simp only [h,decide_true,if_true]; exact ⟨_,rfl,by simp⟩
  ·simp only [h,decide_false,zf,if_false]; exact ⟨_,rfl,by show o.length≤8; omega⟩
 cases (!r.2.1) with
 | true =>
  simp only [if_true]
  rw [aJ (by simp; omega)]
  exact fin _
 | false=>exact fin _
def Xf (l:List aV) (p:Int) : aV:=(l.find? fun x=>x.bD==p).getD aV.zero
def isA (l:List aV) (p:Int) : Bool:=l.any fun x=>x.bD==p
theorem UT (l:List aV) (p:Int) (hl:l.length≤1000000) : KI l p=some (Xf l p,isA l p):=by
 unfold KI
 dsimp only
 rw [C3 l p () hl]
 have h2:=pJ (fun x:aV=>x.bD==p) (fun x=>(Sum.inr (x,true) : Int⊕aV×Bool)) (.inl (l.length:Int)) l
 rw [show lJ l p=fun (_:Unit) x=>if (x.bD==p)=true then some (.inr (.inr (x,true))) else some (.inl ()) from rfl,h2]
 unfold Xf isA
 cases hf:l.find? fun x=>x.bD==p with
 | none =>
  have:(l.any fun x=>x.bD==p)=false:=by
   rw [List.any_eq_false]; intro x hx; have:=List.find?_eq_none.1 hf x hx; simpa using this
  rw [this]; rfl
 | some q =>
  have:(l.any fun x=>x.bD==p)=true:=by
   rw [List.any_eq_true]; exact ⟨q,List.mem_of_find?_eq_some hf,by simpa using List.find?_some hf⟩
  rw [this]; rfl
theorem Qf (l:List aV) (p:Int) (hl:l.length≤1000000) : ∃ r,DD l p=some r∧r.1.length≤l.length:=by
 unfold DD
 dsimp only
 rw [Bz l p (false,[]) hl]
 obtain ⟨r,h1,h2⟩:=a7 (g:=iB l p) (fin:=fun b=>(b.1,b.2,(l.length:Int))) (fun k b=>b.2.length≤k) (fun r=>r.2.1.length≤l.length) l 0 (false,[]) (fun j b x hx hb=>by
  have hj:=(zg.1 hx).1
  unfold iB
  dsimp only
  split
  ·split
   ·exact ⟨_,rfl,fun a' e=>by injection e with e; subst e; show b.2.length≤_; omega,fun r e=>by cases e⟩
   ·rw [aJ (by simp; omega)]
    exact ⟨_,rfl,fun a' e=>by injection e with e; subst e; simp; omega,fun r e=>by cases e⟩
  ·rw [aJ (by simp; omega)]
   exact ⟨_,rfl,fun a' e=>by injection e with e; subst e; simp; omega,fun r e=>by cases e⟩) (fun b hb=>by simpa using hb) (by simp)
 rw [h1]
 exact ⟨_,rfl,h2⟩
theorem Qg (l:List aV) (p:Int) (hl:l.length≤1000000) : ∃ r,DE l p=some r∧r.length=l.length:=by
 unfold DE
 rw [aJ (by simpa using hl)]
 simp only [zb,List.nil_append]
 have h:=aM (f:=rx p) (fun st=>st.1.length=l.length∧0≤st.2∧st.2≤(l.length:Int)) (fun st=>((l.length:Int) - st.2).toNat) (fun st=>st.1.length=l.length) (fun st ⟨h1,h2,h3⟩=>by
  unfold rx
  dsimp only
  by_cases hi:st.2 < (st.1.length:Int)
  ·obtain ⟨x,hx,_⟩:=ER h2 hi
   have hw:i64.wrap (st.2 + 1)=st.2 + 1:=nU (by omega) (by omega)
   simp only [hi,decide_true,if_true,hx,zb,hw]
   split
   ·exact .inl ⟨_,rfl,⟨by simpa using h1,by show 0≤st.2 + 1; omega,by show st.2 + 1≤_; omega⟩,by show ((l.length:Int) - (st.2 + 1)).toNat < ((l.length:Int) - st.2).toNat; omega⟩
   ·exact .inl ⟨_,rfl,⟨h1,by show 0≤st.2 + 1; omega,by show st.2 + 1≤_; omega⟩,by show ((l.length:Int) - (st.2 + 1)).toNat < ((l.length:Int) - st.2).toNat; omega⟩
  ·simp only [hi,decide_false,zf,if_false]
   exact .inr ⟨_,rfl,h1⟩) ab (l,0) ⟨rfl,Int.le_refl _,Int.natCast_nonneg _⟩ (by show ((l.length:Int) - 0).toNat < ab; unfold ab; omega)
 obtain ⟨r,h1,h2⟩:=h
 rw [h1]
 exact ⟨_,rfl,h2⟩
def ZT (l:List aV) (k:Int) : au:=(kQ l k).getD au.zero
theorem Hi (l:List aV) (k:Int) (hl:l.length≤1000000) : kQ l k=some (ZT l k):=by
 have:∃ r,kQ l k=some r:=by
  unfold kQ
  dsimp only
  rw [wo l k ⟨0,0⟩ hl]
  obtain ⟨r,h1,_⟩:=a7 (g:=eH l k) (fin:=fun a=>(a,(l.length:Int))) (fun _ _=>True) (fun _=>True) l 0 ⟨0,0⟩ (fun j a x hx _=>by
   unfold eH
   simp only [cS,zb,sZ]
   exact ⟨_,rfl,fun _ _=>trivial,fun _ _=>trivial⟩) (fun _ _=>trivial) trivial
  rw [h1]
  exact ⟨_,rfl⟩
 obtain ⟨r,hr⟩:=this
 unfold ZT
 rw [hr]; rfl
def jU (v_s:aa) (bw:Int) (st:Unit) (x_:aC) : Option ((Unit)⊕((Int)⊕(aC×Bool))) :=
 if (x_.fId==bw)=true then
 some (.inr (.inr (x_,true)))
 else
 some (.inl ())
theorem Al (v_s:aa) (bw:Int) (a_:Unit) (hl:v_s.ar.length≤1000000) : ah (mh v_s bw) ab (0)=br (jU v_s bw) (fun a_=>(.inl ((v_s.ar.length:Int)))) a_ v_s.ar :=
 az v_s.ar (S:=Int) (fun a_ k_=>(k_)) (jU v_s bw) (fun a_=>(.inl ((v_s.ar.length:Int)))) (ao hl) (fun k a x hx=>by
  unfold mh jU; exact bJ)
  (fun a=>by unfold mh; exact cI) a_
def eV (v_s:aa) (st:Bool×(List aC)) (x_:aC) : Option ((Bool×(List aC))⊕((Bool×(List aC)×Int))) :=
 let cu:=st.1
 let v_l:=st.2
 (if (!cu)=true then (dK x_).bind fun c6=>some (!c6) else some false).bind fun q7=>if q7=true then
 let cu:Bool:=true
 some (.inl (cu,v_l))
 else
 (aX v_l [x_]).bind fun b8=>let v_l:(List aC):=b8
 some (.inl (cu,v_l))
theorem wE (v_s:aa) (a_:Bool×(List aC)) (hl:v_s.ar.length≤1000000) : ah (jR v_s) ab (a_.1,a_.2,(0))=br (eV v_s) (fun a_=>(a_.1,a_.2,((v_s.ar.length:Int)))) a_ v_s.ar :=
 az v_s.ar (S:=Bool×(List aC)×Int) (fun a_ k_=>(a_.1,a_.2,(k_))) (eV v_s) (fun a_=>(a_.1,a_.2,((v_s.ar.length:Int)))) (ao hl) (fun k a x hx=>by
  unfold jR eV; exact bJ)
  (fun a=>by unfold jR; exact cI) a_
def eW (v_s:aa) (st:Int) (x_:aC) : Option ((Int)⊕((Int×Int))) :=
 let lj:=st
 (dK x_).bind fun c13=>if c13=true then
 let lj:Int:=(i64.wrap (lj + 1))
 some (.inl lj)
 else
 some (.inl lj)
theorem wF (v_s:aa) (a_:Int) (hl:v_s.ar.length≤1000000) : ah (jS v_s) ab (a_,(0))=br (eW v_s) (fun a_=>(a_,((v_s.ar.length:Int)))) a_ v_s.ar :=
 az v_s.ar (S:=Int×Int) (fun a_ k_=>(a_,(k_))) (eW v_s) (fun a_=>(a_,((v_s.ar.length:Int)))) (ao hl) (fun k a x hx=>by
  unfold jS eW; exact bJ)
  (fun a=>by unfold jS; exact cI) a_
def gO (v_s:aa) (bw:Int) (st:(List Int)×(List an)) (x_:an) : Option (((List Int)×(List an))⊕(((List Int)×(List an)×Int))) :=
 let jZ:=st.1
 let v_l:=st.2
 if (x_.bC==bw)=true then
 (aX jZ [x_.fId]).bind fun b6=>let jZ:(List Int):=b6
 some (.inl (jZ,v_l))
 else
 (aX v_l [x_]).bind fun b7=>let v_l:(List an):=b7
 some (.inl (jZ,v_l))
theorem Af (v_s:aa) (bw:Int) (a_:(List Int)×(List an)) (hl:v_s.ac.length≤1000000) : ah (mg v_s bw) ab (a_.1,a_.2,(0))=br (gO v_s bw) (fun a_=>(a_.1,a_.2,((v_s.ac.length:Int)))) a_ v_s.ac :=
 az v_s.ac (S:=(List Int)×(List an)×Int) (fun a_ k_=>(a_.1,a_.2,(k_))) (gO v_s bw) (fun a_=>(a_.1,a_.2,((v_s.ac.length:Int)))) (ao hl) (fun k a x hx=>by
  unfold mg gO; exact bJ)
  (fun a=>by unfold mg; exact cI) a_
def gN (v_s:aa) (bw:Int) (st:(List bA)) (x_:bA) : Option (((List bA))⊕(((List bA)×Int))) :=
 let i7:=st
 if (x_.bC != bw)=true then
 (aX i7 [x_]).bind fun b10=>let i7:(List bA):=b10
 some (.inl i7)
 else
 some (.inl i7)
theorem Ae (v_s:aa) (bw:Int) (a_:(List bA)) (hl:v_s.aZ.length≤1000000) : ah (mf v_s bw) ab (a_,(0))=br (gN v_s bw) (fun a_=>(a_,((v_s.aZ.length:Int)))) a_ v_s.aZ :=
 az v_s.aZ (S:=(List bA)×Int) (fun a_ k_=>(a_,(k_))) (gN v_s bw) (fun a_=>(a_,((v_s.aZ.length:Int)))) (ao hl) (fun k a x hx=>by
  unfold mf gN; exact bJ)
  (fun a=>by unfold mf; exact cI) a_
def jV (v_s:aa) (bw:Int) (st:Unit) (x_:an) : Option ((Unit)⊕((Int)⊕(an×Bool))) :=
 if (x_.fId==bw)=true then
 some (.inr (.inr (x_,true)))
 else
 some (.inl ())
theorem An (v_s:aa) (bw:Int) (a_:Unit) (hl:v_s.ac.length≤1000000) : ah (mj v_s bw) ab (0)=br (jV v_s bw) (fun a_=>(.inl ((v_s.ac.length:Int)))) a_ v_s.ac :=
 az v_s.ac (S:=Int) (fun a_ k_=>(k_)) (jV v_s bw) (fun a_=>(.inl ((v_s.ac.length:Int)))) (ao hl) (fun k a x hx=>by
  unfold mj jV; exact bJ)
  (fun a=>by unfold mj; exact cI) a_
def gV (v_s:aa) (bw:Int) (st:(List an)) (x_:an) : Option (((List an))⊕(((List an)×Int))) :=
 let v_l:=st
 if (x_.fId != bw)=true then
 (aX v_l [x_]).bind fun b4=>let v_l:(List an):=b4
 some (.inl v_l)
 else
 some (.inl v_l)
theorem Ao (v_s:aa) (bw:Int) (a_:(List an)) (hl:v_s.ac.length≤1000000) : ah (ml v_s bw) ab (a_,(0))=br (gV v_s bw) (fun a_=>(a_,((v_s.ac.length:Int)))) a_ v_s.ac :=
 az v_s.ac (S:=(List an)×Int) (fun a_ k_=>(a_,(k_))) (gV v_s bw) (fun a_=>(a_,((v_s.ac.length:Int)))) (ao hl) (fun k a x hx=>by
  unfold ml gV; exact bJ)
  (fun a=>by unfold ml; exact cI) a_
def eh (v_l:(List Int)) (v_n:Int) (st:(List Int)) (x_:Int) : Option (((List Int))⊕(((List Int)×Int))) :=
 let am:=st
 if (x_ != v_n)=true then
 (aX am [x_]).bind fun b4=>let am:(List Int):=b4
 some (.inl am)
 else
 some (.inl am)
theorem vu (v_l:(List Int)) (v_n:Int) (a_:(List Int)) (hl:v_l.length≤1000000) : ah (jh v_l v_n) ab (a_,(0))=br (eh v_l v_n) (fun a_=>(a_,((v_l.length:Int)))) a_ v_l :=
 az v_l (S:=(List Int)×Int) (fun a_ k_=>(a_,(k_))) (eh v_l v_n) (fun a_=>(a_,((v_l.length:Int)))) (ao hl) (fun k a x hx=>by
  unfold jh eh; exact bJ)
  (fun a=>by unfold jh; exact cI) a_
def gR (bS:(List Int)) (st:aa) (x_:Int) : Option ((aa)⊕((aa×Int))) :=
 let v_s:=st
 (eZ v_s x_).bind fun c21=>let v_c:an:=c21.1
 let bV:Bool:=c21.2
 if (!bV)=true then
 some (.inl v_s)
 else
 (eY v_s v_c.bC).bind fun c22=>let v_a:aC:=c22.1
 if v_c.bI=true then
 (pE v_a).bind fun c23=>let t24:Int:=1
 let t25:(List aV):=c23
 let v_a:aC:={ v_a with dG:=t24 }
 let v_a:aC:={ v_a with bN:=t25 }
 let t26:(List Int):=[]
 let t27:(List Int):=[]
 let t28:(List Int):=[]
 let t29:(List Int):=[]
 let v_a:aC:={ v_a with cf:=t26 }
 let v_a:aC:={ v_a with fQ:=t27 }
 let v_a:aC:={ v_a with oT:=t28 }
 let v_a:aC:={ v_a with pX:=t29 }
 let t30:Int:=0
 let t31:Int:=v_s.cx
 let v_a:aC:={ v_a with cn:=t30 }
 let v_a:aC:={ v_a with cM:=t31 }
 (dR v_s v_a).bind fun c32=>(ou c32 v_c.bC).bind fun c33=>let v_s:aa:=c33.1
 some (.inl v_s)
 else
 (mn v_s v_c.fId).bind fun c34=>let v_s:aa:=c34
 let uq:Bool:=false
 (jB v_a.cf v_c.fId).bind fun c35=>let v_a:aC:={ v_a with cf:=c35.1 }
 let uq:Bool:=c35.2
 (if (!uq)=true then
 (aX ([] : (List Int)) v_a.fQ).bind fun b37=>(aX b37 [v_c.fId]).bind fun b38=>let v_a:aC:={ v_a with fQ:=b38 }
 some v_a
 else
 some v_a).bind fun j36=>let v_a:=j36
 (dR v_s v_a).bind fun c39=>let v_s:aa:=c39
 some (.inl v_s)
theorem Aj (bS:(List Int)) (a_:aa) (hl:bS.length≤1000000) : ah (gS bS) ab (a_,(0))=br (gR bS) (fun a_=>(a_,((bS.length:Int)))) a_ bS :=
 az bS (S:=aa×Int) (fun a_ k_=>(a_,(k_))) (gR bS) (fun a_=>(a_,((bS.length:Int)))) (ao hl) (fun k a x hx=>by
  unfold gS gR; exact bJ)
  (fun a=>by unfold gS; exact cI) a_
def eX (v_s:aa) (st:(List Int)) (x_:aC) : Option (((List Int))⊕(((List Int)×Int))) :=
 let v_l:=st
 (if (x_.dG==2)=true then some (decide ((i64.wrap (v_s.cx - x_.cM))≥15)) else some false).bind fun q6=>if q6=true then
 (aX v_l [x_.fId]).bind fun b7=>let v_l:(List Int):=b7
 some (.inl v_l)
 else
 some (.inl v_l)
theorem wG (v_s:aa) (a_:(List Int)) (hl:v_s.ar.length≤1000000) : ah (jT v_s) ab (a_,(0))=br (eX v_s) (fun a_=>(a_,((v_s.ar.length:Int)))) a_ v_s.ar :=
 az v_s.ar (S:=(List Int)×Int) (fun a_ k_=>(a_,(k_))) (eX v_s) (fun a_=>(a_,((v_s.ar.length:Int)))) (ao hl) (fun k a x hx=>by
  unfold jT eX; exact bJ)
  (fun a=>by unfold jT; exact cI) a_
def dW (v_c:ay) (ax:ByteArray) (st:Unit) (x_:aE) : Option ((Unit)⊕((Int)⊕(aE×Bool))) :=
 if (x_.aO.toList==ax.toList)=true then
 let v_q:aE:=x_
 (aX ([] : (List eE)) v_q.bt).bind fun b4=>let v_q:aE:={ v_q with bt:=b4 }
 some (.inr (.inr (v_q,true)))
 else
 some (.inl ())
theorem sK (v_c:ay) (ax:ByteArray) (a_:Unit) (hl:v_c.ae.length≤1000000) : ah (nN v_c ax) ab (0)=br (dW v_c ax) (fun a_=>(.inl ((v_c.ae.length:Int)))) a_ v_c.ae :=
 az v_c.ae (S:=Int) (fun a_ k_=>(k_)) (dW v_c ax) (fun a_=>(.inl ((v_c.ae.length:Int)))) (ao hl) (fun k a x hx=>by
  unfold nN dW; exact bJ)
  (fun a=>by unfold nN; exact cI) a_
def cA (v_c:ay) (ax:ByteArray) (st:(List ByteArray)) (x_:aE) : Option (((List ByteArray))⊕(((List ByteArray)×Int))) :=
 let v_l:=st
 (if (!(ax.toList==(⟨#[]⟩ : ByteArray).toList))=true then (ed x_.aO).bind fun c6=>some (c6.toList==ax.toList) else some false).bind fun q7=>if q7=true then
 (aX v_l [x_.aO]).bind fun b8=>let v_l:(List ByteArray):=b8
 some (.inl v_l)
 else
 some (.inl v_l)
theorem jI (v_c:ay) (ax:ByteArray) (a_:(List ByteArray)) (hl:v_c.ae.length≤1000000) : ah (nM v_c ax) ab (a_,(0))=br (cA v_c ax) (fun a_=>(a_,((v_c.ae.length:Int)))) a_ v_c.ae :=
 az v_c.ae (S:=(List ByteArray)×Int) (fun a_ k_=>(a_,(k_))) (cA v_c ax) (fun a_=>(a_,((v_c.ae.length:Int)))) (ao hl) (fun k a x hx=>by
  unfold nM cA; exact bJ)
  (fun a=>by unfold nM; exact cI) a_
def iG (bE:(List ByteArray)) (v_c:ay) (v_k:Int) (st:Int) (x_:ByteArray) : Option ((Int)⊕((Int×Int))) :=
 let v_n:=st
 (jJ v_c x_).bind fun c7=>let v_q:aE:=c7.1
 (aw v_q.bt v_k).bind fun b8=>let v_n:Int:=(i64.wrap (v_n + b8.kM))
 some (.inl v_n)
theorem BE (bE:(List ByteArray)) (v_c:ay) (v_k:Int) (a_:Int) (hl:bE.length≤1000000) : ah (ki bE v_c v_k) ab (a_,(0))=br (iG bE v_c v_k) (fun a_=>(a_,((bE.length:Int)))) a_ bE :=
 az bE (S:=Int×Int) (fun a_ k_=>(a_,(k_))) (iG bE v_c v_k) (fun a_=>(a_,((bE.length:Int)))) (ao hl) (fun k a x hx=>by
  unfold ki iG; exact bJ)
  (fun a=>by unfold ki; exact cI) a_
def iH (v_c:ay) (st:Unit) (x_:aE) : Option ((Unit)⊕((Int)⊕(Bool))) :=
 (fw v_c x_.aO).bind fun c10=>let bE:(List ByteArray):=c10
 let v_k:Int:=0
 (ah (nK v_c bE) ab v_k).bind fun r11=>match r11 with
 | .inr m12=>some (.inr (.inr m12))
 | .inl m12 =>
 let v_k:=m12
 some (.inl ())
theorem BF (v_c:ay) (a_:Unit) (hl:v_c.ae.length≤1000000) : ah (nL v_c) ab (0)=br (iH v_c) (fun a_=>(.inl ((v_c.ae.length:Int)))) a_ v_c.ae :=
 az v_c.ae (S:=Int) (fun a_ k_=>(k_)) (iH v_c) (fun a_=>(.inl ((v_c.ae.length:Int)))) (ao hl) (fun k a x hx=>by
  unfold nL iH; exact bJ)
  (fun a=>by unfold nL; exact cI) a_
theorem pM {s:ByteArray} {k:Int} (h0 : 0≤k) (h1:k.toNat < s.size) : ∃ b,lu s k=some b:=by
 unfold lu
 rw [if_pos h0]
 have:k.toNat < s.data.toList.length:=by simpa using h1
 rw [zq this]
 exact ⟨_,rfl⟩
theorem od (p:ByteArray) (hp:p.size≤1000000) : ∃ r,ed p=some r∧(r.size < p.size∨r.size=0):=by
 unfold ed
 have hw:∀ k:Int,-1≤k→k≤1000000000→i64.wrap (k - 1)=k - 1:=fun k h1 h2=>nU (by omega) (by omega)
 have h:=aM (f:=jt p) (fun k=>-1≤k∧k < (p.size:Int)) (fun k=>(k + 1).toNat) (fun k=>-1≤k∧k < (p.size:Int)) (fun k ⟨h1,h2⟩=>by
  unfold jt
  by_cases hk:k≥0
  ·obtain ⟨b,hb⟩:=pM (s:=p) hk (by omega)
   simp only [hk,decide_true,if_true,hb,zb]
   cases (b != 46) with
   | true =>
    simp only [if_true,hw k h1 (by omega)]
    exact .inl ⟨_,rfl,by omega,by omega⟩
   | false=>exact .inr ⟨_,rfl,h1,h2⟩
  ·simp only [hk,decide_false,zf,if_false,zb]
   exact .inr ⟨_,rfl,h1,h2⟩) ab (i64.wrap ((p.size:Int) - 1)) (by rw [hw _ (by omega) (by omega)]; omega) (by show (i64.wrap ((p.size:Int) - 1) + 1).toNat < ab; rw [hw _ (by omega) (by omega)]; unfold ab; omega)
 obtain ⟨k,h1,h2,h3⟩:=h
 dsimp only
 rw [h1]
 simp only [zb]
 by_cases hk:k < 0
 ·simp only [hk,decide_true,if_true]
  exact ⟨_,rfl,.inr rfl⟩
 ·simp only [hk,decide_false,zf,if_false]
  unfold Pa
  rw [if_pos ⟨by omega,by omega⟩]
  refine ⟨_,rfl,.inl ?_⟩
  simp only [ByteArray.size_extract]
  omega
theorem qP {p:ByteArray} (h:(!(p.toList==(⟨#[]⟩ : ByteArray).toList))=true) : 0 < p.size:=by
 rcases Nat.eq_zero_or_pos p.size with h0 | h0
 ·exfalso
  have:p=⟨#[]⟩:=by
   cases p with
   | mk d => have : d = #[] := by apply Array.eq_empty_of_size_eq_zero; exact h0
             rw [this]
  rw [this] at h
  simp at h
 ·exact h0
theorem F9 (p:ByteArray) (hp:p.size≤1000000) : ∃ r,zk p=some r∧r.length≤p.size∧∀ q∈r,q.size≤p.size:=by
 unfold zk
 have h:=aM (f:=oe) (fun st=>st.1.length + st.2.size≤p.size∧∀ q∈st.1,q.size≤p.size) (fun st=>st.2.size) (fun st=>st.1.length≤p.size∧∀ q∈st.1,q.size≤p.size) (fun st ⟨h1,h2⟩=>by
  unfold oe
  dsimp only
  split
  ·rename_i hne
   have h0:=qP hne
   rw [aJ (by simp; omega)]
   obtain ⟨r,hr,hs⟩:=od st.2 (by omega)
   simp only [zb,hr]
   refine .inl ⟨_,rfl,⟨by simp; omega,fun q hq=>?_⟩,by show r.size < st.2.size; omega⟩
   simp only [List.mem_append,List.mem_singleton] at hq
   rcases hq with hq | rfl
   ·exact h2 q hq
   ·omega
  ·exact .inr ⟨_,rfl,by show st.1.length≤p.size; omega,h2⟩) ab ([],p) ⟨by simp,by simp⟩ (by show p.size < ab; unfold ab; omega)
 obtain ⟨r,h1,h2,h3⟩:=h
 dsimp only
 rw [h1]
 exact ⟨_,rfl,h2,h3⟩
structure SzC (c:ay) : Prop where
 labels:c.aj.length≤1000
 queues:c.ae.length≤1000
 caps:∀ q∈c.ae,q.bt.length≤1000
 paths:∀ q∈c.ae,q.aO.size≤1000000
def EW (c:ay) (p:ByteArray) : aE:=(c.ae.find? fun q=>q.aO.toList==p.toList).getD aE.zero
def isQ (c:ay) (p:ByteArray) : Bool:=c.ae.any fun q=>q.aO.toList==p.toList
theorem nc (c:ay) (p:ByteArray) (h:SzC c) : jJ c p=some (EW c p,isQ c p):=by
 unfold jJ EW isQ
 have hs:=sK c p () (by have:=h.queues; omega)
 dsimp only
 rw [hs]
 have key:∀ l:List aE,(∀ q∈l,q.bt.length≤1000)→br (dW c p) (fun _=>(Sum.inl (c.ae.length:Int) : Int⊕(aE×Bool))) () l=some (match l.find? fun q=>q.aO.toList==p.toList with | some q=>.inr (q,true) | none=>.inl (c.ae.length:Int)):=by
  intro l
  induction l with
  | nil=>intro _; rfl
  | cons q l ih =>
   intro hc
   simp only [br,List.find?_cons]
   unfold dW
   cases hq:(q.aO.toList==p.toList) with
   | true =>
    have:=hc q (by simp)
    simp only [if_true]
    rw [aJ (by simp; omega)]
    rfl
   | false =>
    simp only [zf,if_false]
    exact ih fun q hq=>hc q (by simp [hq])
 rw [key _ h.caps]
 cases hf:c.ae.find? fun q=>q.aO.toList==p.toList with
 | none =>
  have:(c.ae.any fun q=>q.aO.toList==p.toList)=false:=by
   rw [List.any_eq_false]; intro x hx; have:=List.find?_eq_none.1 hf x hx; simpa using this
  rw [this]; rfl
 | some q =>
  have:(c.ae.any fun q=>q.aO.toList==p.toList)=true:=by
   rw [List.any_eq_true]; exact ⟨q,List.mem_of_find?_eq_some hf,by simpa using List.find?_some hf⟩
  rw [this]; rfl
theorem tD (c:ay) (p:ByteArray) (h:SzC c) : ∃ r,fw c p=some r∧r.length≤c.ae.length∧∀ x∈r,∃ q∈c.ae,q.aO=x:=by
 unfold fw
 have hs:=jI c p [] (by have:=h.queues; omega)
 dsimp only
 rw [hs]
 obtain ⟨r,h1,h2⟩:=a7 (g:=cA c p) (fin:=fun a=>(a,(c.ae.length:Int))) (fun k a=>a.length≤k∧∀ x∈a,∃ q∈c.ae,q.aO=x) (fun r=>r.1.length≤c.ae.length∧∀ x∈r.1,∃ q∈c.ae,q.aO=x) c.ae 0 [] (fun j a x hx ⟨h1,h2⟩=>by
  have hm:=List.mem_of_getElem? hx
  have hj:=(zg.1 hx).1
  obtain ⟨r,hr,_⟩:=od x.aO (h.paths x hm)
  have hqs:=h.queues
  unfold cA
  simp only [hr,zb,cW]
  split
  ·rw [aJ (by simp; omega)]
   refine ⟨_,rfl,fun a' e=>?_,fun r e=>by cases e⟩
   injection e with e
   subst e
   refine ⟨by simp; omega,fun y hy=>?_⟩
   simp only [List.mem_append,List.mem_singleton] at hy
   rcases hy with hy | rfl
   ·exact h2 y hy
   ·exact ⟨x,hm,rfl⟩
  ·refine ⟨_,rfl,fun a' e=>?_,fun r e=>by cases e⟩
   injection e with e
   subst e
   exact ⟨by omega,h2⟩) (fun a ⟨h1,h2⟩=>⟨by simpa using h1,h2⟩) ⟨by simp,by simp⟩
 rw [h1]
 exact ⟨_,rfl,h2⟩
def Cb (c:ay) (p:ByteArray) : Bool:=(kv c p).getD false
theorem xS (c:ay) (p:ByteArray) (h:SzC c) : kv c p=some (Cb c p):=by
 have:∃ r,kv c p=some r:=by
  unfold kv
  obtain ⟨r,hr,_⟩:=tD c p h
  simp only [nc c p h,zb,hr,cW]
  exact ⟨_,rfl⟩
 obtain ⟨r,hr⟩:=this
 unfold Cb
 rw [hr]
 rfl
def id' {α : Type} (x : α) : α:=x
theorem td {α : Type} (l:List α) : l.map id' = l:=List.map_id l
def WV (a:aC) : Bool:=a.dG==1||a.dG==2
theorem fJ (a:aC) : dK a=some (WV a):=by unfold dK WV; simp only [orB,zb]
theorem Oy (n:Int) : vt n=some (decide (n≥1)&&decide (n≤1073741824)):=by unfold vt; simp only [cW,zb]
theorem Ah (a:aC) : pE a=some [⟨0,0,a.bI,1,-1,-1,0⟩]:=rfl
theorem IA {α β : Type} (p : α→Bool) (l:List α) (z : α) (d : β) : (match (match l.find? p with | some q=>(Sum.inr (q,true) : β⊕(α×Bool)) | none=>.inl d) with | .inr m=>some m | .inl _=>some (z,false))=some ((l.find? p).getD z,l.any p):=by
 cases hf:l.find? p with
 | none =>
  have:l.any p=false:=by
   rw [List.any_eq_false]; intro x hx; have:=List.find?_eq_none.1 hf x hx; simpa using this
  rw [this]; rfl
 | some q =>
  have:l.any p=true:=by rw [List.any_eq_true]; exact ⟨q,List.mem_of_find?_eq_some hf,List.find?_some hf⟩
  rw [this]; rfl
def cj (s:aa) (id:Int) : aC:=(s.ar.find? fun c=>c.fId==id).getD aC.zero
def W6 (s:aa) (id:Int) : Bool:=s.ar.any fun c=>c.fId==id
theorem kU {α τ : Type} (p : α→Bool) (q : α→τ) (d : τ) (l:List α) : br (fun (_:Unit) x=>if p x=true then some (.inr (q x)) else some (.inl ())) (fun _=>d) () l=some (match l.find? p with | some x=>q x | none=>d):=by
 rw [pJ]
 cases l.find? p <;> rfl
theorem ep (s:aa) (id:Int) (hl:s.ar.length≤1000000) : eY s id=some (cj s id,W6 s id):=by
 unfold eY cj W6
 dsimp only
 rw [Al s id () hl,show jU s id=fun (_:Unit) x=>if (x.fId==id)=true then some (.inr (.inr (x,true))) else some (.inl ()) from rfl,
  kU (fun x:aC=>x.fId==id) (fun x=>(Sum.inr (x,true) : Int⊕aC×Bool)) (.inl (s.ar.length:Int)) s.ar]
 simp only [zb]
 have h2:=IA (fun x:aC=>x.fId==id) s.ar aC.zero (s.ar.length:Int)
 revert h2
 cases s.ar.find? fun x=>x.fId==id <;> exact fun h=>h
def mB (s:aa) (id:Int) : an:=(s.ac.find? fun c=>c.fId==id).getD an.zero
def MB (s:aa) (id:Int) : Bool:=s.ac.any fun c=>c.fId==id
theorem k9 (s:aa) (id:Int) (hl:s.ac.length≤1000000) : eZ s id=some (mB s id,MB s id):=by
 unfold eZ mB MB
 dsimp only
 rw [An s id () hl,show jV s id=fun (_:Unit) x=>if (x.fId==id)=true then some (.inr (.inr (x,true))) else some (.inl ()) from rfl,
  kU (fun x:an=>x.fId==id) (fun x=>(Sum.inr (x,true) : Int⊕an×Bool)) (.inl (s.ac.length:Int)) s.ac]
 simp only [zb]
 have h2:=IA (fun x:an=>x.fId==id) s.ac an.zero (s.ac.length:Int)
 revert h2
 cases s.ac.find? fun x=>x.fId==id <;> exact fun h=>h
theorem kT (s:aa) (n:aC) (hl:s.ar.length + 1≤1000000) : dR s n=some { s with ar:=dp aC.fId s.ar n } := by
 unfold dR
 have hl':s.ar.length≤1000000:=by omega
 have h:=EF s.ar (fun x=>decide (x.fId < n.fId)) (f:=nR s n) (ao hl')
  (fun k x hx=>by
   have hk:=(zg.1 hx).1
   unfold nR
   simp only [bL hx,if_true,aH hx,zb,bb hk hl'])
  (by unfold nR; simp only [bF]; rfl)
 unfold dp
 have hK:=ln (fun x:aC=>decide (x.fId < n.fId)) s.ar
 generalize (s.ar.takeWhile fun x=>decide (x.fId < n.fId)).length=K at h hK ⊢
 dsimp only
 rw [h]
 simp only [zb]
 rw [lB hK]
 simp only [zb]
 rw [aJ (by simp; omega)]
 simp only [zb]
 rw [aJ (by simp; omega)]
 simp only [zb]
 by_cases hlt:K < s.ar.length
 ·have hx:s.ar[K]? = some s.ar[K]:=zq hlt
  simp only [bL hx,if_true,aH hx,zb,hx]
  cases he:(s.ar[K].fId==n.fId) with
  | true =>
   simp only [if_true,zb,bb hlt hl']
   rw [i6 hlt]
   simp only [zb]
   rw [aJ (by simp; omega)]
   simp
  | false =>
   simp only [zf,if_false,zb]
   rw [i6 hK]
   simp only [zb]
   rw [aJ (by simp; omega)]
   simp
 ·have:K=s.ar.length:=by omega
  subst this
  simp only [bF,zf,if_false,zb]
  rw [i6 (Nat.le_refl _)]
  simp only [zb]
  rw [aJ (by simp; omega)]
  simp
theorem CM (s:aa) (id:Int) (hl:s.ac.length≤1000000) : mn s id=some { s with ac:=s.ac.filter fun c=>c.fId != id } := by
 unfold mn
 dsimp only
 have e:gV s id=fun acc x=>if (x.fId != id)=true then (aX acc [id' x]).map (fun a=>(.inl a:List an⊕(List an×Int))) else some (.inl acc):=by
  funext acc x
  unfold gV
  dsimp only [id']
  split
  ·cases aX acc [x] <;> rfl
  ·rfl
 rw [Ao s id [] hl,e,cd (fun c:an=>c.fId != id) id' _ s.ac [] (by simpa using hl)]
 simp only [zb,List.nil_append,td]
theorem vx (l:List Int) (n:Int) (hl:l.length≤1000000) : jB l n=some (l.filter (fun c=>c != n),decide (((l.filter (fun c=>c != n)).length:Int) < (l.length:Int))):=by
 unfold jB
 dsimp only
 have e:eh l n=fun acc x=>if (x != n)=true then (aX acc [id' x]).map (fun a=>(.inl a:List Int⊕(List Int×Int))) else some (.inl acc):=by
  funext acc x
  unfold eh
  dsimp only [id']
  split
  ·cases aX acc [x] <;> rfl
  ·rfl
 rw [vu l n [] hl,e,cd (fun c:Int=>c != n) id' _ l [] (by simpa using hl)]
 simp only [zb,List.nil_append,td]
theorem Hx (s:aa) (hl:s.ar.length≤1000000) : tK s=some ((s.ar.filter fun b=>b.dG==2&&decide (i64.wrap (s.cx - b.cM)≥15)).map aC.fId):=by
 unfold tK
 dsimp only
 have e:eX s=fun acc x=>if (x.dG==2&&decide (i64.wrap (s.cx - x.cM)≥15))=true then (aX acc [x.fId]).map (fun a=>(.inl a:List Int⊕(List Int×Int))) else some (.inl acc):=by
  funext acc x
  unfold eX
  simp only [cW,zb]
  split
  ·cases aX acc [x.fId] <;> rfl
  ·rfl
 rw [wG s [] hl,e,cd (fun x:aC=>x.dG==2&&decide (i64.wrap (s.cx - x.cM)≥15)) aC.fId _ s.ar [] (by simpa using hl)]
 simp
theorem CJ (s:aa) (id:Int) (hl:s.ac.length≤1000000) (hs:s.aZ.length≤1000000) : ou s id=some ({ s with ac:=s.ac.filter fun c=>!(c.bC==id),aZ:=s.aZ.filter fun c=>c.bC != id },(s.ac.filter fun c=>c.bC==id).map an.fId):=by
 unfold ou
 dsimp only
 have e2:gN s id=fun acc x=>if (x.bC != id)=true then (aX acc [id' x]).map (fun a=>(.inl a:List bA⊕(List bA×Int))) else some (.inl acc):=by
  funext acc x
  unfold gN
  dsimp only [id']
  split
  ·cases aX acc [x] <;> rfl
  ·rfl
 have k1:∀ (l:List an) (a:List Int×List an),a.1.length + a.2.length + l.length≤1000000→br (gO s id) (fun b=>(b.1,b.2,(s.ac.length:Int))) a l=some (a.1++(l.filter fun c=>c.bC==id).map an.fId,a.2++(l.filter fun c=>!(c.bC==id)),(s.ac.length:Int)):=by
  intro l
  induction l with
  | nil=>intro a _; simp [br]
  | cons x l ih =>
   intro a h
   simp only [List.length_cons] at h
   have step:gO s id a x=if (x.bC==id)=true then (aX a.1 [x.fId]).bind fun b=>some (.inl (b,a.2)) else (aX a.2 [x]).bind fun b=>some (.inl (a.1,b)):=rfl
   simp only [br,List.filter_cons,step]
   cases (x.bC==id) with
   | true =>
    simp only [if_true]
    rw [aJ (by simp; omega)]
    simp only [zb]
    rw [ih _ (by simp; omega)]
    simp
   | false =>
    simp only [zf,if_false]
    rw [aJ (by simp; omega)]
    simp only [zb]
    rw [ih _ (by simp; omega)]
    simp
 rw [Af s id ([],[]) hl,k1 _ _ (by simpa using hl)]
 simp only [zb]
 rw [Ae s id [] hs,e2,cd (fun c:bA=>c.bC != id) id' _ s.aZ [] (by simpa using hs)]
 simp only [zb,List.nil_append,td]
def du (v_s:aa) (af:Int) (st:au) (x_:aW) : Option ((au)⊕((au×Int))) :=
 let v_v:=st
 (if x_.fUp=true then some (x_.aA==af) else some false).bind fun q6=>if q6=true then
 (df v_v x_.jq).bind fun c7=>let v_v:au:=c7
 some (.inl v_v)
 else
 some (.inl v_v)
theorem qZ (v_s:aa) (af:Int) (a_:au) (hl:v_s.aD.length≤1000000) : ah (lK v_s af) ab (a_,(0))=br (du v_s af) (fun a_=>(a_,((v_s.aD.length:Int)))) a_ v_s.aD :=
 az v_s.aD (S:=au×Int) (fun a_ k_=>(a_,(k_))) (du v_s af) (fun a_=>(a_,((v_s.aD.length:Int)))) (ao hl) (fun k a x hx=>by
  unfold lK du; exact bJ)
  (fun a=>by unfold lK; exact cI) a_
def iE (v_s:aa) (af:Int) (st:au) (x_:ai) : Option ((au)⊕((au×Int))) :=
 let v_v:=st
 let v_p:ai:=x_
 (if (v_p.aA==af)=true then some (decide (v_p.aB≤v_s.cx)) else some false).bind fun q5=>(if q5=true then some (decide (v_s.cx < v_p.aP)) else some false).bind fun q6=>if q6=true then
 (df v_v v_p.a8).bind fun c7=>let v_v:au:=c7
 some (.inl v_v)
 else
 some (.inl v_v)
theorem BD (v_s:aa) (af:Int) (a_:au) (hl:v_s.al.length≤1000000) : ah (nH v_s af) ab (a_,(0))=br (iE v_s af) (fun a_=>(a_,((v_s.al.length:Int)))) a_ v_s.al :=
 az v_s.al (S:=au×Int) (fun a_ k_=>(a_,(k_))) (iE v_s af) (fun a_=>(a_,((v_s.al.length:Int)))) (ao hl) (fun k a x hx=>by
  unfold nH iE; exact bJ)
  (fun a=>by unfold nH; exact cI) a_
def u5 (s:aa) (k:Int) : au:=(fv s k).getD au.zero
theorem oa (s:aa) (k:Int) (hl:s.aD.length≤1000000) : fv s k=some (u5 s k):=by
 have:∃ r,fv s k=some r:=by
  unfold fv
  dsimp only
  rw [qZ s k ⟨0,0⟩ hl]
  obtain ⟨r,h1,_⟩:=a7 (g:=du s k) (fin:=fun a=>(a,(s.aD.length:Int))) (fun _ _=>True) (fun _=>True) s.aD 0 ⟨0,0⟩ (fun j a x hx _=>by
   unfold du
   simp only [cS,cW,zb,sZ]
   exact ⟨_,rfl,fun _ _=>trivial,fun _ _=>trivial⟩) (fun _ _=>trivial) trivial
  rw [h1]
  exact ⟨_,rfl⟩
 obtain ⟨r,hr⟩:=this
 unfold u5
 rw [hr]; rfl
def Yn (s:aa) (k:Int) : au:=(tC s k).getD au.zero
theorem Qt (s:aa) (k:Int) (hl:s.al.length≤1000000) : tC s k=some (Yn s k):=by
 have:∃ r,tC s k=some r:=by
  unfold tC
  dsimp only
  rw [BD s k ⟨0,0⟩ hl]
  obtain ⟨r,h1,_⟩:=a7 (g:=iE s k) (fin:=fun a=>(a,(s.al.length:Int))) (fun _ _=>True) (fun _=>True) s.al 0 ⟨0,0⟩ (fun j a x hx _=>by
   unfold iE
   simp only [cS,cW,zb,sZ]
   exact ⟨_,rfl,fun _ _=>trivial,fun _ _=>trivial⟩) (fun _ _=>trivial) trivial
  rw [h1]
  exact ⟨_,rfl⟩
 obtain ⟨r,hr⟩:=this
 unfold Yn
 rw [hr]; rfl
def fg (p:ByteArray) : ByteArray:=(ed p).getD ⟨#[]⟩
def dH:Nat→ByteArray→Nat
 | 0,_=>0
 | n + 1,p=>if p.size=0 then 0 else dH n (fg p) + 1
structure Deep (c:ay) : Prop where
 few:c.ae.length≤16
 deep:∀ q∈c.ae,dH 6 q.aO≤4
structure AA (c:ay) : Prop where
 sz:SzC c
 each:∀ q∈c.ae,q.bt.length=c.aj.length
 up:∀ q∈c.ae,∀ r,zk q.aO=some r→∀ x∈r,isQ c x=true
 deep:Deep c
 lab1 : 1≤c.aj.length
 leaf:∃ q∈c.ae,Cb c q.aO=true
 lsz:∀ x∈c.aj,x.size≤1000000
theorem yU {c:ay} {p:ByteArray} (h:isQ c p=true) : EW c p∈c.ae∧((EW c p).aO.toList==p.toList)=true:=by
 unfold isQ at h
 unfold EW
 cases hf:c.ae.find? fun q=>q.aO.toList==p.toList with
 | none =>
  rw [List.any_eq_true] at h
  obtain ⟨q,hq,h2⟩:=h
  have:=List.find?_eq_none.1 hf q hq
  exact absurd h2 (by simpa using this)
 | some q=>exact ⟨List.mem_of_find?_eq_some hf,by simpa using List.find?_some hf⟩
theorem sC {a b:ByteArray} (h:(a.toList==b.toList)=true) : a=b:=by
 have h:a.toList=b.toList:=by simpa using h
 rw [ByteArray.toList_eq,ByteArray.toList_eq] at h
 cases a; cases b
 simp only at h
 congr 1
 exact Array.ext' h
theorem J4 {α : Type} {l:List α} {i:Int} (h0 : 0≤i) (h1:i < (l.length:Int)) : ∃ x,aw l i=some x∧x∈l:=by
 unfold aw
 rw [if_pos h0]
 have:i.toNat < l.length:=by omega
 exact ⟨l[i.toNat],zq this,List.getElem_mem this⟩
theorem F6 (s:aa) (p:ByteArray) (k:Int) (b:Bool) (hf:AA s.bG) (hn:s.aD.length≤1000000) : ∃ r,tB s p k b=some r:=by
 unfold tB
 simp only [nc _ _ hf.sz,zb,orB,oa s k hn]
 cases hc:(!isQ s.bG p||decide (k < 0)||decide (k≥(s.bG.aj.length:Int))) with
 | true=>exact ⟨_,rfl⟩
 | false =>
  simp only [Bool.or_eq_false_iff,Bool.not_eq_false',decide_eq_false_iff_not] at hc
  obtain ⟨⟨hq,hk0⟩,hk1⟩:=hc
  obtain ⟨hm,hp⟩:=yU hq
  have hpe:=sC hp
  have hps:p.size≤1000000:=by rw [← hpe]; exact hf.sz.paths _ hm
  obtain ⟨up,hup,hul,_⟩:=F9 p hps
  have hall:=hf.up _ hm up (by rw [hpe]; exact hup)
  simp only [zf,if_false,hup,zb]
  have hw:∀ i:Int,-1≤i→i≤1000000→i64.wrap (i - 1)=i - 1:=fun i h1 h2=>nU (by omega) (by omega)
  have hw2:i64.wrap ((up.length:Int) - 2)=(up.length:Int) - 2:=nU (by omega) (by omega)
  have h:=aM (f:=ry s up k b) (fun st=>-2≤st.2∧st.2 < (up.length:Int)) (fun st=>(st.2 + 1).toNat) (fun _=>True) (fun st ⟨h1,h2⟩=>by
   unfold ry
   dsimp only
   by_cases hi:st.2≥0
   ·obtain ⟨x,hx,hxm⟩:=J4 (l:=up) hi h2
    have hxq:=hall x hxm
    have hcap:=hf.each _ (yU hxq).1
    obtain ⟨c,hc,_⟩:=J4 (l:=(EW s.bG x).bt) (i:=k) (by omega) (by rw [hcap]; omega)
    simp only [hi,decide_true,if_true,hx,zb,nc _ _ hf.sz,hc,Ct,sZ,hw st.2 (by omega) (by omega)]
    exact .inl ⟨_,rfl,⟨by show -2≤st.2 - 1; omega,by show st.2 - 1 < _; omega⟩,by show (st.2 - 1 + 1).toNat < (st.2 + 1).toNat; omega⟩
   ·simp only [hi,decide_false,zf,if_false]
    exact .inr ⟨_,rfl,trivial⟩) ab (u5 s k,i64.wrap ((up.length:Int) - 2)) ⟨by show -2≤i64.wrap ((up.length:Int) - 2); rw [hw2]; omega,by show i64.wrap ((up.length:Int) - 2) < _; rw [hw2]; omega⟩ (by show (i64.wrap ((up.length:Int) - 2) + 1).toNat < ab; rw [hw2]; unfold ab; omega)
  obtain ⟨r,h1,_⟩:=h
  rw [h1]
  exact ⟨_,rfl⟩
def BQ (s:aa) (p:ByteArray) (k:Int) : au:=(tB s p k true).getD au.zero
def Yj (s:aa) (p:ByteArray) (k:Int) : au:=(tB s p k false).getD au.zero
theorem ob (s:aa) (p:ByteArray) (k:Int) (hf:AA s.bG) (hn:s.aD.length≤1000000) : lL s p k=some (BQ s p k):=by
 obtain ⟨r,hr⟩:=F6 s p k true hf hn
 unfold lL BQ
 rw [hr]; rfl
theorem F7 (s:aa) (p:ByteArray) (k:Int) (hf:AA s.bG) (hn:s.aD.length≤1000000) : vV s p k=some (Yj s p k):=by
 obtain ⟨r,hr⟩:=F6 s p k false hf hn
 unfold vV Yj
 rw [hr]; rfl
def Z5 (s:aa) (p:ByteArray) (k:Int) : au:=if isQ s.bG p=true then (Qd (BQ s p k) (EW s.bG p).de).1 else au.zero
theorem Qq (s:aa) (p:ByteArray) (k:Int) (hf:AA s.bG) (hn:s.aD.length≤1000000) : DG s p k=some (Z5 s p k):=by
 unfold DG Z5
 simp only [nc _ _ hf.sz,zb,ob s p k hf hn,Ct]
 cases isQ s.bG p <;> rfl
def iC (v_s:aa) (bw:Int) (st:au) (x_:an) : Option ((au)⊕((au×Int))) :=
 let v_v:=st
 if (x_.bM==bw)=true then
 (df v_v x_.cH).bind fun c4=>let v_v:au:=c4
 some (.inl v_v)
 else
 some (.inl v_v)
theorem BC (v_s:aa) (bw:Int) (a_:au) (hl:v_s.ac.length≤1000000) : ah (nD v_s bw) ab (a_,(0))=br (iC v_s bw) (fun a_=>(a_,((v_s.ac.length:Int)))) a_ v_s.ac :=
 az v_s.ac (S:=au×Int) (fun a_ k_=>(a_,(k_))) (iC v_s bw) (fun a_=>(a_,((v_s.ac.length:Int)))) (ao hl) (fun k a x hx=>by
  unfold nD iC; exact bJ)
  (fun a=>by unfold nD; exact cI) a_
theorem Ql (s:aa) (id:Int) (hl:s.aD.length≤1000000) : nG s id=some (((s.aD.find? fun c=>c.fId==id).map fun c=>(c,true)).getD (aW.zero,false)):=by
 unfold nG
 have h:=az (S:=Int) s.aD (fun (_:Unit) k=>k) (f:=nF s id) (fun _ x=>if (x.fId==id)=true then some (.inr (.inr (x,true))) else some (.inl ())) (fun _=>.inl (s.aD.length:Int)) (ao hl)
  (fun k a x hx=>by
   have hk:=(zg.1 hx).1
   unfold nF
   simp only [bL hx,if_true,aH hx,zb]
   split
   ·rfl
   ·simp only [bb hk hl,Option.map_some])
  (fun a=>by unfold nF; simp only [bF]; rfl) ()
 dsimp only
 have h2:=pJ (fun x:aW=>x.fId==id) (fun x=>(Sum.inr (x,true) : Int⊕aW×Bool)) (.inl (s.aD.length:Int)) s.aD
 rw [h,h2]
 cases List.find? (fun c=>c.fId==id) s.aD <;> rfl
theorem BB (s:aa) (n:aW) (hl:s.aD.length + 1≤1000000) : u6 s n=some { s with aD:=dp aW.fId s.aD n } := by
 unfold u6
 have hl':s.aD.length≤1000000:=by omega
 have h:=EF s.aD (fun x=>decide (x.fId < n.fId)) (f:=pg s n) (ao hl')
  (fun k x hx=>by
   have hk:=(zg.1 hx).1
   unfold pg
   simp only [bL hx,if_true,aH hx,zb,bb hk hl'])
  (by unfold pg; simp only [bF]; rfl)
 unfold dp
 have hK:=ln (fun x:aW=>decide (x.fId < n.fId)) s.aD
 generalize (s.aD.takeWhile fun x=>decide (x.fId < n.fId)).length=K at h hK ⊢
 dsimp only
 rw [h]
 simp only [zb]
 rw [lB hK]
 simp only [zb]
 rw [aJ (by simp; omega)]
 simp only [zb]
 rw [aJ (by simp; omega)]
 simp only [zb]
 by_cases hlt:K < s.aD.length
 ·have hx:s.aD[K]? = some s.aD[K]:=zq hlt
  simp only [bL hx,if_true,aH hx,zb,hx]
  cases he:(s.aD[K].fId==n.fId) with
  | true =>
   simp only [if_true,zb,bb hlt hl']
   rw [i6 hlt]
   simp only [zb]
   rw [aJ (by simp; omega)]
   simp
  | false =>
   simp only [zf,if_false,zb]
   rw [i6 hK]
   simp only [zb]
   rw [aJ (by simp; omega)]
   simp
 ·have:K=s.aD.length:=by omega
  subst this
  simp only [bF,zf,if_false,zb]
  rw [i6 (Nat.le_refl _)]
  simp only [zb]
  rw [aJ (by simp; omega)]
  simp
theorem Qj (n:Int) : zi n=some (decide (n≥0)&&decide (n≤1073741824)):=by
 unfold zi
 simp only [cW,zb]
def tg (s:aa) (id:Int) : Bool:=s.aD.any fun c=>c.fId==id
def fa (s:aa) (id:Int) : aW:=(s.aD.find? fun c=>c.fId==id).getD aW.zero
theorem na (s:aa) (id:Int) (hl:s.aD.length≤1000000) : nG s id=some (fa s id,tg s id):=by
 rw [Ql s id hl]
 unfold fa tg
 cases h:s.aD.find? fun c=>c.fId==id with
 | none =>
  have:(s.aD.any fun c=>c.fId==id)=false:=by
   rw [List.any_eq_false]; intro x hx; have:=List.find?_eq_none.1 h x hx; simpa using this
  rw [this]; rfl
 | some c =>
  have:(s.aD.any fun c=>c.fId==id)=true:=by
   rw [List.any_eq_true]; exact ⟨c,List.mem_of_find?_eq_some h,by simpa using List.find?_some h⟩
  rw [this]; rfl
def aa2 (s:aa) (n:aW) : Bool:=!(decide (n.fId < 0)||decide (n.fId > 999)||decide (n.aA < 0)||decide (n.aA≥(s.bG.aj.length:Int))||decide (n.fu < 0)||decide (n.fu > 99) || !(decide (n.jq.bg≥0)&&decide (n.jq.bg≤1073741824)) || !(decide (n.jq.aI≥0)&&decide (n.jq.aI≤1073741824)))
def YQ (s:aa) (n:aW) : aa×Int :=
 if aa2 s n=false then (s,1)
 else if (tg s n.fId&&(fa s n.fId).fUp)=true then (s,7)
 else if (!tg s n.fId&&decide ((s.aD.length:Int)≥12))=true then (s,4)
 else ({ s with aD:=dp aW.fId s.aD ⟨n.fId,n.aA,n.fu,n.jq,s.cx,0,true⟩ },0)
theorem F4 (s:aa) (n:aW) (hl:s.aD.length + 1≤1000000) : k8 s n=some (YQ s n):=by
 unfold k8 YQ
 simp only [Qj,orB,zb,na s n.fId (by omega),BB s _ hl,cW]
 unfold aa2
 generalize (decide (n.fId < 0)||decide (n.fId > 999)||decide (n.aA < 0)||decide (n.aA≥(s.bG.aj.length:Int))||decide (n.fu < 0)||decide (n.fu > 99) || !(decide (n.jq.bg≥0)&&decide (n.jq.bg≤1073741824)) || !(decide (n.jq.aI≥0)&&decide (n.jq.aI≤1073741824)))=b1
 generalize (tg s n.fId&&(fa s n.fId).fUp)=b2
 generalize (!tg s n.fId&&decide ((s.aD.length:Int)≥12))=b3
 cases b1 <;> cases b2 <;> cases b3 <;> rfl
theorem KJ (s:aa) (hl:s.aD.length≤1000000) : vT s=some ((s.aD.filter fun b=>b.fUp&&decide (i64.wrap (s.cx - b.cM)≥10)).map aW.fId):=by
 unfold vT
 have h:=az (S:=List Int×Int) s.aD (fun a k=>(a,k)) (f:=ku s) (fun acc x=>if (x.fUp&&decide (i64.wrap (s.cx - x.cM)≥10))=true then (aX acc [x.fId]).map (fun a=>(.inl a:List Int⊕(List Int×Int))) else some (.inl acc)) (fun a=>(a,(s.aD.length:Int))) (ao hl)
  (fun k a x hx=>by
   have hk:=(zg.1 hx).1
   unfold ku
   simp only [bL hx,if_true,aH hx,zb,cW,bb hk hl]
   split
   ·cases aX a [x.fId] <;> rfl
   ·rfl)
  (fun a=>by unfold ku; simp only [bF]; rfl) []
 rw [cd (fun b:aW=>b.fUp&&decide (i64.wrap (s.cx - b.cM)≥10)) aW.fId (fun a=>(a,(s.aD.length:Int))) s.aD [] (by simpa using hl)] at h
 dsimp only
 rw [h]
 rfl
def Nn (s:aa) (id b:Int) : aa×Int :=
 if tg s id=false then (s,2)
 else if (fa s id).fUp=false then (s,18)
 else if decide (b < 0)=true then (s,15)
 else if decide (b < (fa s id).cn)=true then (s,15)
 else if decide (i64.wrap (b - (fa s id).cn) > 1)=true then (s,1)
 else ({ s with aD:=dp aW.fId s.aD { fa s id with cM:=s.cx,cn:=b } },0)
theorem Qp (s:aa) (id b:Int) (hl:s.aD.length + 1≤1000000) : vU s id b=some (Nn s id b):=by
 unfold vU Nn
 simp only [na s id (by omega),zb,BB s _ hl]
 generalize tg s id=b1
 generalize (fa s id).fUp=b2
 generalize decide (b < 0)=b3
 generalize decide (b < (fa s id).cn)=b4
 generalize decide (i64.wrap (b - (fa s id).cn) > 1)=b5
 cases b1 <;> cases b2 <;> cases b3 <;> cases b4 <;> cases b5 <;> rfl
def S6 (s:aa) (id:Int) : aa:=if tg s id=true then { s with aD:=dp aW.fId s.aD { fa s id with fUp:=false } } else s
theorem Qn (s:aa) (id:Int) (hl:s.aD.length + 1≤1000000) : tA s id=some (S6 s id):=by
 unfold tA S6
 simp only [na s id (by omega),zb,BB s _ hl]
 generalize tg s id=b1
 cases b1 <;> rfl
def ZR (s:aa) (id:Int) : au:=s.ac.foldl (fun v c=>if (c.bM==id)=true then lI v c.cH else v) au.zero
theorem Qk (s:aa) (id:Int) (hl:s.ac.length≤1000000) : DF s id=some (ZR s id):=by
 unfold DF
 dsimp only
 rw [BC s id ⟨0,0⟩ hl]
 have:iC s id=fun v c=>some (.inl (if (c.bM==id)=true then lI v c.cH else v)):=by
  funext v c
  unfold iC
  simp only [cS,zb]
  cases (c.bM==id) <;> rfl
 rw [this,kJ (fun (v:au) (c:an)=>if (c.bM==id)=true then lI v c.cH else v)]
 rfl
def ZY (s:aa) (id:Int) : au:=if (!tg s id || !(fa s id).fUp)=true then au.zero else WY (fa s id).jq (ZR s id)
theorem F5 (s:aa) (id:Int) (hl:s.aD.length≤1000000) (hc:s.ac.length≤1000000) : zj s id=some (ZY s id):=by
 unfold zj ZY
 simp only [na s id hl,zb,orB,Qk s id hc,Gh]
 generalize (!tg s id || !(fa s id).fUp)=b1
 cases b1 <;> rfl
theorem Ee {α : Type} (key : α→Int) (l:List α) (a : α) : (dp key l a).length≤l.length + 1:=by
 unfold dp
 have h:=ln (fun x=>decide (key x < key a)) l
 generalize (l.takeWhile fun x=>decide (key x < key a)).length=K at h ⊢
 simp only [List.length_append,List.length_take,List.length_cons,List.length_drop]
 split
 ·split <;> omega
 ·omega
def kP {α : Type} (key : α→Int) (l:List α) : Prop:=l.Pairwise fun x y=>key x < key y
structure SzA (B:Nat) (a:aC) : Prop where
 queue:a.bQ.size≤1000000∧0≤a.cM∧a.cM≤1000000000∧a.fId < 9000
 asks:a.bN.length≤B
 grants:a.cf.length≤B
 kills:a.fQ.length≤B
 told:a.oT.length≤B
 lost:a.pX.length≤B
def abS (s:aa) : Prop:=(0≤s.cx∧s.cx≤1000000000)∧∀ n∈s.aD,(0≤n.cM∧n.cM≤1000000000)∧0≤n.cn
structure SzS (B:Nat) (s:aa) : Prop where
 conf:AA s.bG
 nodes:s.aD.length≤B∧kP aW.fId s.aD∧abS s
 apps:s.ar.length≤B
 conts:s.ac.length≤B
 slots:s.aZ.length≤B
 plans:s.al.length≤B
 app:∀ a∈s.ar,SzA B a
theorem SzA.mono {B C:Nat} {a:aC} (h:SzA B a) (hc:B≤C) : SzA C a:=⟨h.queue,Nat.le_trans h.asks hc,Nat.le_trans h.grants hc,Nat.le_trans h.kills hc,Nat.le_trans h.told hc,Nat.le_trans h.lost hc⟩
theorem SzS.mono {B C:Nat} {s:aa} (h:SzS B s) (hc:B≤C) : SzS C s:=⟨h.conf,⟨Nat.le_trans h.nodes.1 hc,h.nodes.2⟩,Nat.le_trans h.apps hc,Nat.le_trans h.conts hc,Nat.le_trans h.slots hc,Nat.le_trans h.plans hc,fun a ha=>(h.app a ha).mono hc⟩
theorem SzA.zero (B:Nat) : SzA B aC.zero:=⟨⟨Nat.zero_le _,Int.le_refl _,by decide,by decide⟩,Nat.zero_le _,Nat.zero_le _,Nat.zero_le _,Nat.zero_le _,Nat.zero_le _⟩
theorem SzS.get {B:Nat} {s:aa} (h:SzS B s) (id:Int) : SzA B (cj s id):=by
 unfold cj
 cases hf:s.ar.find? fun c=>c.fId==id with
 | none=>exact SzA.zero B
 | some a=>exact h.app a (List.mem_of_find?_eq_some hf)
theorem pQ {α : Type} {key : α→Int} {l:List α} {a x : α} (h:x∈dp key l a) : x=a∨x∈l:=by
 unfold dp at h
 simp only [List.mem_append,List.mem_cons] at h
 rcases h with h | h | h
 ·exact .inr (List.mem_of_mem_take h)
 ·exact .inl h
 ·exact .inr (List.mem_of_mem_drop h)
theorem SzS.put {B:Nat} {s:aa} (h:SzS B s) {a:aC} (ha:SzA (B + 1) a) : SzS (B + 1) { s with ar:=dp aC.fId s.ar a } :=
 ⟨h.conf,⟨Nat.le_trans h.nodes.1 (Nat.le_succ _),h.nodes.2⟩,Nat.le_trans (Ee _ _ _) (Nat.succ_le_succ h.apps),Nat.le_trans h.conts (Nat.le_succ _),Nat.le_trans h.slots (Nat.le_succ _),Nat.le_trans h.plans (Nat.le_succ _),fun x hx=>by
  rcases pQ hx with rfl | hx
  ·exact ha
  ·exact (h.app x hx).mono (Nat.le_succ _)⟩
theorem SzS.fewer {B:Nat} {s:aa} (h:SzS B s) {c:List an} {l:List bA} (hc:c.length≤s.ac.length) (hl:l.length≤s.aZ.length) : SzS B { s with ac:=c,aZ:=l } := ⟨h.conf,h.nodes,h.apps,Nat.le_trans hc h.conts,Nat.le_trans hl h.slots,h.plans,h.app⟩
theorem Ab (a p:ByteArray) (ha:a.size≤1000000) : ∃ r,np a p=some r:=by
 obtain ⟨u,h1,h2,h3⟩:=F9 a ha
 unfold np
 rw [h1]
 dsimp only [zb]
 rw [yg u p () (by omega),show jf u p=fun (_:Unit) x=>if (x.toList==p.toList)=true then some (.inr (.inr true)) else some (.inl ()) from rfl,
  kU (fun x:ByteArray=>x.toList==p.toList) (fun _=>(Sum.inr true:Int⊕Bool)) (.inl (u.length:Int)) u]
 simp only [zb]
 cases u.find? fun x=>x.toList==p.toList <;> exact ⟨_,rfl⟩
theorem CE {B:Nat} {s:aa} (h:SzS B s) (hB:B≤1000000) (p:ByteArray) (k:Int) (all:Bool) (u:Int) : ∃ r,vn s p k all u=some r:=by
 have h1:=h.apps; have h2:=h.conts
 unfold vn
 dsimp only
 rw [Aa s k p all u _ (by omega)]
 obtain ⟨r,e1,_⟩:=a7 (g:=gL s k p all u) (fin:=fun b=>(b,(s.ac.length:Int))) (fun _ _=>True) (fun _=>True) s.ac 0 (⟨0,0⟩ : au) (fun j t x hx _=>by
  obtain ⟨b,hb⟩:=Ab (cj s x.bC).bQ p (h.get x.bC).queue.1
  unfold gL
  simp only [ep s x.bC (by omega),zb,cW,hb,cS]
  cases W6 s x.bC <;> cases (x.aA==k) <;> cases b <;> cases all <;> cases ((cj s x.bC).de==u) <;> exact ⟨_,rfl,fun _ _=>trivial,fun _ _=>trivial⟩) (fun _ _=>trivial) trivial
 rw [e1]
 exact ⟨_,rfl⟩
theorem fI {B:Nat} {s:aa} (h:SzS B s) (hB:B≤1000000) (p:ByteArray) (k:Int) : ∃ r,eU s p k=some r:=by
 obtain ⟨r,e⟩:=CE h hB p k true 0
 exact ⟨r,by unfold eU; rw [e]; rfl⟩
theorem C6 {B:Nat} {s:aa} (h:SzS B s) (hB:B≤1000000) (p:ByteArray) (k u:Int) : ∃ r,pm s p k u=some r:=by
 obtain ⟨r,e⟩:=CE h hB p k false u
 exact ⟨r,by unfold pm; rw [e]; rfl⟩
theorem vp {B:Nat} {s:aa} (h:SzS B s) (hB:B≤1000000) (p:ByteArray) (k:Int) : ∃ r,ot s p k=some r:=by
 have h1:=h.apps
 unfold ot
 dsimp only
 rw [vr s k p _ (by omega)]
 obtain ⟨r,e1,_⟩:=a7 (g:=eg s k p) (fin:=fun b=>(b,(s.ar.length:Int))) (fun _ _=>True) (fun _=>True) s.ar 0 (⟨0,0⟩ : au) (fun j t x hx _=>by
  have hm:=h.app x (List.mem_of_getElem? hx)
  have ha:=hm.asks
  obtain ⟨b,hb⟩:=Ab x.bQ p hm.queue.1
  unfold eg
  simp only [fJ,zb,hb,Hi x.bN k (by omega),cS]
  cases WV x <;> cases b <;> exact ⟨_,rfl,fun _ _=>trivial,fun _ _=>trivial⟩) (fun _ _=>trivial) trivial
 rw [e1]
 exact ⟨_,rfl⟩
theorem CH {B:Nat} {s:aa} (h:SzS B s) (hB:B≤1000000) (p:ByteArray) (hp:p.size≤1000000) (k:Int) (v:au) : ∃ r,vo s p k v=some r:=by
 obtain ⟨u,h1,h2,h3⟩:=F9 p hp
 have k1:=h.nodes.1; have k2:=h.plans
 unfold vo
 rw [h1]
 dsimp only [zb]
 rw [Ad u s k v () (by omega)]
 obtain ⟨r,e1,_⟩:=a7 (g:=gM u s k v) (fin:=fun _=>(.inl (u.length:Int))) (fun _ _=>True) (fun _=>True) u 0 () (fun j t x hx _=>by
  obtain ⟨w,hw⟩:=fI h hB x k
  unfold gM
  simp only [hw,zb,cS,F7 s x k h.conf (by omega),ic,oa s k (by omega),Qt s k (by omega),Gh]
  generalize G7 (lI w v) (Yj s x k)=b1
  generalize G7 (lI w v) (WY (u5 s k) (Yn s k))=b2
  generalize (x.toList==(⟨#[114,111,111,116]⟩ : ByteArray).toList)=b3
  cases b1 <;> cases b2 <;> cases b3 <;> exact ⟨_,rfl,fun _ _=>trivial,fun _ _=>trivial⟩) (fun _ _=>trivial) trivial
 rw [e1]
 simp only [zb]
 cases r <;> exact ⟨_,rfl⟩
theorem Ld {B:Nat} {s:aa} (h:SzS B s) (hB:B≤1000000) (a b:ByteArray) (k:Int) : ∃ r,wb s a b k=some r:=by
 obtain ⟨u,hu⟩:=fI h hB a k
 obtain ⟨w,hw⟩:=fI h hB b k
 have k1:=h.nodes.1
 unfold wb
 simp only [hu,hw,ob s _ k h.conf (Nat.le_trans k1 hB),NM,zb,cW,orB]
 exact ⟨_,rfl⟩
theorem n5 {α : Type} (out:List α) (hl:out.length≤1000000) {f:Int→Option (Int⊕Int)} (h:∀ (k:Nat) (x : α),out[k]? = some x→∃ b,f (k:Int)=if b=true then some (.inl ((k + 1:Nat) : Int)) else some (.inr (k:Int)))
  (hend:f (out.length:Int)=some (.inr (out.length:Int))) : ∃ K:Nat,ah f ab 0=some (K:Int)∧K≤out.length:=by
 obtain ⟨r,h1,K,h2,h3⟩:=aM (f:=f) (fun st=>∃ k:Nat,st=(k:Int)∧k≤out.length) (fun st=>out.length - st.toNat) (fun r=>∃ k:Nat,r=(k:Int)∧k≤out.length) (fun st ⟨k,e,hk⟩=>by
  subst e
  by_cases hlt:k < out.length
  ·obtain ⟨b,hb⟩:=h k _ (zq hlt)
   rw [hb]
   cases b with
   | true=>exact .inl ⟨_,rfl,⟨k + 1,rfl,hlt⟩,by simp only [zt]; omega⟩
   | false=>exact .inr ⟨_,rfl,k,rfl,hk⟩
  ·have:k=out.length:=by omega
   subst this
   exact .inr ⟨_,hend,_,rfl,Nat.le_refl _⟩) ab 0 ⟨0,rfl,Nat.zero_le _⟩ (by have:=ao hl; omega)
 subst h2
 exact ⟨K,h1,h3⟩
theorem mM {σ α τ : Type} {g : σ→Int→α→Option (σ⊕τ)} {fin : σ→τ} (I:Nat→σ→Prop) (Q : τ→Prop) : ∀ (l:List α) (k:Nat) (a : σ),(∀ (j:Nat) (a : σ) (x : α),l[j]? = some x→I (k + j) a→∃ o,g a ((k + j:Nat) : Int) x=some o∧(∀ a',o = .inl a'→I (k + j + 1) a')∧∀ r,o = .inr r→Q r)→(∀ a,I (k + l.length) a→Q (fin a))→I k a→∃ r,nX g fin a k l=some r∧Q r
 | [],k,a,_,hf,hI=>⟨fin a,rfl,hf a hI⟩
 | x::l,k,a,h,hf,hI=>by
  obtain ⟨o,h1,h2,h3⟩:=h 0 a x rfl hI
  simp only [Nat.add_zero] at h1
  simp only [nX,h1]
  cases o with
  | inr r=>exact ⟨r,rfl,h3 r rfl⟩
  | inl a' =>
   refine mM I Q l (k + 1) a' (fun j b y hy hb=>?_) (fun b hb=>hf b (by simpa [Nat.add_assoc,Nat.add_comm 1] using hb)) (h2 a' rfl)
   have:=h (j + 1) b y hy (by rwa [Nat.add_right_comm] at hb)
   rwa [Nat.add_right_comm k 1 j,Nat.add_assoc k j 1]
theorem Ov {B:Nat} {s:aa} (h:SzS B s) (hB:B≤1000000) (p:ByteArray) (k:Int) : ∃ l r,fw s.bG p=some l∧zZ s p k=some r∧r.length≤l.length∧∀ x∈r,x∈l:=by
 obtain ⟨l,h1,h2,h3⟩:=tD s.bG p h.conf.sz
 have k2:=h.conf.sz.queues
 have hl:l.length≤1000:=by omega
 unfold zZ
 simp only [h1]
 dsimp only [zb]
 rw [zY l s k [] (by omega)]
 obtain ⟨r,e1,e2⟩:=mM (g:=gI l s k) (fin:=fun b=>(b,(l.length:Int))) (fun j b=>b.length≤j∧∀ x∈b,x∈l) (fun r=>r.1.length≤l.length∧∀ x∈r.1,x∈l) l 0 [] (fun j out x hx ⟨ho,hm⟩=>by
  have hj:=(zg.1 hx).1
  obtain ⟨K,hK1,hK2⟩:=n5 out (by omega) (f:=jz out s ((0 + j:Nat) : Int) l k) (fun i y hy=>by
   have hi:=(zg.1 hy).1
   obtain ⟨b,hb⟩:=Ld h hB x y k
   refine ⟨!b,?_⟩
   unfold jz
   simp only [bL hy,if_true,aH hy,aH (show l[0 + j]? = some x by rwa [Nat.zero_add]),hb,zb,bb hi (show out.length≤1000000 by omega)]) (by unfold jz; simp only [bF,zf,if_false,zb])
  unfold gI
  dsimp only
  rw [hK1]
  simp only [zb]
  rw [lB hK2]
  simp only [zb]
  rw [aJ (by simp; omega)]
  simp only [zb]
  rw [aJ (by simp; omega)]
  simp only [zb]
  rw [i6 hK2]
  simp only [zb]
  rw [aJ (by simp; omega)]
  refine ⟨_,rfl,fun a' e=>?_,fun r e=>by cases e⟩
  injection e with e
  subst e
  refine ⟨by simp; omega,fun y hy=>?_⟩
  simp only [List.nil_append,List.mem_append,List.mem_singleton] at hy
  rcases hy with (hy | rfl) | hy
  ·exact hm y (List.mem_of_mem_take hy)
  ·exact List.mem_of_getElem? hx
  ·exact hm y (List.mem_of_mem_drop hy)) (fun b ⟨hb,hm⟩=>⟨by simpa using hb,hm⟩) ⟨by simp,by simp⟩
 rw [e1]
 exact ⟨l,_,rfl,rfl,e2.1,e2.2⟩
theorem Ow {B:Nat} {s:aa} (h:SzS B s) (hB:B≤1000000) (q:ByteArray) : ∃ r,z8 s q=some r∧r.length≤B∧∀ i∈r,∃ x∈s.ar,x.fId=i:=by
 have k1:=h.apps
 unfold z8
 dsimp only
 rw [z7 s q [] (by omega)]
 obtain ⟨r,e1,e2⟩:=a7 (g:=gK s q) (fin:=fun b=>(b,(s.ar.length:Int))) (fun j b=>b.length≤j∧∀ y∈b,y∈s.ar) (fun r=>r.1.length≤s.ar.length∧∀ y∈r.1,y∈s.ar) s.ar 0 [] (fun j out x hx ⟨ho,hm⟩=>by
  have hj:=(zg.1 hx).1
  unfold gK
  simp only [fJ,zb,orB]
  split
  ·exact ⟨_,rfl,fun a' e=>by injection e with e; subst e; exact ⟨Nat.le_succ_of_le ho,hm⟩,fun r e=>by cases e⟩
  obtain ⟨K,hK1,hK2⟩:=n5 out (by omega) (f:=jA out x) (fun i y hy=>by
   have hi:=(zg.1 hy).1
   refine ⟨decide (y.bD≥x.bD),?_⟩
   unfold jA
   simp only [bL hy,if_true,aH hy,zb,bb hi (show out.length≤1000000 by omega)]) (by unfold jA; simp only [bF,zf,if_false,zb])
  rw [hK1]
  simp only [zb]
  rw [lB hK2]
  simp only [zb]
  rw [aJ (by simp; omega)]
  simp only [zb]
  rw [aJ (by simp; omega)]
  simp only [zb]
  rw [i6 hK2]
  simp only [zb]
  rw [aJ (by simp; omega)]
  refine ⟨_,rfl,fun a' e=>?_,fun r e=>by cases e⟩
  injection e with e
  subst e
  refine ⟨by show (([] ++ out.take K ++ [x])++out.drop K).length≤0 + j + 1; simp; omega,fun y hy=>?_⟩
  simp only [List.nil_append,List.mem_append,List.mem_singleton] at hy
  rcases hy with (hy | rfl) | hy
  ·exact hm y (List.mem_of_mem_take hy)
  ·exact List.mem_of_getElem? hx
  ·exact hm y (List.mem_of_mem_drop hy)) (fun b ⟨hb,hm⟩=>⟨by simpa using hb,hm⟩) ⟨by simp,by simp⟩
 rw [e1]
 simp only [zb]
 have e:gJ r.1=fun acc (x:aC)=>if true=true then (aX acc [x.fId]).map (fun a=>(.inl a:List Int⊕(List Int×Int))) else some (.inl acc):=by
  funext acc x
  unfold gJ
  simp only [if_true]
  cases aX acc [x.fId] <;> rfl
 have e3:=e2.1
 rw [z6 r.1 [] (by omega),e,cd (fun _=>true) aC.fId _ r.1 [] (by simp; omega)]
 refine ⟨_,rfl,?_,fun i hi=>?_⟩
 ·have hf:=List.length_filter_le (fun _:aC=>true) r.1
  rw [List.nil_append,List.length_map]
  omega
 ·rw [List.nil_append,List.mem_map] at hi
  obtain ⟨y,hy,e4⟩:=hi
  exact ⟨y,e2.2 y (List.mem_filter.1 hy).1,e4⟩
theorem Cm:∀ (n:Nat) (p:ByteArray),dH n p < n→dH (n + 1) p=dH n p
 | 0,_,h=>absurd h (Nat.not_lt_zero _)
 | n + 1,p,h=>by
  unfold dH at h ⊢
  split
  ·rfl
  ·rename_i h0
   rw [if_neg h0] at h
   rw [Cm n _ (by omega)]
theorem IT {x p:ByteArray} (hx:ed x=some p) (hp : 0 < p.size) (xs:x.size≤1000000) (hd:dH 6 x≤4) : dH 6 p + 1=dH 6 x:=by
 obtain ⟨r,h1,h2⟩:=od x xs
 rw [hx] at h1
 injection h1 with h1
 subst h1
 have e:dH 6 x=dH 5 p + 1:=by
  show (if x.size=0 then 0 else dH 5 (fg x) + 1) = _
  rw [if_neg (by omega)]
  unfold fg
  rw [hx]
  rfl
 rw [e] at hd ⊢
 rw [Cm 5 p (by omega)]
theorem Cq (c:ay) (p:ByteArray) (h:SzC c) {l:List ByteArray} (hl:fw c p=some l) : ∀ x∈l,(∃ q∈c.ae,q.aO=x)∧ed x=some p∧0 < p.size:=by
 unfold fw at hl
 have hs:=jI c p [] (by have:=h.queues; omega)
 dsimp only at hl
 rw [hs] at hl
 obtain ⟨r,h1,h2⟩:=a7 (g:=cA c p) (fin:=fun a=>(a,(c.ae.length:Int))) (fun k a=>a.length≤k∧∀ x∈a,(∃ q∈c.ae,q.aO=x)∧ed x=some p∧0 < p.size) (fun r=>∀ x∈r.1,(∃ q∈c.ae,q.aO=x)∧ed x=some p∧0 < p.size) c.ae 0 [] (fun j a x hx ⟨h1,h2⟩=>by
  have hm:=List.mem_of_getElem? hx
  have hj:=(zg.1 hx).1
  obtain ⟨r,hr,_⟩:=od x.aO (h.paths x hm)
  have hqs:=h.queues
  unfold cA
  simp only [hr,zb,cW]
  split
  ·rename_i hc
   rw [Bool.and_eq_true] at hc
   rw [aJ (by simp; omega)]
   refine ⟨_,rfl,fun a' e=>?_,fun r e=>by cases e⟩
   injection e with e
   subst e
   refine ⟨by simp; omega,fun y hy=>?_⟩
   simp only [List.mem_append,List.mem_singleton] at hy
   rcases hy with hy | rfl
   ·exact h2 y hy
   ·exact ⟨⟨x,hm,rfl⟩,by rw [hr,sC hc.2],qP hc.1⟩
  ·refine ⟨_,rfl,fun a' e=>?_,fun r e=>by cases e⟩
   injection e with e
   subst e
   exact ⟨by omega,h2⟩) (fun a ⟨h1,h2⟩=>h2) ⟨by simp,by simp⟩
 rw [h1] at hl
 injection hl with hl
 subst hl
 exact h2
def yQ (self:aa→ByteArray→Int→Option (List ByteArray)) (s:aa) (k:Int) (out:List ByteArray) (x:ByteArray) : Option (List ByteArray⊕(List ByteArray×Int)) :=
 (self s x k).bind fun c=>(aX out c).bind fun b=>some (.inl b)
theorem Mu (self:aa→ByteArray→Int→Option (List ByteArray)) (l:List ByteArray) (s:aa) (k:Int) (hl:l.length≤1000000) : ah (jQ self l s k) ab ([],0)=br (yQ self s k) (fun a=>(a,(l.length:Int))) [] l :=
 az l (S:=List ByteArray×Int) (fun a k=>(a,k)) (yQ self s k) (fun a=>(a,(l.length:Int))) (ao hl) (fun i a x hx=>by
  have hk:=(zg.1 hx).1
  unfold jQ yQ
  simp only [bL hx,if_true,aH hx,zb,bb hk hl,Ii,Option.map_some])
  (fun a=>by unfold jQ; exact cI) []
theorem wV {B:Nat} {s:aa} (h:SzS B s) (hD:Deep s.bG) (hB:B≤1000000) (k:Int) : ∀ (d n:Nat) (p:ByteArray),4 - dH 6 p≤d→d < n→d≤4→∃ r,jy n s p k=some r∧r.length≤16 ^ d
 | d,0,p,_,hn,_=>absurd hn (Nat.not_lt_zero _)
 | d,n + 1,p,hp,hn,hd=>by
  obtain ⟨l,m,h1,h2,h3,h4⟩:=Ov h hB p k
  obtain ⟨l',e1,e2,_⟩:=tD s.bG p h.conf.sz
  rw [h1] at e1
  injection e1 with e1
  subst e1
  have hq:=hD.few
  unfold jy
  simp only [h2,zb]
  split
  ·exact ⟨_,rfl,by show 1≤16 ^ d; exact Nat.one_le_pow _ _ (by omega)⟩
  ·rename_i hne
   have hm : 0 < m.length:=by
    rcases Nat.eq_zero_or_pos m.length with h0 | h0
    ·rw [h0] at hne; exact absurd rfl hne
    ·exact h0
   have kid:=Cq s.bG p h.conf.sz h1
   have kd:∀ x∈m,dH 6 p + 1=dH 6 x∧dH 6 x≤4:=fun x hx=>by
    obtain ⟨⟨q,hq1,hq2⟩,a1,a2⟩:=kid x (h4 x hx)
    subst hq2
    exact ⟨IT a1 a2 (h.conf.sz.paths q hq1) (hD.deep q hq1),hD.deep q hq1⟩
   have hd0 : 0 < d:=by
    obtain ⟨a1,a2⟩:=kd m[0] (List.getElem_mem hm)
    omega
   obtain ⟨d',rfl⟩ : ∃ d',d=d' + 1:=⟨d - 1,by omega⟩
   have hpow : 16 ^ d'≤16 ^ 3:=Nat.pow_le_pow_right (by omega) (by omega)
   rw [Mu _ m s k (by omega)]
   obtain ⟨r,r1,r2⟩:=a7 (g:=yQ (jy n) s k) (fin:=fun a=>(a,(m.length:Int))) (fun j a=>a.length≤j * 16 ^ d') (fun r=>r.1.length≤m.length * 16 ^ d') m 0 [] (fun j a x hx ha=>by
    have hj:=(zg.1 hx).1
    obtain ⟨a1,a2⟩:=kd x (List.mem_of_getElem? hx)
    obtain ⟨c,c1,c2⟩:=wV h hD hB k d' n x (by omega) (by omega) (by omega)
    have hj2:(0 + j) * 16 ^ d'≤16 * 16 ^ 3:=Nat.mul_le_mul (by omega) hpow
    unfold yQ
    rw [c1]
    simp only [zb]
    rw [aJ (by omega)]
    refine ⟨_,rfl,fun a' e=>?_,fun r e=>by cases e⟩
    injection e with e
    subst e
    rw [List.length_append,Nat.succ_mul]
    omega) (fun a ha=>by simpa using ha) (by simp)
   rw [r1]
   refine ⟨_,rfl,Nat.le_trans r2 ?_⟩
   rw [Nat.pow_succ,Nat.mul_comm]
   exact Nat.mul_le_mul_left _ (by omega)
theorem Ht {B:Nat} {s:aa} (h:SzS B s) (hD:Deep s.bG) (hB:B≤1000000) (k:Int) : ∃ r,tJ s k=some r∧r.length≤65536:=by
 obtain ⟨r,h1,h2⟩:=wV h hD hB k 4 ab ⟨#[114,111,111,116]⟩ (by omega) (by unfold ab; omega) (by omega)
 unfold tJ
 rw [h1]
 exact ⟨_,rfl,h2⟩
def Ok {α : Type} (o:Option α) (P : α→Prop) : Prop:=∃ r,o=some r∧P r
theorem Ok.bind {α β : Type} {o:Option α} {f : α→Option β} {P : α→Prop} {Q : β→Prop} (h1:Ok o P) (h2:∀ r,P r→Ok (f r) Q) : Ok (Option.bind o f) Q:=by
 obtain ⟨r,e,hr⟩:=h1
 rw [e]
 exact h2 r hr
theorem Ok.ite {α : Type} {c:Prop} [Decidable c] {a b:Option α} {Q : α→Prop} (h1:c→Ok a Q) (h2 : ¬c→Ok b Q) : Ok (if c then a else b) Q:=by
 by_cases h:c
 ·rw [if_pos h]; exact h1 h
 ·rw [if_neg h]; exact h2 h
theorem Ok.pure {α : Type} {a : α} {Q : α→Prop} (h:Q a) : Ok (some a) Q:=⟨a,rfl,h⟩
theorem Ok.weak {α : Type} {o:Option α} {P Q : α→Prop} (h:Ok o P) (hq:∀ r,P r→Q r) : Ok o Q:=by
 obtain ⟨r,e,hr⟩:=h
 exact ⟨r,e,hq r hr⟩
theorem D6 {σ α τ : Type} {g : σ→α→Option (σ⊕τ)} {fin : σ→τ} (I:Nat→σ→Prop) (l:List α) (a : σ) (h:∀ (j:Nat) (a : σ) (x : α),l[j]? = some x→I j a→Ok (g a x) (fun o=>∃ a',o = .inl a'∧I (j + 1) a')) (hI:I 0 a) : Ok (br g fin a l) (fun r=>∃ a',r=fin a'∧I l.length a'):=by
 refine a7 I _ l 0 a (fun j a x hx ha=>?_) (fun a ha=>⟨a,rfl,by simpa using ha⟩) hI
 obtain ⟨o,e,a',h1,h2⟩:=h j a x hx (by simpa using ha)
 subst h1
 exact ⟨_,e,fun a'' e=>(by injection e with e; subst e; simpa using h2),fun r e=>(by cases e)⟩
theorem uv {σ α τ : Type} {g : σ→Int→α→Option (σ⊕τ)} {fin : σ→τ} (I:Nat→σ→Prop) (l:List α) (a : σ) (h:∀ (j:Nat) (a : σ) (x : α),l[j]? = some x→I j a→Ok (g a (j:Int) x) (fun o=>∃ a',o = .inl a'∧I (j + 1) a')) (hI:I 0 a) : Ok (nX g fin a 0 l) (fun r=>∃ a',r=fin a'∧I l.length a'):=by
 refine mM I _ l 0 a (fun j a x hx ha=>?_) (fun a ha=>⟨a,rfl,by simpa using ha⟩) hI
 obtain ⟨o,e,a',h1,h2⟩:=h j a x hx (by simpa using ha)
 subst h1
 exact ⟨_,by simpa using e,fun a'' e=>(by injection e with e; subst e; simpa using h2),fun r e=>(by cases e)⟩
theorem kt {α : Type} {l:List α} {i:Int} (h0 : 0≤i) (h1:i < (l.length:Int)) : Ok (aw l i) (fun x=>x∈l):=by
 obtain ⟨x,h⟩:=J4 h0 h1
 exact ⟨x,h.1,h.2⟩
theorem Jz {a n:Int} (hn : 0 < n) : -n < a.tmod n∧a.tmod n < n:=by
 constructor
 ·have:=Int.lt_tmod_of_pos a hn; omega
 ·exact Int.tmod_lt_of_pos a hn
def eS (v_s:aa) (bU:Int) (st:(List bA)) (x_:bA) : Option (((List bA))⊕(((List bA)×Int))) :=
 let v_l:=st
 if (x_.bM != bU)=true then
 (aX v_l [x_]).bind fun b4=>let v_l:(List bA):=b4
 some (.inl v_l)
 else
 some (.inl v_l)
theorem wD (v_s:aa) (bU:Int) (a_:(List bA)) (hl:v_s.aZ.length≤1000000) : ah (jP v_s bU) ab (a_,(0))=br (eS v_s bU) (fun a_=>(a_,((v_s.aZ.length:Int)))) a_ v_s.aZ :=
 az v_s.aZ (S:=(List bA)×Int) (fun a_ k_=>(a_,(k_))) (eS v_s bU) (fun a_=>(a_,((v_s.aZ.length:Int)))) (ao hl) (fun k a x hx=>by
  unfold jP eS; exact bJ)
  (fun a=>by unfold jP; exact cI) a_
def jN (v_s:aa) (bU:Int) (st:Unit) (x_:bA) : Option ((Unit)⊕((Int)⊕(bA×Bool))) :=
 if (x_.bM==bU)=true then
 some (.inr (.inr (x_,true)))
 else
 some (.inl ())
theorem zO (v_s:aa) (bU:Int) (a_:Unit) (hl:v_s.aZ.length≤1000000) : ah (lZ v_s bU) ab (0)=br (jN v_s bU) (fun a_=>(.inl ((v_s.aZ.length:Int)))) a_ v_s.aZ :=
 az v_s.aZ (S:=Int) (fun a_ k_=>(k_)) (jN v_s bU) (fun a_=>(.inl ((v_s.aZ.length:Int)))) (ao hl) (fun k a x hx=>by
  unfold lZ jN; exact bJ)
  (fun a=>by unfold lZ; exact cI) a_
def fH (v_s:aa) (fm:Int) (cJ:Int) (st:Unit) (x_:bA) : Option ((Unit)⊕((Int)⊕(Bool))) :=
 (if (x_.bC==fm)=true then some (x_.bD==cJ) else some false).bind fun q4=>if q4=true then
 some (.inr (.inr true))
 else
 some (.inl ())
theorem yf (v_s:aa) (fm:Int) (cJ:Int) (a_:Unit) (hl:v_s.aZ.length≤1000000) : ah (kC v_s fm cJ) ab (0)=br (fH v_s fm cJ) (fun a_=>(.inl ((v_s.aZ.length:Int)))) a_ v_s.aZ :=
 az v_s.aZ (S:=Int) (fun a_ k_=>(k_)) (fH v_s fm cJ) (fun a_=>(.inl ((v_s.aZ.length:Int)))) (ao hl) (fun k a x hx=>by
  unfold kC fH; exact bJ)
  (fun a=>by unfold kC; exact cI) a_
theorem uC {α : Type} (key : α→Int) (x : α) (l:List α) (a : α) : dp key (x::l) a=if key x < key a then x::dp key l a else if key x=key a then a::l else a::x::l:=by
 unfold dp
 by_cases h:key x < key a
 ·rw [if_pos h]
  have hd:decide (key x < key a)=true:=by simpa using h
  simp only [List.takeWhile_cons,hd,if_true,List.length_cons,List.take_succ_cons,List.getElem?_cons_succ,List.cons_append]
  generalize (l.takeWhile fun x=>decide (key x < key a)).length=K
  cases l[K]? with
  | none=>rfl
  | some y =>
   dsimp only
   split <;> rfl
 ·rw [if_neg h]
  have hd:decide (key x < key a)=false:=by simpa using h
  simp only [List.takeWhile_cons,hd,zf,if_false,List.length_nil,List.take_zero,List.nil_append,List.getElem?_cons_zero,Nat.zero_add]
  by_cases he:key x=key a
  ·rw [if_pos he]
   have hb:(key x==key a)=true:=by simpa using he
   simp [hb]
  ·rw [if_neg he]
   have hb:(key x==key a)=false:=by simpa using he
   simp [hb]
theorem rr {α : Type} (key : α→Int) (a : α) : ∀ l:List α,kP key l→(∃ x∈l,key x=key a)→(dp key l a).length=l.length
 | [],_,⟨x,hx,_⟩=>by cases hx
 | y::l,hs,⟨x,hx,he⟩=>by
  have hs':=List.pairwise_cons.1 hs
  rw [uC]
  split
  ·rename_i h
   rcases List.mem_cons.1 hx with rfl | hx
   ·omega
   ·rw [List.length_cons,List.length_cons,rr key a l hs'.2 ⟨x,hx,he⟩]
  ·split
   ·rfl
   ·rename_i h1 h2
    rcases List.mem_cons.1 hx with rfl | hx
    ·exact absurd he h2
    ·have:=hs'.1 x hx
     omega
theorem g8 {α : Type} (key : α→Int) (a : α) : ∀ l:List α,kP key l→kP key (dp key l a)
 | [],_=>List.pairwise_singleton _ _
 | y::l,hs=>by
  have hs':=List.pairwise_cons.1 hs
  rw [uC]
  split
  ·rename_i h
   refine List.pairwise_cons.2 ⟨fun x hx=>?_,g8 key a l hs'.2⟩
   rcases pQ hx with rfl | hx
   ·exact h
   ·exact hs'.1 x hx
  ·split
   ·rename_i h1 h2
    exact List.pairwise_cons.2 ⟨fun x hx=>by have:=hs'.1 x hx; omega,hs'.2⟩
   ·rename_i h1 h2
    refine List.pairwise_cons.2 ⟨fun x hx=>?_,hs⟩
    rcases List.mem_cons.1 hx with rfl | hx
    ·omega
    ·have:=hs'.1 x hx; omega
theorem Ef {α : Type} (key : α→Int) (a : α) (i:Int) : ∀ l:List α,(∃ x∈l,key x=i)→∃ x∈dp key l a,key x=i
 | [],⟨x,hx,_⟩=>by cases hx
 | y::l,⟨x,hx,he⟩=>by
  rw [uC]
  split
  ·rcases List.mem_cons.1 hx with rfl | hx
   ·exact ⟨x,List.mem_cons_self,he⟩
   ·obtain ⟨z,hz,hz2⟩:=Ef key a i l ⟨x,hx,he⟩
    exact ⟨z,List.mem_cons_of_mem _ hz,hz2⟩
  ·split
   ·rename_i h1 h2
    rcases List.mem_cons.1 hx with rfl | hx
    ·exact ⟨a,List.mem_cons_self,by omega⟩
    ·exact ⟨x,List.mem_cons_of_mem _ hx,he⟩
   ·exact ⟨x,List.mem_cons_of_mem _ hx,he⟩
theorem SzS.putIn {B:Nat} {s:aa} (h:SzS B s) (hs:kP aC.fId s.ar) {a:aC} (hi:∃ x∈s.ar,x.fId=a.fId) (ha:SzA B a) : SzS B { s with ar:=dp aC.fId s.ar a } :=
 ⟨h.conf,h.nodes,by show (dp _ _ _).length≤B; rw [rr _ _ _ hs hi]; exact h.apps,h.conts,h.slots,h.plans,fun x hx=>by
  rcases pQ hx with rfl | hx
  ·exact ha
  ·exact h.app x hx⟩
def WX (a:aV) (n:aW) : Int:=(nn a n).getD 0
theorem zW (a:aV) (n:aW) : nn a n=some (WX a n):=by
 have:∃ r,nn a n=some r:=by
  unfold nn
  simp only [cW,orB,zb]
  repeat' split
  all_goals exact ⟨_,rfl⟩
 obtain ⟨r,e⟩:=this
 unfold WX
 rw [e]
 rfl
def aa5 (a:aV) (n:aW) : Bool:=(tI a n).getD false
theorem Gx (a:aV) (n:aW) : tI a n=some (aa5 a n):=by
 have:∃ r,tI a n=some r:=by
  unfold tI
  simp only [zW,zb]
  repeat' split
  all_goals exact ⟨_,rfl⟩
 obtain ⟨r,e⟩:=this
 unfold aa5
 rw [e]
 rfl
theorem Gv {B:Nat} {s:aa} (h:SzS B s) (hB:B≤1000000) (q:ByteArray) (a:aV) : ∃ r,zT s q a=some r:=by
 obtain ⟨u,hu⟩:=fI h hB q a.aA
 have k2:=h.nodes.1
 unfold zT
 simp only [hu,cS,ob s _ _ h.conf (Nat.le_trans k2 hB),ic,zb]
 exact ⟨_,rfl⟩
theorem CB {B:Nat} {s:aa} (h:SzS B s) (hB:B≤1000000) (q:ByteArray) (k u:Int) : ∃ r,vm s q k u=some r:=by
 obtain ⟨v,hv⟩:=C6 h hB q k u
 have k2:=h.nodes.1
 unfold vm
 simp only [hv,Qq s _ _ h.conf (Nat.le_trans k2 hB),ic,zb]
 exact ⟨_,rfl⟩
theorem SzS.slot {B:Nat} {s:aa} (h:SzS B s) {l:List bA} (hl:l.length≤B) : SzS B { s with aZ:=l } := ⟨h.conf,h.nodes,h.apps,h.conts,hl,h.plans,h.app⟩
theorem SzS.cont {B:Nat} {s:aa} (h:SzS B s) {l:List an} (hl:l.length≤B) : SzS B { s with ac:=l } := ⟨h.conf,h.nodes,h.apps,hl,h.slots,h.plans,h.app⟩
theorem SzS.seq {B:Nat} {s:aa} (h:SzS B s) (n:Int) : SzS B { s with sw:=n } := ⟨h.conf,h.nodes,h.apps,h.conts,h.slots,h.plans,h.app⟩
theorem wU (s:aa) (n:Int) (hl:s.aZ.length≤1000000) : d6 s n=some { s with aZ:=s.aZ.filter fun c=>c.bM != n } := by
 unfold d6
 dsimp only
 have e:eS s n=fun acc x=>if (x.bM != n)=true then (aX acc [id' x]).map (fun a=>(.inl a:List bA⊕(List bA×Int))) else some (.inl acc):=by
  funext acc x
  unfold eS
  dsimp only [id']
  split
  ·cases aX acc [x] <;> rfl
  ·rfl
 rw [wD s n [] hl,e,cd (fun c:bA=>c.bM != n) id' _ s.aZ [] (by simpa using hl)]
 simp only [zb,List.nil_append,td]
theorem Ob (s:aa) (n:Int) (hl:s.aZ.length≤1000000) : ∃ r,zP s n=some r:=by
 unfold zP
 dsimp only
 rw [zO s n () hl,show jN s n=fun (_:Unit) x=>if (x.bM==n)=true then some (.inr (.inr (x,true))) else some (.inl ()) from rfl,
  kU (fun x:bA=>x.bM==n) (fun x=>(Sum.inr (x,true) : Int⊕bA×Bool)) (.inl (s.aZ.length:Int)) s.aZ]
 simp only [zb]
 cases s.aZ.find? fun x=>x.bM==n <;> exact ⟨_,rfl⟩
theorem La (s:aa) (a p:Int) (hl:s.aZ.length≤1000000) : ∃ r,wa s a p=some r:=by
 unfold wa
 dsimp only
 rw [yf s a p () hl]
 obtain ⟨r,e1,_⟩:=a7 (g:=fH s a p) (fin:=fun _=>(.inl (s.aZ.length:Int))) (fun _ _=>True) (fun _=>True) s.aZ 0 () (fun j b x hx _=>by
  unfold fH
  simp only [cW,zb]
  split <;> exact ⟨_,rfl,fun _ _=>trivial,fun _ _=>trivial⟩) (fun _ _=>trivial) trivial
 rw [e1]
 simp only [zb]
 cases r <;> exact ⟨_,rfl⟩
theorem Ol {B:Nat} {s:aa} (h:SzS B s) (hB:B + 1≤1000000) (x:bA) : ∃ r,oq s x=some r∧SzS (B + 1) r∧r.ar=s.ar:=by
 have k1:=h.slots
 obtain ⟨K,hK1,hK2⟩:=n5 s.aZ (by omega) (f:=l5 s x) (fun i y hy=>by
  have hi:=(zg.1 hy).1
  refine ⟨decide (y.bM < x.bM),?_⟩
  unfold l5
  simp only [bL hy,if_true,aH hy,zb,bb hi (show s.aZ.length≤1000000 by omega)]) (by unfold l5; simp only [bF,zf,if_false,zb])
 unfold oq
 dsimp only
 rw [hK1]
 simp only [zb]
 rw [lB hK2]
 simp only [zb]
 rw [aJ (by simp; omega)]
 simp only [zb]
 rw [aJ (by simp; omega)]
 simp only [zb]
 rw [i6 hK2]
 simp only [zb]
 rw [aJ (by simp; omega)]
 exact ⟨_,rfl,(h.mono (Nat.le_succ _)).slot (by simp; omega),rfl⟩
theorem zS {B:Nat} {s:aa} (h:SzS B s) (hB:B + 2≤1000000) (n:aW) {a:aC} (ha:SzA B a) (x:aV) : ∃ r,jO s n a x=some r∧SzS (B + 2) r.1∧(kP aC.fId s.ar→kP aC.fId r.1.ar):=by
 have k1:=h.conts; have k2:=h.apps; have k3:=ha.asks; have k4:=ha.grants
 obtain ⟨t,t1,t2⟩:=Qf a.bN x.bD (by omega)
 unfold jO
 simp only [t1,zb]
 generalize hc:(⟨_,a.fId,n.fId,x.cH,x.bD,n.aA,(a.dG==1),0⟩ : an)=c
 have hs:SzS B { s with sw:=i64.wrap (s.sw + 1) } := h.seq _
 generalize hS:({ s with sw:=i64.wrap (s.sw + 1) } : aa)=S at hs ⊢
 have hcl:S.ac=s.ac:=by rw [← hS]
 have hal:S.ar=s.ar:=by rw [← hS]
 have fin:∀ b:aC,SzA (B + 1) b→∃ r,(Option.bind (ah (iL S c) ab 0) fun r11=>Option.bind (hiO s.ac r11) fun b12=>Option.bind (aX ([] : List an) b12) fun b13=>Option.bind (aX b13 [c]) fun b14=>Option.bind (loO s.ac r11) fun b15=>Option.bind (aX b14 b15) fun b16=>Option.bind (dR { s with ac:=b16,sw:=i64.wrap (s.sw + 1) } b) fun c17=>some (c17,c))=some r∧SzS (B + 2) r.1∧(kP aC.fId s.ar→kP aC.fId r.1.ar):=by
  intro b hb
  obtain ⟨K,hK1,hK2⟩:=n5 s.ac (by omega) (f:=iL S c) (fun i y hy=>by
   have hi:=(zg.1 hy).1
   refine ⟨decide (y.fId < c.fId),?_⟩
   unfold iL
   simp only [hcl,bL hy,if_true,aH hy,zb,bb hi (show s.ac.length≤1000000 by omega)]) (by unfold iL; simp only [hcl,bF,zf,if_false,zb])
  rw [hK1]
  simp only [zb]
  rw [lB hK2]
  simp only [zb]
  rw [aJ (by simp; omega)]
  simp only [zb]
  rw [aJ (by simp; omega)]
  simp only [zb]
  rw [i6 hK2]
  simp only [zb]
  rw [aJ (by simp; omega)]
  simp only [zb]
  rw [kT _ _ (by show s.ar.length + 1≤_; omega)]
  refine ⟨_,rfl,?_⟩
  have hlen:(([] ++ s.ac.take K ++ [c])++s.ac.drop K).length≤B + 1:=by simp; omega
  have h2:SzS (B + 1) { s with ac:=([] ++ s.ac.take K ++ [c])++s.ac.drop K,sw:=i64.wrap (s.sw + 1) } := by
   have hm:=h.mono (Nat.le_succ B)
   exact ⟨hm.conf,hm.nodes,hm.apps,hlen,hm.slots,hm.plans,hm.app⟩
  exact ⟨h2.put (hb.mono (Nat.le_succ _)),fun hs=>g8 _ _ _ hs⟩
 have ha1:=ha.mono (Nat.le_succ B)
 split
 ·simp only [zb]
  refine fin _ ?_
  exact ⟨⟨ha1.queue.1,h.nodes.2.2.1.1,h.nodes.2.2.1.2,ha1.queue.2.2.2⟩,Nat.zero_le _,ha1.grants,ha1.kills,ha1.told,ha1.lost⟩
 ·rw [aJ (by simp; omega)]
  simp only [zb]
  rw [aJ (by simp; omega)]
  simp only [zb]
  refine fin _ ?_
  exact ⟨ha1.queue,by show t.1.length≤_; omega,by simp; omega,ha1.kills,ha1.told,ha1.lost⟩
def Az (B:Nat) (s t:aa) : Prop:=SzS B t∧kP aC.fId t.ar∧∀ i,(∃ x∈s.ar,x.fId=i)→∃ x∈t.ar,x.fId=i
theorem Ry {B:Nat} {s:aa} (h:SzS B s) (hs:kP aC.fId s.ar) (hB:B + 2≤1000000) (n:aW) {a:aC} (hi:∃ x∈s.ar,x.fId=a.fId) (ha:SzA B a) (x:aV) (first:Bool) : ∃ r,rg s n a x first=some r∧SzS (B + 2) r.1∧kP aC.fId r.1.ar∧(r.2.1=0→Az B s r.1):=by
 have k1:=h.apps; have k2:=h.slots; have k3:=ha.asks; have k4:=h.conts; have k5:=h.nodes.1
 have stay:Az B s s:=⟨h,hs,fun _ e=>e⟩
 have h2:=h.mono (show B≤B + 2 by omega)
 obtain ⟨d,hd⟩:=Gv h (by omega) a.bQ x
 obtain ⟨m,hm,hm2⟩:=Qg a.bN x.bD (by omega)
 obtain ⟨o,ho⟩:=CH h (by omega) a.bQ ha.queue.1 n.aA x.cH
 obtain ⟨g,hg,hg2,hg3⟩:=zS h hB n ha x
 obtain ⟨p,hp⟩:=La s a.fId x.bD (by omega)
 obtain ⟨q,hq,hq2,hq3⟩:=Ol h (by omega) (⟨n.fId,a.fId,x.bD⟩ : bA)
 have hput:∃ t,dR s { a with bN:=m } = some t∧Az B s t:=by
  refine ⟨_,kT s _ (by omega),h.putIn hs hi ⟨ha.queue,by show m.length≤B; omega,ha.grants,ha.kills,ha.told,ha.lost⟩,g8 _ _ _ hs,fun i e=>Ef _ _ i _ e⟩
 obtain ⟨t,ht,ht2⟩:=hput
 unfold rg
 simp only [hd,zW,Gx,ic,orB,cW,zb,hm,ht,ho,hg,hp,hq,F5 s n.fId (show s.aD.length≤1000000 by omega) (show s.ac.length≤1000000 by omega)]
 split
 ·exact ⟨_,rfl,h2,hs,fun _=>stay⟩
 split
 ·split
  ·exact ⟨_,rfl,ht2.1.mono (by omega),ht2.2.1,fun _=>ht2⟩
  ·exact ⟨_,rfl,h2,hs,fun _=>stay⟩
 split
 ·exact ⟨_,rfl,h2,hs,fun _=>stay⟩
 split
 ·exact ⟨_,rfl,hg2,hg3 hs,fun e=>absurd (show (1:Int)=0 from e) (by decide)⟩
 split
 ·exact ⟨_,rfl,hq2.mono (by omega),by show kP _ q.ar; rw [hq3]; exact hs,fun e=>absurd (show (2:Int)=0 from e) (by decide)⟩
 ·exact ⟨_,rfl,h2,hs,fun _=>stay⟩
theorem Xe {s:aa} {id:Int} (h:∃ x∈s.ar,x.fId=id) : cj s id∈s.ar∧(cj s id).fId=id:=by
 obtain ⟨x,hx,e⟩:=h
 unfold cj
 cases hf:s.ar.find? fun c=>c.fId==id with
 | none =>
  have:=List.find?_eq_none.1 hf x hx
  simp [e] at this
 | some a =>
  have h2:=List.find?_some hf
  exact ⟨List.mem_of_find?_eq_some hf,by simpa using h2⟩
def AB (B:Nat) (t:aa) : Prop:=SzS (B + 2) t∧kP aC.fId t.ar
theorem TH {B:Nat} {s:aa} (h:SzS B s) (hs:kP aC.fId s.ar) (hB:B + 2≤1000000) (n:aW) (l:List aV) (a:aC) (hl:a.bN=l) (hl2:l.length≤B) (ids:List Int) (hI:∀ i∈ids,∃ x∈s.ar,x.fId=i) (j:Nat) (id:Int) (hj:ids[j]? = some id) (first:Bool) : ∃ r,ah (dX a (j:Int) ids n first) ab (s,0)=some r∧(match r with | .inl m=>Az B s m.1 | .inr m=>AB B m.1):=by
 refine aM (fun st=>Az B s st.1∧∃ k:Nat,st.2=(k:Int)∧k≤l.length) (fun st=>l.length - st.2.toNat) _ (fun st ⟨⟨q1,q2,q3⟩,k,h1,h2⟩=>?_) ab (s,0) ⟨⟨h,hs,fun _ e=>e⟩,0,rfl,Nat.zero_le _⟩ (by have:=ao (show l.length≤1000000 by omega); omega)
 have k1:=q1.apps
 unfold dX
 simp only [h1,hl]
 by_cases hlt:k < l.length
 ·have g1:l[k]? = some l[k]:=zq hlt
  have g2:=Xe (q3 id (hI id (List.mem_of_getElem? hj)))
  obtain ⟨r,r1,r2,r3,r4⟩:=Ry q1 q2 hB n (a:=cj st.1 id) ⟨_,g2.1,rfl⟩ (q1.get id) l[k] first
  simp only [bL g1,if_true,aH g1,aH hj,ep st.1 id (by omega),r1,zb,bb hlt (show l.length≤1000000 by omega)]
  split
  ·exact .inr ⟨_,rfl,r2,r3⟩
  ·rename_i hne
   have h0:r.2.1=0:=by simpa using hne
   obtain ⟨t1,t2,t3⟩:=r4 h0
   exact .inl ⟨_,rfl,⟨⟨t1,t2,fun i e=>t3 i (q3 i e)⟩,k + 1,rfl,hlt⟩,by simp only [zt]; omega⟩
 ·have:k=l.length:=by omega
  subst this
  simp only [bF,zf,if_false]
  exact .inr ⟨_,rfl,q1,q2,q3⟩
theorem TJ {B:Nat} {s:aa} (h:SzS B s) (hs:kP aC.fId s.ar) (hB:B + 2≤1000000) (n:aW) (ids:List Int) (hI:∀ i∈ids,∃ x∈s.ar,x.fId=i) (hI2:ids.length≤1000000) (lv:List ByteArray) (i:Nat) (q:ByteArray) (hi:lv[i]? = some q) (first:Bool) : ∃ r,ah (dY ids (i:Int) lv n first) ab (s,0)=some r∧(match r with | .inl m=>Az B s m.1 | .inr m=>AB B m.1):=by
 refine aM (fun st=>Az B s st.1∧∃ k:Nat,st.2=(k:Int)∧k≤ids.length) (fun st=>ids.length - st.2.toNat) _ (fun st ⟨⟨q1,q2,q3⟩,k,h1,h2⟩=>?_) ab (s,0) ⟨⟨h,hs,fun _ e=>e⟩,0,rfl,Nat.zero_le _⟩ (by have:=ao hI2; omega)
 have k1:=q1.apps
 unfold dY
 simp only [h1]
 by_cases hlt:k < ids.length
 ·have g1:ids[k]? = some ids[k]:=zq hlt
  obtain ⟨m,hm⟩:=CB q1 (by omega) q n.aA (cj st.1 ids[k]).de
  simp only [bL g1,if_true,aH g1,aH hi,ep st.1 _ (show st.1.ar.length≤1000000 by omega),hm,zb,bb hlt hI2]
  split
  ·exact .inl ⟨_,rfl,⟨⟨q1,q2,q3⟩,k + 1,rfl,hlt⟩,by simp only [zt]; omega⟩
  ·have ha:=(q1.get ids[k]).asks
   obtain ⟨r,r1,r2⟩:=TH q1 q2 hB n _ (cj st.1 ids[k]) rfl ha ids (fun i hi=>q3 i (hI i hi)) k _ g1 first
   rw [r1]
   simp only [zb]
   cases r with
   | inr m=>exact .inr ⟨_,rfl,r2⟩
   | inl m =>
    obtain ⟨t1,t2,t3⟩:=r2
    exact .inl ⟨_,rfl,⟨⟨t1,t2,fun i e=>t3 i (q3 i e)⟩,k + 1,rfl,hlt⟩,by simp only [zt]; omega⟩
 ·have:k=ids.length:=by omega
  subst this
  simp only [bF,zf,if_false]
  exact .inr ⟨_,rfl,q1,q2,q3⟩
theorem zQ {B:Nat} {s:aa} (h:SzS B s) (hs:kP aC.fId s.ar) (hB:B + 2≤1000000) (n:aW) (first:Bool) : ∃ r,dz s n first=some r∧AB B r.1∧(r.2.1=0→SzS B r.1∨AB B r.1):=by
 obtain ⟨lv,h1,h2⟩:=Ht h h.conf.deep (by omega) n.aA
 have hl:lv.length≤1000000:=by omega
 unfold dz
 simp only [h1,zb]
 obtain ⟨r,r1,r2⟩:=aM (f:=dZ lv n first) (fun st=>Az B s st.1∧∃ k:Nat,st.2=(k:Int)∧k≤lv.length) (fun st=>lv.length - st.2.toNat) (fun r=>match r with | .inl m=>Az B s m.1 | .inr m=>AB B m.1) (fun st ⟨⟨q1,q2,q3⟩,k,h1,h2⟩=>by
  have k1:=q1.apps
  unfold dZ
  simp only [h1]
  by_cases hlt:k < lv.length
  ·have g1:lv[k]? = some lv[k]:=zq hlt
   obtain ⟨ids,a1,a2,a3⟩:=Ow q1 (by omega) lv[k]
   obtain ⟨r,r1,r2⟩:=TJ q1 q2 hB n ids a3 (by omega) lv k _ g1 first
   simp only [bL g1,if_true,aH g1,a1,r1,zb,bb hlt hl]
   cases r with
   | inr m=>exact .inr ⟨_,rfl,r2⟩
   | inl m =>
    obtain ⟨t1,t2,t3⟩:=r2
    exact .inl ⟨_,rfl,⟨⟨t1,t2,fun i e=>t3 i (q3 i e)⟩,k + 1,rfl,hlt⟩,by simp only [zt]; omega⟩
  ·have:k=lv.length:=by omega
   subst this
   simp only [bF,zf,if_false]
   exact .inr ⟨_,rfl,q1,q2,q3⟩) ab (s,0) ⟨⟨h,hs,fun _ e=>e⟩,0,rfl,Nat.zero_le _⟩ (by have:=ao hl; omega)
 rw [r1]
 simp only [zb]
 cases r with
 | inr m=>exact ⟨_,rfl,r2,fun _=>.inr r2⟩
 | inl m=>exact ⟨_,rfl,⟨r2.1.mono (by omega),r2.2.1⟩,fun _=>.inl r2.1⟩
theorem AB.mono {B C:Nat} {t:aa} (h:AB B t) (hc:B≤C) : AB C t:=⟨h.1.mono (by omega),h.2⟩
theorem Og {B:Nat} {s:aa} (h:SzS B s) (hs:kP aC.fId s.ar) (hB:B + 2≤1000000) (n:aW) (x:bA) : ∃ r,om s n x=some r∧AB B r.1∧(r.2.2.2=false→SzS B r.1):=by
 have k1:=h.apps; have k2:=h.slots; have k4:=h.conts; have k5:=h.nodes.1
 have ha:=h.get x.bC
 have k3:=ha.asks
 have h2:=h.mono (show B≤B + 2 by omega)
 have hn:SzS B { s with aZ:=s.aZ.filter fun c=>c.bM != n.fId } := h.slot (Nat.le_trans (List.length_filter_le _ _) k2)
 obtain ⟨d,hd⟩:=Gv h (by omega) (cj s x.bC).bQ (Xf (cj s x.bC).bN x.bD)
 obtain ⟨m,hm⟩:=CB h (by omega) (cj s x.bC).bQ n.aA (cj s x.bC).de
 obtain ⟨o,ho⟩:=CH h (by omega) (cj s x.bC).bQ ha.queue.1 n.aA (Xf (cj s x.bC).bN x.bD).cH
 obtain ⟨g,hg,hg2,hg3⟩:=zS hn hB n ha (Xf (cj s x.bC).bN x.bD)
 unfold om
 simp only [ep s x.bC (show s.ar.length≤1000000 by omega),UT (cj s x.bC).bN x.bD (show (cj s x.bC).bN.length≤1000000 by omega),fJ,hd,hm,ho,Gx,ic,wU s n.fId (show s.aZ.length≤1000000 by omega),F5 s n.fId (show s.aD.length≤1000000 by omega) (show s.ac.length≤1000000 by omega),orB,cW,zb]
 split
 ·exact ⟨_,rfl,⟨hn.mono (by omega),hs⟩,fun _=>hn⟩
 split
 ·exact ⟨_,rfl,⟨h2,hs⟩,fun _=>h⟩
 ·rw [hg]
  exact ⟨_,rfl,⟨hg2,hg3 hs⟩,fun e=>by cases e⟩
theorem RA {B:Nat} {s:aa} (h:SzS B s) (hs:kP aC.fId s.ar) (hB:B + 6≤1000000) (id:Int) : ∃ r,rh s id=some r∧AB (B + 4) r.1:=by
 have k1:=h.nodes.1; have k2:=h.slots
 have two:∀ (t:aa),AB B t→∃ r,(Option.bind (dz t (fa s id) true) fun c7=>if (c7.2.1 != 0)=true then some (c7.1,c7.2.1,c7.2.2) else Option.bind (dz c7.1 (fa s id) false) fun c8=>some c8)=some r∧AB (B + 4) r.1:=fun t ⟨t1,t2⟩=>by
  obtain ⟨u,u1,⟨u2,u3⟩,_⟩:=zQ t1 t2 (by omega) (fa s id) true
  rw [u1]
  simp only [zb]
  split
  ·exact ⟨_,rfl,u2.mono (by omega),u3⟩
  ·obtain ⟨v,v1,⟨v2,v3⟩,_⟩:=zQ u2 u3 (by omega) (fa s id) false
   rw [v1]
   exact ⟨_,rfl,v2.mono (by omega),v3⟩
 obtain ⟨c,hc⟩:=Ob s id (by omega)
 unfold rh
 simp only [na s id (show s.aD.length≤1000000 by omega),orB,hc,zb]
 split
 ·exact ⟨_,rfl,h.mono (by omega),hs⟩
 split
 ·obtain ⟨k,k1,k2,_⟩:=Og h hs (by omega) (fa s id) c.1
  rw [k1]
  simp only [zb]
  split
  ·exact ⟨_,rfl,k2.mono (by omega)⟩
  ·exact two _ k2
 ·exact two _ ⟨h.mono (by omega),hs⟩
theorem Oo {B:Nat} {s:aa} (h:SzS B s) (hs:kP aC.fId s.ar) (hB:B + 100≤1000000) (id:Int) : ∃ r,l6 s id=some r∧AB (B + 24) r.1∧r.2.length≤3:=by
 unfold l6
 dsimp only
 obtain ⟨r,r1,r2⟩:=aM (f:=eT id) (fun st=>∃ k:Nat,st.2.2=(k:Int)∧k≤3∧st.2.1.length=k∧SzS (B + 6 * k) st.1∧kP aC.fId st.1.ar) (fun st=>3 - st.2.2.toNat) (fun r=>AB (B + 24) r.1∧r.2.1.length≤3) (fun st ⟨k,h1,h2,h3,h4,h5⟩=>by
  unfold eT
  simp only [h1]
  by_cases hlt:k < 3
  ·have hd:decide ((k:Int) < 3)=true:=by simp; omega
   obtain ⟨c,c1,c2,c3⟩:=RA h4 h5 (by omega) id
   simp only [hd,if_true,c1,zb]
   split
   ·exact .inr ⟨_,rfl,⟨c2.mono (by omega),c3⟩,by show st.2.1.length≤3; omega⟩
   ·rw [aJ (by simp; omega)]
    simp only [zb,bb hlt (show 3≤1000000 by omega)]
    exact .inl ⟨_,rfl,⟨k + 1,rfl,hlt,by simp; omega,c2.mono (by omega),c3⟩,by simp only [zt]; omega⟩
  ·have hd:decide ((k:Int) < 3)=false:=by simp; omega
   simp only [hd,zf,if_false]
   exact .inr ⟨_,rfl,⟨h4.mono (by omega),h5⟩,by show st.2.1.length≤3; omega⟩) ab (s,[],0) ⟨0,rfl,by omega,rfl,h.mono (by omega),hs⟩ (by show 3 - (0:Int).toNat < ab; unfold ab; omega)
 rw [r1]
 exact ⟨_,rfl,r2⟩
theorem mR {σ τ : Type} {f : σ→Option (σ⊕τ)} (I : σ→Prop) (Q : τ→Prop) (step:∀ s r,I s→f s=some r→match r with | .inl s'=>I s' | .inr t=>Q t) : ∀ (n:Nat) (s : σ) (t : τ),I s→ah f n s=some t→Q t
 | 0,s,t,_,h=>by cases h
 | n + 1,s,t,hi,h=>by
  simp only [ah] at h
  cases hf:f s with
  | none=>rw [hf] at h; cases h
  | some r =>
   have:=step s r hi hf
   rw [hf] at h
   cases r with
   | inl s'=>exact mR I Q step n s' t this h
   | inr t'=>injection h with h; subst h; exact this
theorem zc {α : Type} {l m z:List α} (h:aX l m=some z) : z.length=l.length + m.length∧z=l++m:=by
 unfold aX at h
 split at h
 ·injection h with h; subst h; simp
 ·cases h
theorem wZ {s t:aa} {a:aC} (h:dR s a=some t) : t.ac=s.ac:=by
 unfold dR at h
 dsimp only at h
 obtain ⟨_,_,h⟩:=bv h
 obtain ⟨_,_,h⟩:=bv h
 obtain ⟨_,_,h⟩:=bv h
 obtain ⟨_,_,h⟩:=bv h
 obtain ⟨_,_,h⟩:=bv h
 obtain ⟨_,_,h⟩:=bv h
 obtain ⟨_,_,h⟩:=bv h
 obtain ⟨_,_,h⟩:=bv h
 injection h with h
 subst h
 rfl
theorem sS {s t:aa} {n:Int} (h:d6 s n=some t) : t.ac=s.ac:=by
 unfold d6 at h
 dsimp only at h
 obtain ⟨_,_,h⟩:=bv h
 injection h with h
 subst h
 rfl
theorem Gu {s t:aa} {x:bA} (h:oq s x=some t) : t.ac=s.ac:=by
 unfold oq at h
 dsimp only at h
 obtain ⟨_,_,h⟩:=bv h
 obtain ⟨_,_,h⟩:=bv h
 obtain ⟨_,_,h⟩:=bv h
 obtain ⟨_,_,h⟩:=bv h
 obtain ⟨_,_,h⟩:=bv h
 obtain ⟨_,_,h⟩:=bv h
 injection h with h
 subst h
 rfl
theorem MC {α : Type} {l a b:List α} {k:Int} (h1:hiO l k=some a) (h2:loO l k=some b) : a.length + b.length=l.length:=by
 unfold hiO at h1
 unfold loO at h2
 by_cases hc : 0≤k∧k.toNat≤l.length
 ·rw [if_pos hc] at h1 h2
  injection h1 with h1
  injection h2 with h2
  subst h1 h2
  rw [List.length_take,List.length_drop]
  omega
 ·rw [if_neg hc] at h1
  cases h1
theorem tX {s:aa} {n:aW} {a:aC} {x:aV} {r:aa×an} (h:jO s n a x=some r) : r.1.ac.length≤s.ac.length + 1:=by
 unfold jO at h
 dsimp only at h
 obtain ⟨_,_,h⟩:=bv h
 obtain ⟨_,_,h⟩:=bv h
 obtain ⟨_,_,h⟩:=bv h
 obtain ⟨b12,h12,h⟩:=bv h
 obtain ⟨b13,h13,h⟩:=bv h
 obtain ⟨b14,h14,h⟩:=bv h
 obtain ⟨b15,h15,h⟩:=bv h
 obtain ⟨b16,h16,h⟩:=bv h
 obtain ⟨c17,h17,h⟩:=bv h
 injection h with h
 subst h
 have e:=wZ h17
 have k1:=MC h12 h15
 have k2:=(zc h13).1
 have k3:=(zc h14).1
 have k4:=(zc h16).1
 show c17.ac.length≤_
 rw [e]
 show b16.length≤_
 simp only [List.length_nil,List.length_singleton] at k2 k3
 omega
theorem Hr {s:aa} {n:aW} {a:aC} {x:aV} {f:Bool} {r:aa×Int×an} (h:rg s n a x f=some r) : r.1.ac.length≤s.ac.length + 1∧(r.2.1=0→r.1.ac.length≤s.ac.length):=by
 unfold rg at h
 dsimp only at h
 obtain ⟨_,_,h⟩:=bv h
 obtain ⟨_,_,h⟩:=bv h
 obtain ⟨_,_,h⟩:=bv h
 obtain ⟨_,_,h⟩:=bv h
 split at h
 ·injection h with h; subst h; exact ⟨Nat.le_succ _,fun _=>Nat.le_refl _⟩
 obtain ⟨_,_,h⟩:=bv h
 split at h
 ·obtain ⟨⟨a2,s2⟩,h1,h⟩:=bv h
  injection h with h
  subst h
  have:s2.ac=s.ac:=by
   split at h1
   ·obtain ⟨_,_,h1⟩:=bv h1
    obtain ⟨c,h2,h1⟩:=bv h1
    injection h1 with h1
    injection h1 with _ h1
    subst h1
    exact wZ h2
   ·injection h1 with h1
    injection h1 with _ h1
    subst h1
    rfl
  show s2.ac.length≤_∧(_→s2.ac.length≤_)
  rw [this]
  exact ⟨Nat.le_succ _,fun _=>Nat.le_refl _⟩
 obtain ⟨_,_,h⟩:=bv h
 split at h
 ·injection h with h; subst h; exact ⟨Nat.le_succ _,fun _=>Nat.le_refl _⟩
 obtain ⟨_,_,h⟩:=bv h
 obtain ⟨_,_,h⟩:=bv h
 split at h
 ·obtain ⟨g,h1,h⟩:=bv h
  injection h with h
  subst h
  exact ⟨tX h1,fun e=>absurd (show (1:Int)=0 from e) (by decide)⟩
 obtain ⟨_,_,h⟩:=bv h
 split at h
 ·obtain ⟨g,h1,h⟩:=bv h
  injection h with h
  subst h
  show g.ac.length≤_∧(_→g.ac.length≤_)
  rw [Gu h1]
  exact ⟨Nat.le_succ _,fun _=>Nat.le_refl _⟩
 ·injection h with h; subst h; exact ⟨Nat.le_succ _,fun _=>Nat.le_refl _⟩
def Gr (s:aa) (r:(aa×Int)⊕(aa×Int×an)) : Prop:=match r with | .inl m=>m.1.ac.length≤s.ac.length | .inr m=>m.1.ac.length≤s.ac.length + 1
theorem JJ {s0:aa} {a:aC} {j:Int} {ids:List Int} {n:aW} {f:Bool} {k:Nat} {st:aa×Int} {r:(aa×Int)⊕(aa×Int×an)} (hst:st.1.ac.length≤s0.ac.length) (h:ah (dX a j ids n f) k st=some r) : Gr s0 r:=by
 refine mR (fun st=>st.1.ac.length≤s0.ac.length) (Gr s0) (fun st r hi h=>?_) k st r hst h
 unfold dX at h
 dsimp only at h
 split at h
 ·obtain ⟨_,_,h⟩:=bv h
  obtain ⟨_,_,h⟩:=bv h
  obtain ⟨_,_,h⟩:=bv h
  obtain ⟨c,hc,h⟩:=bv h
  have hk:=Hr hc
  split at h
  ·injection h with h
   subst h
   exact Nat.le_trans hk.1 (Nat.succ_le_succ hi)
  ·rename_i hz
   injection h with h
   subst h
   exact Nat.le_trans (hk.2 (by simpa using hz)) hi
 ·injection h with h
  subst h
  exact hi
theorem JK {s0:aa} {ids:List Int} {i:Int} {lv:List ByteArray} {n:aW} {f:Bool} {k:Nat} {st:aa×Int} {r:(aa×Int)⊕(aa×Int×an)} (hst:st.1.ac.length≤s0.ac.length) (h:ah (dY ids i lv n f) k st=some r) : Gr s0 r:=by
 refine mR (fun st=>st.1.ac.length≤s0.ac.length) (Gr s0) (fun st r hi h=>?_) k st r hst h
 unfold dY at h
 dsimp only at h
 split at h
 ·obtain ⟨_,_,h⟩:=bv h
  obtain ⟨_,_,h⟩:=bv h
  obtain ⟨_,_,h⟩:=bv h
  obtain ⟨_,_,h⟩:=bv h
  split at h
  ·injection h with h
   subst h
   exact hi
  ·obtain ⟨m,hm,h⟩:=bv h
   have hg:=JJ (s0:=s0) (st:=(st.1,0)) hi hm
   cases m with
   | inr m=>injection h with h; subst h; exact hg
   | inl m=>injection h with h; subst h; exact hg
 ·injection h with h
  subst h
  exact hi
theorem tW {s:aa} {n:aW} {f:Bool} {r:aa×Int×an} (h:dz s n f=some r) : r.1.ac.length≤s.ac.length + 1:=by
 unfold dz at h
 dsimp only at h
 obtain ⟨lv,_,h⟩:=bv h
 obtain ⟨m,hm,h⟩:=bv h
 have hg:Gr s m:=by
  refine mR (f:=dZ lv n f) (fun st=>st.1.ac.length≤s.ac.length) (Gr s) (fun st r hi h=>?_) _ (s,0) m (Nat.le_refl _) hm
  unfold dZ at h
  dsimp only at h
  split at h
  ·obtain ⟨_,_,h⟩:=bv h
   obtain ⟨_,_,h⟩:=bv h
   obtain ⟨m,hm,h⟩:=bv h
   have hg:=JK (s0:=s) (st:=(st.1,0)) hi hm
   cases m with
   | inr m=>injection h with h; subst h; exact hg
   | inl m=>injection h with h; subst h; exact hg
  ·injection h with h
   subst h
   exact hi
 cases m with
 | inr m=>injection h with h; subst h; exact hg
 | inl m=>injection h with h; subst h; exact Nat.le_succ_of_le hg
theorem Gs {s:aa} {n:aW} {x:bA} {r:aa×Int×an×Bool} (h:om s n x=some r) : r.1.ac.length≤s.ac.length + 1:=by
 unfold om at h
 dsimp only at h
 obtain ⟨_,_,h⟩:=bv h
 obtain ⟨_,_,h⟩:=bv h
 obtain ⟨_,_,h⟩:=bv h
 obtain ⟨_,_,h⟩:=bv h
 obtain ⟨_,_,h⟩:=bv h
 obtain ⟨_,_,h⟩:=bv h
 obtain ⟨_,_,h⟩:=bv h
 obtain ⟨_,_,h⟩:=bv h
 split at h
 ·obtain ⟨c,hc,h⟩:=bv h
  injection h with h
  subst h
  show c.ac.length≤_
  rw [sS hc]
  exact Nat.le_succ _
 ·obtain ⟨_,_,h⟩:=bv h
  obtain ⟨_,_,h⟩:=bv h
  obtain ⟨_,_,h⟩:=bv h
  split at h
  ·injection h with h
   subst h
   exact Nat.le_succ _
  ·obtain ⟨c,hc,h⟩:=bv h
   obtain ⟨g,hg,h⟩:=bv h
   injection h with h
   subst h
   have:=tX hg
   rw [sS hc] at this
   exact this
theorem Hs {s:aa} {id:Int} {r:aa×Int×an} (h:rh s id=some r) : r.1.ac.length≤s.ac.length + 3:=by
 unfold rh at h
 dsimp only at h
 obtain ⟨nd,_,h⟩:=bv h
 obtain ⟨_,_,h⟩:=bv h
 obtain ⟨_,_,h⟩:=bv h
 obtain ⟨_,_,h⟩:=bv h
 have two:∀ {t:aa} {n:aW},(Option.bind (dz t n true) fun c7=>if (c7.2.1 != 0)=true then some (c7.1,c7.2.1,c7.2.2) else Option.bind (dz c7.1 n false) fun c8=>some c8)=some r→r.1.ac.length≤t.ac.length + 2:=by
  intro t n h
  obtain ⟨c,hc,h⟩:=bv h
  have k1:=tW hc
  split at h
  ·injection h with h
   subst h
   exact Nat.le_succ_of_le k1
  ·obtain ⟨d,hd,h⟩:=bv h
   injection h with h
   subst h
   have k2:=tW hd
   omega
 split at h
 ·injection h with h
  subst h
  exact Nat.le_add_right _ _
 obtain ⟨c,hc,h⟩:=bv h
 split at h
 ·obtain ⟨k,hk,h⟩:=bv h
  have k1:=Gs hk
  split at h
  ·injection h with h
   subst h
   exact Nat.le_trans k1 (by omega)
  ·have:=two h
   omega
 ·have:=two h
  omega
theorem Gw {s:aa} {id:Int} {r:aa×List an} (h:l6 s id=some r) : r.1.ac.length≤s.ac.length + 9:=by
 unfold l6 at h
 dsimp only at h
 obtain ⟨m,hm,h⟩:=bv h
 injection h with h
 subst h
 refine mR (f:=eT id) (fun st=>∃ k:Nat,st.2.2=(k:Int)∧k≤3∧st.1.ac.length≤s.ac.length + 3 * k) (fun q=>q.1.ac.length≤s.ac.length + 9) (fun st r ⟨k,h1,h2,h3⟩ h=>?_) _ (s,[],0) m ⟨0,rfl,by omega,by simp⟩ hm
 unfold eT at h
 dsimp only at h
 split at h
 ·rename_i hlt
  rw [h1] at hlt
  have hlt:k < 3:=by have:=zd hlt; omega
  obtain ⟨c,hc,h⟩:=bv h
  have k1:=Hs hc
  split at h
  ·injection h with h
   subst h
   show c.1.ac.length≤_
   omega
  ·obtain ⟨l,hl,h⟩:=bv h
   injection h with h
   subst h
   refine ⟨k + 1,?_,hlt,?_⟩
   ·show i64.wrap (st.2.2 + 1) = _
    rw [h1,bb hlt (show 3≤1000000 by omega)]
   ·show c.1.ac.length≤_
    omega
 ·injection h with h
  subst h
  show st.1.ac.length≤_
  omega
def SzM (M:Nat) (s:aa) : Prop:=∃ B,SzS B s∧B + s.ac.length≤M
theorem SzM.mono {M N:Nat} {s:aa} (h:SzM M s) (hn:M≤N) : SzM N s:=by
 obtain ⟨B,h1,h2⟩:=h
 exact ⟨B,h1,by omega⟩
theorem SzM.sz {M:Nat} {s:aa} (h:SzM M s) : SzS M s:=by
 obtain ⟨B,h1,h2⟩:=h
 exact h1.mono (by omega)
theorem aaK {s:aa} {id:Int} (h:MB s id=true) : mB s id∈s.ac∧(mB s id).fId=id:=by
 unfold MB at h
 rw [List.any_eq_true] at h
 obtain ⟨x,hx,e⟩:=h
 unfold mB
 cases hf:s.ac.find? fun c=>c.fId==id with
 | none=>have:=List.find?_eq_none.1 hf x hx; exact absurd e (by simpa using this)
 | some a=>exact ⟨List.mem_of_find?_eq_some hf,by simpa using List.find?_some hf⟩
theorem Ci {α : Type} {p : α→Bool} {l:List α} {x : α} (hx:x∈l) (hp:p x=false) : (l.filter p).length < l.length :=
 List.length_filter_lt_length_iff_exists.2 ⟨x,hx,by rw [hp]; simp⟩
theorem SzS.putE {B:Nat} {s:aa} (h:SzS B s) {a:aC} (ha:SzA (B + 1) a) {c:List an} {l:List bA} (hc:c.length≤B + 1) (hl:l.length≤B + 1) : SzS (B + 1) { s with ar:=dp aC.fId s.ar a,ac:=c,aZ:=l } := by
 have k:=h.put ha
 exact ⟨k.conf,k.nodes,k.apps,hc,hl,k.plans,k.app⟩
theorem GG {M:Nat} {s:aa} (h:SzM M s) (hs:kP aC.fId s.ar) (ids:List Int) (hI:ids.length≤1000000) (hM:M + 1≤1000000) : ∃ r,gU s ids=some r∧SzM M r∧kP aC.fId r.ar∧r.ac.length≤s.ac.length:=by
 unfold gU
 dsimp only
 rw [Aj ids s hI]
 obtain ⟨r,h1,h2⟩:=a7 (g:=gR ids) (fin:=fun b=>(b,(ids.length:Int))) (fun _ b=>SzM M b∧kP aC.fId b.ar∧b.ac.length≤s.ac.length) (fun r=>SzM M r.1∧kP aC.fId r.1.ar∧r.1.ac.length≤s.ac.length) ids 0 s (fun j t x hx ⟨ht,hsr,hle⟩=>by
  obtain ⟨B,ht0,hB⟩:=ht
  have k1:=ht0.apps; have k2:=ht0.conts; have k3:=ht0.slots
  have stay:SzM M t∧kP aC.fId t.ar∧t.ac.length≤s.ac.length:=⟨⟨B,ht0,hB⟩,hsr,hle⟩
  unfold gR
  dsimp only
  rw [k9 t x (by omega)]
  simp only [zb]
  split
  ·exact ⟨_,rfl,fun a' e=>by injection e with e; subst e; exact stay,fun r e=>by cases e⟩
  rename_i hnot
  have hct:MB t x=true:=by simpa using hnot
  obtain ⟨hm,hid⟩:=aaK hct
  rw [ep t _ (by omega)]
  simp only [zb]
  have hB1:B + 1≤1000000:=by omega
  have ha:=(ht0.get (mB t x).bC).mono (Nat.le_succ _)
  split
  ·rw [Ah]
   simp only [zb]
   rw [kT t _ (by omega)]
   simp only [zb]
   rw [CJ _ _ (by show t.ac.length≤_; omega) (by show t.aZ.length≤_; omega)]
   simp only [zb]
   refine ⟨_,rfl,fun a' e=>?_,fun r e=>by cases e⟩
   injection e with e
   subst e
   have hlt:=Ci (p:=fun c:an=>!(c.bC==(mB t x).bC)) hm (by simp)
   refine ⟨⟨B + 1,ht0.putE ?_ (Nat.le_trans (List.length_filter_le _ _) (by show t.ac.length≤_; omega)) (Nat.le_trans (List.length_filter_le _ _) (by show t.aZ.length≤_; omega)),?_⟩,g8 _ _ _ hsr,?_⟩
   ·exact ⟨⟨ha.queue.1,ht0.nodes.2.2.1.1,ht0.nodes.2.2.1.2,ha.queue.2.2.2⟩,by simp,Nat.zero_le _,Nat.zero_le _,Nat.zero_le _,Nat.zero_le _⟩
   ·show B + 1 + (List.filter _ t.ac).length≤M
    omega
   ·show (List.filter _ t.ac).length≤_
    omega
  ·rw [CM t _ (by omega)]
   have hg:=ht0.get (mB t x).bC
   have h5:=hg.grants; have h6:=hg.kills
   simp only [zb]
   rw [vx _ _ (by omega)]
   simp only [zb]
   have hlt:=Ci (p:=fun c:an=>c.fId != (mB t x).fId) hm (by simp)
   have hf:=List.length_filter_le (fun c=>c != (mB t x).fId) (cj t (mB t x).bC).cf
   have fin:∀ a:aC,SzA (B + 1) a→∃ r,Option.bind (dR { t with ac:=t.ac.filter fun c=>c.fId != (mB t x).fId } a) (fun c=>some (Sum.inl c:aa⊕(aa×Int)))=some r∧(∀ a',r = .inl a'→SzM M a'∧kP aC.fId a'.ar∧a'.ac.length≤s.ac.length)∧∀ q,r = .inr q→SzM M q.1∧kP aC.fId q.1.ar∧q.1.ac.length≤s.ac.length:=by
    intro a hsa
    rw [kT _ _ (by show t.ar.length + 1≤_; omega)]
    refine ⟨_,rfl,fun a' e=>?_,fun r e=>by cases e⟩
    injection e with e
    subst e
    refine ⟨⟨B + 1,ht0.putE (c:=t.ac.filter fun c=>c.fId != (mB t x).fId) (l:=t.aZ) hsa (Nat.le_trans (List.length_filter_le _ _) (by omega)) (by omega),?_⟩,g8 _ _ _ hsr,?_⟩
    ·show B + 1 + (List.filter _ t.ac).length≤M
     omega
    ·show (List.filter _ t.ac).length≤_
     omega
   split
   ·rw [aJ (by simp; omega)]
    simp only [zb,List.nil_append]
    rw [aJ (by simp; omega)]
    simp only [zb]
    refine fin _ ?_
    exact ⟨ha.queue,ha.asks,by show (List.filter _ _).length≤_; omega,by show (_ ++ [_]).length≤_; simp; omega,ha.told,ha.lost⟩
   ·simp only [zb]
    refine fin _ ?_
    exact ⟨ha.queue,ha.asks,by show (List.filter _ _).length≤_; omega,ha.kills,ha.told,ha.lost⟩) (fun b hb=>hb) ⟨h,hs,Nat.le_refl _⟩
 rw [h1]
 exact ⟨_,rfl,h2⟩
def fF (v_s:aa) (ax:ByteArray) (af:Int) (ca:Int) (mF:Int) (st:Unit) (x_:aC) : Option ((Unit)⊕((Int)⊕(Int))) :=
 let v_a:aC:=x_
 let v_k:Int:=0
 (ah (ky v_a ax v_s af ca mF) ab v_k).bind fun r15=>match r15 with
 | .inr m16=>some (.inr (.inr m16))
 | .inl m16 =>
 let v_k:=m16
 some (.inl ())
theorem xW (v_s:aa) (ax:ByteArray) (af:Int) (ca:Int) (mF:Int) (a_:Unit) (hl:v_s.ar.length≤1000000) : ah (kz v_s ax af ca mF) ab (0)=br (fF v_s ax af ca mF) (fun a_=>(.inl ((v_s.ar.length:Int)))) a_ v_s.ar :=
 az v_s.ar (S:=Int) (fun a_ k_=>(k_)) (fF v_s ax af ca mF) (fun a_=>(.inl ((v_s.ar.length:Int)))) (ao hl) (fun k a x hx=>by
  unfold kz fF; exact bJ)
  (fun a=>by unfold kz; exact cI) a_
def lQ (v_l:(List Int)) (v_n:Int) (st:Unit) (x_:Int) : Option ((Unit)⊕((Int)⊕(Bool))) :=
 if (x_ == v_n)=true then
 some (.inr (.inr true))
 else
 some (.inl ())
theorem C5 (v_l:(List Int)) (v_n:Int) (a_:Unit) (hl:v_l.length≤1000000) : ah (pj v_l v_n) ab (0)=br (lQ v_l v_n) (fun a_=>(.inl ((v_l.length:Int)))) a_ v_l :=
 az v_l (S:=Int) (fun a_ k_=>(k_)) (lQ v_l v_n) (fun a_=>(.inl ((v_l.length:Int)))) (ao hl) (fun k a x hx=>by
  unfold pj lQ; exact bJ)
  (fun a=>by unfold pj; exact cI) a_
def eO (v_s:aa) (af:Int) (ax:ByteArray) (v_l:(List Int)) (st:Int) (x_:an) : Option ((Int)⊕((Int×Int))) :=
 let v_n:=st
 let v_c:an:=x_
 (if (v_c.aA==af)=true then (if (ax.toList==(⟨#[]⟩ : ByteArray).toList)=true then some true else (jx v_s v_c).bind fun c8=>some (c8.toList==ax.toList)).bind fun q9=>some q9 else some false).bind fun q10=>(if q10=true then (if (v_c.jF != 0)=true then some true else (xY v_l v_c.fId).bind fun c11=>some c11).bind fun q12=>some q12 else some false).bind fun q13=>if q13=true then
 let v_n:Int:=(i64.wrap (v_n + v_c.cH.bg))
 some (.inl v_n)
 else
 some (.inl v_n)
theorem wB (v_s:aa) (af:Int) (ax:ByteArray) (v_l:(List Int)) (a_:Int) (hl:v_s.ac.length≤1000000) : ah (jL v_s af ax v_l) ab (a_,(0))=br (eO v_s af ax v_l) (fun a_=>(a_,((v_s.ac.length:Int)))) a_ v_s.ac :=
 az v_s.ac (S:=Int×Int) (fun a_ k_=>(a_,(k_))) (eO v_s af ax v_l) (fun a_=>(a_,((v_s.ac.length:Int)))) (ao hl) (fun k a x hx=>by
  unfold jL eO; exact bJ)
  (fun a=>by unfold jL; exact cI) a_
def eM (v_s:aa) (af:Int) (ax:ByteArray) (v_l:(List Int)) (st:an×Bool) (x_:an) : Option ((an×Bool)⊕((an×Bool×Int))) :=
 let cN:=st.1
 let bV:=st.2
 let v_c:an:=x_
 (if (v_c.aA != af)=true then some true else (jx v_s v_c).bind fun c15=>some (!(c15.toList==ax.toList))).bind fun q16=>(if q16=true then some true else some (v_c.jF != 0)).bind fun q17=>(if q17=true then some true else (xY v_l v_c.fId).bind fun c18=>some c18).bind fun q19=>if q19=true then
 some (.inl (cN,bV))
 else
 (if (!bV)=true then some true else (if cN.bI=true then some (!v_c.bI) else some false).bind fun q20=>some q20).bind fun q21=>(if q21=true then some true else (if (cN.bI==v_c.bI)=true then some (decide (v_c.fId > cN.fId)) else some false).bind fun q22=>some q22).bind fun q23=>if q23=true then
 let t24:an:=v_c
 let t25:Bool:=true
 let cN:an:=t24
 let bV:Bool:=t25
 some (.inl (cN,bV))
 else
 some (.inl (cN,bV))
theorem wA (v_s:aa) (af:Int) (ax:ByteArray) (v_l:(List Int)) (a_:an×Bool) (hl:v_s.ac.length≤1000000) : ah (jK v_s af ax v_l) ab (a_.1,a_.2,(0))=br (eM v_s af ax v_l) (fun a_=>(a_.1,a_.2,((v_s.ac.length:Int)))) a_ v_s.ac :=
 az v_s.ac (S:=an×Bool×Int) (fun a_ k_=>(a_.1,a_.2,(k_))) (eM v_s af ax v_l) (fun a_=>(a_.1,a_.2,((v_s.ac.length:Int)))) (ao hl) (fun k a x hx=>by
  unfold jK eM; exact bJ)
  (fun a=>by unfold jK; exact cI) a_
def gF (bP:(List ak)) (v_s:aa) (af:Int) (st:Int) (x_:ak) : Option ((Int)⊕((Int×Int))) :=
 let lh:=st
 (sQ v_s x_.aO af).bind fun c6=>let lh:Int:=(i64.wrap (lh + c6))
 some (.inl lh)
theorem zJ (bP:(List ak)) (v_s:aa) (af:Int) (a_:Int) (hl:bP.length≤1000000) : ah (lS bP v_s af) ab (a_,(0))=br (gF bP v_s af) (fun a_=>(a_,((bP.length:Int)))) a_ bP :=
 az bP (S:=Int×Int) (fun a_ k_=>(a_,(k_))) (gF bP v_s af) (fun a_=>(a_,((bP.length:Int)))) (ao hl) (fun k a x hx=>by
  unfold lS gF; exact bJ)
  (fun a=>by unfold lS; exact cI) a_
def gD (bP:(List ak)) (v_s:aa) (af:Int) (v_l:(List Int)) (st:Int×an) (x_:ak) : Option ((Int×an)⊕((Int×an×Int))) :=
 let co:=st.1
 let v_x:=st.2
 let v_p:ByteArray:=x_.aO
 (eU v_s v_p af).bind fun c18=>(ni v_s v_p af v_l).bind fun c19=>let DR:Int:=(i64.wrap ((i64.wrap (c18.bg - x_.bg)) - c19))
 (qw v_s v_p af v_l).bind fun c20=>let v_c:an:=c20.1
 let bV:Bool:=c20.2
 (if bV=true then some (decide (DR > co)) else some false).bind fun q21=>if q21=true then
 let t22:Int:=DR
 let t23:an:=v_c
 let co:Int:=t22
 let v_x:an:=t23
 some (.inl (co,v_x))
 else
 some (.inl (co,v_x))
theorem zI (bP:(List ak)) (v_s:aa) (af:Int) (v_l:(List Int)) (a_:Int×an) (hl:bP.length≤1000000) : ah (lR bP v_s af v_l) ab (a_.1,a_.2,(0))=br (gD bP v_s af v_l) (fun a_=>(a_.1,a_.2,((bP.length:Int)))) a_ bP :=
 az bP (S:=Int×an×Int) (fun a_ k_=>(a_.1,a_.2,(k_))) (gD bP v_s af v_l) (fun a_=>(a_.1,a_.2,((bP.length:Int)))) (ao hl) (fun k a x hx=>by
  unfold lR gD; exact bJ)
  (fun a=>by unfold lR; exact cI) a_
def gG (lg:aa) (yr:aa) (st:(List Int)) (x_:an) : Option (((List Int))⊕(((List Int)×Int))) :=
 let v_l:=st
 (eZ yr x_.fId).bind fun c5=>let bV:Bool:=c5.2
 if (!bV)=true then
 (aX v_l [x_.fId]).bind fun b6=>let v_l:(List Int):=b6
 some (.inl v_l)
 else
 some (.inl v_l)
theorem zL (lg:aa) (yr:aa) (a_:(List Int)) (hl:lg.ac.length≤1000000) : ah (lU lg yr) ab (a_,(0))=br (gG lg yr) (fun a_=>(a_,((lg.ac.length:Int)))) a_ lg.ac :=
 az lg.ac (S:=(List Int)×Int) (fun a_ k_=>(a_,(k_))) (gG lg yr) (fun a_=>(a_,((lg.ac.length:Int)))) (ao hl) (fun k a x hx=>by
  unfold lU gG; exact bJ)
  (fun a=>by unfold lU; exact cI) a_
def gA (v_l:(List an)) (af:Int) (st:aa) (x_:an) : Option ((aa)⊕((aa×Int))) :=
 let v_s:=st
 (eZ v_s x_.fId).bind fun c15=>let xh:an:=c15.1
 let bV:Bool:=c15.2
 if (!bV)=true then
 some (.inl v_s)
 else
 (jx v_s xh).bind fun c16=>(eU v_s c16 af).bind fun c17=>(qt v_s xh).bind fun c18=>(jx v_s xh).bind fun c19=>(zM v_s af c19).bind fun c20=>if (decide ((i64.wrap (c17.bg - c18)) > c20))=true then
 (gU v_s ([xh.fId] : (List Int))).bind fun c21=>let v_s:aa:=c21
 some (.inl v_s)
 else
 (kj v_s xh.fId 0).bind fun c22=>let v_s:aa:=c22
 some (.inl v_s)
theorem zH (v_l:(List an)) (af:Int) (a_:aa) (hl:v_l.length≤1000000) : ah (gB v_l af) ab (a_,(0))=br (gA v_l af) (fun a_=>(a_,((v_l.length:Int)))) a_ v_l :=
 az v_l (S:=aa×Int) (fun a_ k_=>(a_,(k_))) (gA v_l af) (fun a_=>(a_,((v_l.length:Int)))) (ao hl) (fun k a x hx=>by
  unfold gB gA; exact bJ)
  (fun a=>by unfold gB; exact cI) a_
def fG (v_l:(List Int)) (st:aa) (x_:Int) : Option ((aa)⊕((aa×Int))) :=
 let v_s:=st
 (kj v_s x_ (if 1 > v_s.cx then 1 else v_s.cx)).bind fun c5=>let v_s:aa:=c5
 some (.inl v_s)
theorem ya (v_l:(List Int)) (a_:aa) (hl:v_l.length≤1000000) : ah (fh v_l) ab (a_,(0))=br (fG v_l) (fun a_=>(a_,((v_l.length:Int)))) a_ v_l :=
 az v_l (S:=aa×Int) (fun a_ k_=>(a_,(k_))) (fG v_l) (fun a_=>(a_,((v_l.length:Int)))) (ao hl) (fun k a x hx=>by
  unfold fh fG; exact bJ)
  (fun a=>by unfold fh; exact cI) a_
def eP (v_l:(List ak)) (st:(List ak)) (v_i:Int) (x_:ak) : Option (((List ak))⊕(((List ak)×Int))) :=
 let am:=st
 let v_k:Int:=0
 (ah (gH am v_i v_l) ab v_k).bind fun r13 =>
 let v_k:=r13
 (hiO am v_k).bind fun b14=>(aX ([] : (List ak)) b14).bind fun b15=>let v_x:(List ak):=b15
 (aX v_x [x_]).bind fun b16=>let v_x:(List ak):=b16
 (loO am v_k).bind fun b17=>(aX v_x b17).bind fun b18=>let am:(List ak):=b18
 some (.inl am)
theorem wC (v_l:(List ak)) (a_:(List ak)) (hl:v_l.length≤1000000) : ah (jM v_l) ab (a_,(0))=nX (eP v_l) (fun a_=>(a_,((v_l.length:Int)))) a_ 0 v_l :=
 fq v_l (S:=(List ak)×Int) (fun a_ k_=>(a_,(k_))) (eP v_l) (fun a_=>(a_,((v_l.length:Int)))) (ao hl) (fun k a x hx=>by
  unfold jM eP; exact bJ)
  (fun a=>by unfold jM; exact cI) a_
def kA (v_l:(List ak)) (ax:ByteArray) (st:Unit) (x_:ak) : Option ((Unit)⊕((Int)⊕(Int))) :=
 if (x_.aO.toList==ax.toList)=true then
 some (.inr (.inr x_.bg))
 else
 some (.inl ())
theorem BI (v_l:(List ak)) (ax:ByteArray) (a_:Unit) (hl:v_l.length≤1000000) : ah (nP v_l ax) ab (0)=br (kA v_l ax) (fun a_=>(.inl ((v_l.length:Int)))) a_ v_l :=
 az v_l (S:=Int) (fun a_ k_=>(k_)) (kA v_l ax) (fun a_=>(.inl ((v_l.length:Int)))) (ao hl) (fun k a x hx=>by
  unfold nP kA; exact bJ)
  (fun a=>by unfold nP; exact cI) a_
def Xc (n:Int) : Int:=if (decide (n < 0)||decide (n > 1125899906842624))=true then 0 else n
theorem vj (n:Int) : lV n=some (Xc n):=by
 unfold lV Xc
 simp only [orB,zb]
 split <;> rfl
theorem K6 (t:Int) (a b c:List Int) (hN:a.length≤1000) (hb:b.length=a.length) (hc:c.length=a.length) : ∃ r,v8 t a b c=some r∧r.length=a.length:=by
 have hn:(if (c.length:Int) < (if (b.length:Int) < (a.length:Int) then (b.length:Int) else (a.length:Int)) then (c.length:Int) else (if (b.length:Int) < (a.length:Int) then (b.length:Int) else (a.length:Int)))=(a.length:Int):=by
  rw [hb,hc]
  simp
 unfold v8
 simp only [hn,vj,zb]
 obtain ⟨r,e1,e2⟩:=aM (f:=oJ (a.length:Int) a b c) (fun st=>∃ k:Nat,st.2.2=(k:Int)∧k≤a.length∧st.1.length=k) (fun st=>a.length - st.2.2.toNat) (fun r=>r.1.length=a.length) (fun st ⟨k,h1,h2,h3⟩=>by
  unfold oJ
  simp only [h1]
  by_cases hlt:k < a.length
  ·have g1:a[k]? = some a[k]:=zq hlt
   have g2:b[k]? = some (b[k]'(by omega)):=zq (by omega)
   have g3:c[k]? = some (c[k]'(by omega)):=zq (by omega)
   simp only [bL g1,if_true,aH g1,aH g2,aH g3,vj,zb,bb hlt (show a.length≤1000000 by omega)]
   rw [aJ (by simp; omega)]
   exact .inl ⟨_,rfl,⟨k + 1,rfl,hlt,by simp; omega⟩,by simp only [zt]; omega⟩
  ·have:k=a.length:=by omega
   subst this
   simp only [bF,zf,if_false]
   exact .inr ⟨_,rfl,h3⟩) ab ([],Xc t,0) ⟨0,rfl,Nat.zero_le _,rfl⟩ (by have:=ao (show a.length≤1000000 by omega); omega)
 rw [e1]
 simp only [zb]
 obtain ⟨q,f1,f2⟩:=aM (f:=oI (a.length:Int) b c) (fun st=>∃ k:Nat,st.2.2=(k:Int)∧k≤a.length∧st.1.length=a.length) (fun st=>a.length - st.2.2.toNat) (fun r=>r.1.length=a.length) (fun st ⟨k,h1,h2,h3⟩=>by
  unfold oI
  simp only [h1]
  by_cases hlt:k < a.length
  ·have g1:a[k]? = some a[k]:=zq hlt
   have g2:b[k]? = some (b[k]'(by omega)):=zq (by omega)
   have g3:c[k]? = some (c[k]'(by omega)):=zq (by omega)
   have g4:st.1[k]? = some (st.1[k]'(by omega)):=zq (by omega)
   simp only [bL g1,if_true,aH g2,aH g3,aH g4,vj,zb,bb hlt (show a.length≤1000000 by omega),zt]
   exact .inl ⟨_,rfl,⟨k + 1,rfl,hlt,by simp; omega⟩,by simp only [zt]; omega⟩
  ·have:k=a.length:=by omega
   subst this
   simp only [bF,zf,if_false]
   exact .inr ⟨_,rfl,h3⟩) ab (r.1,r.2.1,0) ⟨0,rfl,Nat.zero_le _,e2⟩ (by have:=ao (show a.length≤1000000 by omega); omega)
 rw [f1]
 exact ⟨_,rfl,f2⟩
theorem Cy {B:Nat} {s:aa} (h:SzS B s) (hD:Deep s.bG) (hB:B≤1000000) (k:Int) : ∀ (d n:Nat) (p:ByteArray) (v:Int),4 - dH 6 p≤d→d < n→d≤4→∃ r,lW n s p k v=some r∧r.length≤16 ^ d
 | d,0,p,_,_,hn,_=>absurd hn (Nat.not_lt_zero _)
 | d,n + 1,p,v,hp,hn,hd=>by
  obtain ⟨m,h2,h3,h4⟩:=tD s.bG p h.conf.sz
  have hq:=hD.few
  have k2:=h.nodes.1
  unfold lW
  simp only [h2,zb]
  split
  ·exact ⟨_,rfl,by show 1≤16 ^ d; exact Nat.one_le_pow _ _ (by omega)⟩
  ·rename_i hne
   have hm : 0 < m.length:=by
    rcases Nat.eq_zero_or_pos m.length with h0 | h0
    ·rw [h0] at hne; exact absurd rfl hne
    ·exact h0
   have kid:=Cq s.bG p h.conf.sz h2
   have kd:∀ x∈m,dH 6 p + 1=dH 6 x∧dH 6 x≤4:=fun x hx=>by
    obtain ⟨⟨q,hq1,hq2⟩,a1,a2⟩:=kid x hx
    subst hq2
    exact ⟨IT a1 a2 (h.conf.sz.paths q hq1) (hD.deep q hq1),hD.deep q hq1⟩
   have hd0 : 0 < d:=by
    obtain ⟨a1,a2⟩:=kd m[0] (List.getElem_mem hm)
    omega
   obtain ⟨d',rfl⟩ : ∃ d',d=d' + 1:=⟨d - 1,by omega⟩
   have hpow : 16 ^ d'≤16 ^ 3:=Nat.pow_le_pow_right (by omega) (by omega)
   have hm1:m.length≤1000000:=by omega
   obtain ⟨r,e1,e2⟩:=aM (f:=qA (lW n) m s k) (fun st=>∃ i:Nat,st.2.2.2=(i:Int)∧i≤m.length∧st.1.length=i∧st.2.1.length=i∧st.2.2.1.length=i) (fun st=>m.length - st.2.2.2.toNat) (fun r=>r.1.length=m.length∧r.2.1.length=m.length∧r.2.2.1.length=m.length) (fun st ⟨i,i1,i2,i3,i4,i5⟩=>by
    unfold qA
    simp only [i1]
    by_cases hlt:i < m.length
    ·have g1:m[i]? = some m[i]:=zq hlt
     obtain ⟨u,hu⟩:=fI h hB m[i] k
     obtain ⟨w,hw⟩:=vp h hB m[i] k
     simp only [bL g1,if_true,aH g1,ob s _ k h.conf (Nat.le_trans k2 hB),F7 s _ k h.conf (Nat.le_trans k2 hB),hu,hw,zb,bb hlt hm1]
     rw [aJ (by simp; omega)]
     simp only [zb]
     rw [aJ (by simp; omega)]
     simp only [zb]
     rw [aJ (by simp; omega)]
     exact .inl ⟨_,rfl,⟨i + 1,rfl,hlt,by simp; omega,by simp; omega,by simp; omega⟩,by simp only [zt]; omega⟩
    ·have:i=m.length:=by omega
     subst this
     simp only [bF,zf,if_false]
     exact .inr ⟨_,rfl,i3,i4,i5⟩) ab ([],[],[],0) ⟨0,rfl,Nat.zero_le _,rfl,rfl,rfl⟩ (by have:=ao hm1; omega)
   rw [e1]
   simp only [zb]
   obtain ⟨x,x1,x2⟩:=K6 v r.1 r.2.2.1 r.2.1 (by omega) (by omega) (by omega)
   rw [x1]
   simp only [zb]
   obtain ⟨q,f1,f2⟩:=aM (f:=qz (lW n) m s k x) (fun st=>∃ i:Nat,st.2=(i:Int)∧i≤m.length∧st.1.length≤i * 16 ^ d') (fun st=>m.length - st.2.toNat) (fun r=>r.1.length≤m.length * 16 ^ d') (fun st ⟨i,i1,i2,i3⟩=>by
    unfold qz
    simp only [i1]
    by_cases hlt:i < m.length
    ·have g1:m[i]? = some m[i]:=zq hlt
     have g2:x[i]? = some (x[i]'(by omega)):=zq (by omega)
     obtain ⟨a1,a2⟩:=kd m[i] (List.getElem_mem hlt)
     obtain ⟨c,c1,c2⟩:=Cy h hD hB k d' n m[i] (x[i]'(by omega)) (by omega) (by omega) (by omega)
     have hj2:i * 16 ^ d'≤16 * 16 ^ 3:=Nat.mul_le_mul (by omega) hpow
     simp only [bL g1,if_true,aH g1,aH g2,c1,zb,bb hlt hm1]
     rw [aJ (by omega)]
     refine .inl ⟨_,rfl,⟨i + 1,rfl,hlt,?_⟩,by simp only [zt]; omega⟩
     show (st.1++c).length≤_
     rw [List.length_append,Nat.succ_mul]
     omega
    ·have:i=m.length:=by omega
     subst this
     simp only [bF,zf,if_false]
     exact .inr ⟨_,rfl,i3⟩) ab ([],0) ⟨0,rfl,Nat.zero_le _,by simp⟩ (by have:=ao hm1; omega)
   rw [f1]
   refine ⟨_,rfl,Nat.le_trans f2 ?_⟩
   rw [Nat.pow_succ,Nat.mul_comm]
   exact Nat.mul_le_mul_left _ (by omega)
theorem wS {B:Nat} {s:aa} (h:SzS B s) (hD:Deep s.bG) (hB:B≤1000000) (k:Int) : ∃ r,qB s k=some r∧r.length≤65536:=by
 obtain ⟨l,h1,h2⟩:=Cy h hD hB k 4 ab ⟨#[114,111,111,116]⟩ (u5 s k).bg (by omega) (by unfold ab; omega) (by omega)
 have h2:l.length≤65536:=h2
 have k2:=h.nodes.1
 unfold qB
 simp only [oa s k (Nat.le_trans k2 hB),h1,zb]
 rw [wC l [] (by omega)]
 obtain ⟨r,e1,e2⟩:=mM (g:=eP l) (fin:=fun b=>(b,(l.length:Int))) (fun j b=>b.length≤j) (fun r=>r.1.length≤l.length) l 0 [] (fun j out x hx ho=>by
  have hj:=(zg.1 hx).1
  obtain ⟨K,hK1,hK2⟩:=n5 out (by omega) (f:=gH out ((0 + j:Nat) : Int) l) (fun i y hy=>by
   have hi:=(zg.1 hy).1
   refine ⟨Op.bytesLess y.aO.toList x.aO.toList,?_⟩
   unfold gH
   simp only [bL hy,if_true,aH hy,aH (show l[0 + j]? = some x by rwa [Nat.zero_add]),zb,bb hi (show out.length≤1000000 by omega)]) (by unfold gH; simp only [bF,zf,if_false,zb])
  unfold eP
  dsimp only
  rw [hK1]
  simp only [zb]
  rw [lB hK2]
  simp only [zb]
  rw [aJ (by simp; omega)]
  simp only [zb]
  rw [aJ (by simp; omega)]
  simp only [zb]
  rw [i6 hK2]
  simp only [zb]
  rw [aJ (by simp; omega)]
  refine ⟨_,rfl,fun a' e=>?_,fun r e=>by cases e⟩
  injection e with e
  subst e
  simp; omega) (fun b hb=>by simpa using hb) (by simp)
 rw [e1]
 exact ⟨_,rfl,by show r.1.length≤_; omega⟩
theorem Ri {B:Nat} {s:aa} (h:SzS B s) (hD:Deep s.bG) (hB:B≤1000000) (k:Int) (p:ByteArray) : ∃ r,zM s k p=some r:=by
 obtain ⟨l,h1,h2⟩:=wS h hD hB k
 unfold zM
 rw [h1]
 dsimp only [zb]
 rw [BI l p () (by omega),show kA l p=fun (_:Unit) x=>if (x.aO.toList==p.toList)=true then some (.inr (.inr x.bg)) else some (.inl ()) from rfl,
  kU (fun x:ak=>x.aO.toList==p.toList) (fun x=>(Sum.inr x.bg:Int⊕Int)) (.inl (l.length:Int)) l]
 simp only [zb]
 cases l.find? fun x=>x.aO.toList==p.toList <;> exact ⟨_,rfl⟩
theorem vh (s:aa) (c:an) (hl:s.ar.length≤1000000) : jx s c=some (cj s c.bC).bQ:=by
 unfold jx
 simp only [ep s c.bC hl,zb]
def inL (l:List Int) (n:Int) : Bool:=l.any fun x=>x==n
theorem Jk (l:List Int) (n:Int) (hl:l.length≤1000000) : xY l n=some (inL l n):=by
 unfold xY inL
 dsimp only
 rw [C5 l n () hl,show lQ l n=fun (_:Unit) x=>if (x==n)=true then some (.inr (.inr true)) else some (.inl ()) from rfl,
  kU (fun x:Int=>x==n) (fun _=>(Sum.inr true:Int⊕Bool)) (.inl (l.length:Int)) l]
 simp only [zb]
 cases hf:l.find? fun x=>x==n with
 | none =>
  have:(l.any fun x=>x==n)=false:=by
   rw [List.any_eq_false]; intro x hx; have:=List.find?_eq_none.1 hf x hx; simpa using this
  rw [this]
 | some q =>
  have:(l.any fun x=>x==n)=true:=by rw [List.any_eq_true]; exact ⟨q,List.mem_of_find?_eq_some hf,List.find?_some (p:=fun x:Int=>x==n) hf⟩
  rw [this]
theorem IC {α : Type} {p q : α→Bool} (hpq:∀ x,q x=true→p x=true) : ∀ l:List α,(∃ x∈l,p x=true∧q x=false)→(l.filter q).length < (l.filter p).length
 | [],⟨x,hx,_⟩=>by cases hx
 | y::l,⟨x,hx,h1,h2⟩=>by
  have le:∀ l:List α,(l.filter q).length≤(l.filter p).length:=fun l=>by
   induction l with
   | nil=>exact Nat.le_refl _
   | cons z l ih =>
    simp only [List.filter_cons]
    cases hq:q z with
    | true=>rw [hpq z hq]; simpa using ih
    | false =>
     cases p z with
     | true=>simp; omega
     | false=>simpa using ih
  simp only [List.filter_cons]
  rcases List.mem_cons.1 hx with rfl | hx
  ·rw [h1,h2]
   have:=le l
   simp; omega
  ·have ih:=IC hpq l ⟨x,hx,h1,h2⟩
   cases hq:q y with
   | true=>rw [hpq y hq]; simpa using ih
   | false =>
    cases p y with
    | true=>simp; omega
    | false=>simpa using ih
theorem KZ {B:Nat} {s:aa} (h:SzS B s) (hB:B≤1000000) (p:ByteArray) (k:Int) : ∃ r,sQ s p k=some r:=by
 obtain ⟨u,hu⟩:=fI h hB p k
 obtain ⟨v,hv⟩:=vp h hB p k
 have k1:=h.apps; have k2:=h.nodes.1
 unfold sQ
 simp only [hu,ob s p k h.conf (Nat.le_trans k2 hB),zb]
 rw [xW s p k (BQ s p k).bg u.bg () (by omega)]
 obtain ⟨r,e1,_⟩:=a7 (g:=fF s p k (BQ s p k).bg u.bg) (fin:=fun _=>(.inl (s.ar.length:Int))) (fun _ _=>True) (fun _=>True) s.ar 0 () (fun j b x hx _=>by
  have hm:=h.app x (List.mem_of_getElem? hx)
  have ha:=hm.asks
  have ha2:x.bN.length≤1000000:=by omega
  obtain ⟨r,r1,_⟩:=aM (f:=ky x p s k (BQ s p k).bg u.bg) (fun st=>∃ i:Nat,st=(i:Int)∧i≤x.bN.length) (fun st=>x.bN.length - st.toNat) (fun _=>True) (fun st ⟨i,h1,h2⟩=>by
   subst h1
   unfold ky
   by_cases hlt:i < x.bN.length
   ·have g1:x.bN[i]? = some x.bN[i]:=zq hlt
    simp only [bL g1,if_true,aH g1,fJ,hv,cW,zb,bb hlt ha2]
    split
    ·split
     ·exact .inr ⟨_,rfl,trivial⟩
     ·exact .inl ⟨_,rfl,⟨i + 1,rfl,hlt⟩,by simp only [zt]; omega⟩
    ·exact .inr ⟨_,rfl,trivial⟩
   ·have:i=x.bN.length:=by omega
    subst this
    simp only [bF,zf,if_false,zb]
    exact .inr ⟨_,rfl,trivial⟩) ab 0 ⟨0,rfl,Nat.zero_le _⟩ (by have:=ao ha2; omega)
  unfold fF
  dsimp only
  rw [r1]
  simp only [zb]
  cases r <;> exact ⟨_,rfl,fun _ _=>trivial,fun _ _=>trivial⟩) (fun _ _=>trivial) trivial
 rw [e1]
 simp only [zb]
 cases r <;> exact ⟨_,rfl⟩
theorem wR {B:Nat} {s:aa} (h:SzS B s) (hB:B≤1000000) (p:ByteArray) (k:Int) (l:List Int) (hl:l.length≤1000000) : ∃ r,ni s p k l=some r:=by
 have k1:=h.apps; have k2:=h.conts
 unfold ni
 dsimp only
 rw [wB s k p l 0 (by omega)]
 obtain ⟨r,e1,_⟩:=a7 (g:=eO s k p l) (fin:=fun b=>(b,(s.ac.length:Int))) (fun _ _=>True) (fun _=>True) s.ac 0 0 (fun j b x hx _=>by
  unfold eO
  simp only [vh s x (show s.ar.length≤1000000 by omega),Jk l x.fId hl,cW,orB,zb]
  split <;> exact ⟨_,rfl,fun _ _=>trivial,fun _ _=>trivial⟩) (fun _ _=>trivial) trivial
 rw [e1]
 exact ⟨_,rfl⟩
theorem Hq {B:Nat} {s:aa} (h:SzS B s) (hB:B≤1000000) (p:ByteArray) (k:Int) (l:List Int) (hl:l.length≤1000000) : ∃ r,qw s p k l=some r∧(r.2=true→r.1∈s.ac∧inL l r.1.fId=false):=by
 have k1:=h.apps; have k2:=h.conts
 unfold qw
 dsimp only
 rw [wA s k p l ((⟨0,0,0,au.zero,0,0,false,0⟩ : an),false) (by omega)]
 obtain ⟨r,e1,e2⟩:=a7 (g:=eM s k p l) (fin:=fun b=>(b.1,b.2,(s.ac.length:Int))) (fun _ b=>b.2=true→b.1∈s.ac∧inL l b.1.fId=false) (fun r=>r.2.1=true→r.1∈s.ac∧inL l r.1.fId=false) s.ac 0 ((⟨0,0,0,au.zero,0,0,false,0⟩ : an),false) (fun j b x hx hb=>by
  unfold eM
  simp only [vh s x (show s.ar.length≤1000000 by omega),Jk l x.fId hl,cW,orB,zb]
  split
  ·exact ⟨_,rfl,fun a e=>(by injection e with e; subst e; exact hb),fun r e=>(by cases e)⟩
  ·rename_i hn
   split
   ·refine ⟨_,rfl,fun a e=>?_,fun r e=>(by cases e)⟩
    injection e with e
    subst e
    refine fun _=>⟨List.mem_of_getElem? hx,?_⟩
    simp only [Bool.or_eq_true,not_or,Bool.not_eq_true] at hn
    exact hn.2
   ·exact ⟨_,rfl,fun a e=>(by injection e with e; subst e; exact hb),fun r e=>(by cases e)⟩) (fun b hb=>hb) (fun e=>by cases e)
 rw [e1]
 exact ⟨_,rfl,e2⟩
def Y5 (s:aa) (l:List Int) : Nat:=(s.ac.filter fun c=>!inL l c.fId).length
theorem N4 {B:Nat} {s:aa} (h:SzS B s) (hB:B≤1000000) (k:Int) : ∃ r,zK s k=some r∧r.length≤s.ac.length:=by
 have k1:=h.apps; have k2:=h.conts; have k3:=h.nodes.1
 obtain ⟨sh,h1,h2⟩:=wS h h.conf.deep hB k
 obtain ⟨u,hu⟩:=fI h hB ⟨#[114,111,111,116]⟩ k
 unfold zK
 simp only [h1,oa s k (Nat.le_trans k3 hB),hu,zb]
 rw [zJ sh s k _ (by omega)]
 obtain ⟨r,e1,_⟩:=a7 (g:=gF sh s k) (fin:=fun b=>(b,(sh.length:Int))) (fun _ _=>True) (fun _=>True) sh 0 (i64.wrap (0 - (if 0 > (i64.wrap ((u5 s k).bg - u.bg)) then 0 else (i64.wrap ((u5 s k).bg - u.bg))))) (fun j b x hx _=>by
  obtain ⟨n,hn⟩:=KZ h hB x.aO k
  unfold gF
  simp only [hn,zb]
  exact ⟨_,rfl,fun _ _=>trivial,fun _ _=>trivial⟩) (fun _ _=>trivial) trivial
 rw [e1]
 simp only [zb]
 obtain ⟨q,f1,f2⟩:=aM (f:=qy s k r.1 sh) (fun l=>l.length + Y5 s l≤s.ac.length) (fun l=>Y5 s l) (fun r=>match r with | .inl m=>m.length≤s.ac.length | .inr m=>m.length≤s.ac.length) (fun l hl=>by
  have hl2:l.length≤s.ac.length:=by omega
  obtain ⟨m,hm⟩:=wR h hB ⟨#[]⟩ k l (by omega)
  unfold qy
  simp only [hm,zb]
  split
  ·rw [zI sh s k l (0,(⟨0,0,0,au.zero,0,0,false,0⟩ : an)) (by omega)]
   obtain ⟨t,t1,t2⟩:=a7 (g:=gD sh s k l) (fin:=fun b=>(b.1,b.2,(sh.length:Int))) (fun _ b=>b.1≠0→b.2∈s.ac∧inL l b.2.fId=false) (fun r=>r.1≠0→r.2.1∈s.ac∧inL l r.2.1.fId=false) sh 0 (0,(⟨0,0,0,au.zero,0,0,false,0⟩ : an)) (fun j b x hx hb=>by
    obtain ⟨u,hu⟩:=fI h hB x.aO k
    obtain ⟨m,hm⟩:=wR h hB x.aO k l (by omega)
    obtain ⟨n,hn,hn2⟩:=Hq h hB x.aO k l (by omega)
    unfold gD
    simp only [hu,hm,hn,cW,zb]
    split
    ·rename_i hc
     rw [Bool.and_eq_true] at hc
     exact ⟨_,rfl,fun a e=>(by injection e with e; subst e; exact fun _=>hn2 hc.1),fun r e=>(by cases e)⟩
    ·exact ⟨_,rfl,fun a e=>(by injection e with e; subst e; exact hb),fun r e=>(by cases e)⟩) (fun b hb=>hb) (fun e=>absurd rfl e)
   rw [t1]
   simp only [zb]
   split
   ·exact .inr ⟨_,rfl,hl2⟩
   ·rename_i hne
    obtain ⟨c1,c2⟩:=t2 (by simpa using hne)
    have hlt:Y5 s (l ++ [t.2.1.fId]) < Y5 s l:=IC (fun x hx=>by
     unfold inL at hx ⊢
     simp only [List.any_append,Bool.not_or,Bool.and_eq_true] at hx
     exact hx.1) s.ac ⟨t.2.1,c1,by rw [c2]; rfl,by unfold inL; simp⟩
    rw [aJ (by simp; omega)]
    exact .inl ⟨_,rfl,by rw [List.length_append,List.length_singleton]; omega,hlt⟩
  ·exact .inr ⟨_,rfl,hl2⟩) ab [] (by show 0 + (List.filter _ _).length≤_; rw [Nat.zero_add]; exact List.length_filter_le _ _) (by have:=List.length_filter_le (fun c:an=>!inL [] c.fId) s.ac; have h3:=ao (show s.ac.length≤1000000 by omega); show (s.ac.filter fun c=>!inL [] c.fId).length < ab; omega)
 rw [f1]
 simp only [zb]
 cases q with
 | inl m=>exact ⟨_,rfl,f2⟩
 | inr m=>exact ⟨_,rfl,f2⟩
theorem Cw (s t:aa) (hl:s.ac.length≤1000000) (ht:t.ac.length≤1000000) : vi s t=some ((s.ac.filter fun c=>!MB t c.fId).map an.fId):=by
 unfold vi
 dsimp only
 have e:gG s t=fun acc x=>if (!MB t x.fId)=true then (aX acc [x.fId]).map (fun a=>(.inl a:List Int⊕(List Int×Int))) else some (.inl acc):=by
  funext acc x
  unfold gG
  simp only [k9 t x.fId ht,zb]
  split
  ·cases aX acc [x.fId] <;> rfl
  ·rfl
 rw [zL s t [] hl,e,cd (fun c:an=>!MB t c.fId) an.fId _ s.ac [] (by simpa using hl)]
 simp
theorem NW {B:Nat} {s:aa} (h:SzS B s) (hB:B≤1000000) (id t:Int) : ∃ r,kj s id t=some r∧SzS B r∧r.ar=s.ar∧r.ac.length=s.ac.length:=by
 have k2:=h.conts
 have hl:s.ac.length≤1000000:=by omega
 unfold kj
 rw [aJ (by simp; omega)]
 simp only [zb,List.nil_append]
 obtain ⟨r,r1,r2⟩:=aM (f:=qu t id) (fun st=>∃ i:Nat,st.2=(i:Int)∧i≤s.ac.length∧st.1.length=s.ac.length) (fun st=>s.ac.length - st.2.toNat) (fun r=>r.1.length=s.ac.length) (fun st ⟨i,h1,h2,h3⟩=>by
  unfold qu
  simp only [h1]
  by_cases hlt:i < st.1.length
  ·have g1:st.1[i]? = some st.1[i]:=zq hlt
   simp only [bL g1,if_true,aH g1,zt,zb,bb hlt (show st.1.length≤1000000 by omega)]
   split
   ·exact .inl ⟨_,rfl,⟨i + 1,rfl,by omega,by simp; omega⟩,by simp only [zt]; omega⟩
   ·exact .inl ⟨_,rfl,⟨i + 1,rfl,by omega,h3⟩,by simp only [zt]; omega⟩
  ·have:i=st.1.length:=by omega
   subst this
   simp only [bF,zf,if_false]
   exact .inr ⟨_,rfl,h3⟩) ab (s.ac,0) ⟨0,rfl,Nat.zero_le _,rfl⟩ (by have:=ao hl; omega)
 rw [r1]
 exact ⟨_,rfl,h.cont (by omega),rfl,r2⟩
structure OkS (M:Nat) (s:aa) : Prop where
 m:SzM M s
 srt:kP aC.fId s.ar
theorem OkS.mono {M N:Nat} {s:aa} (h:OkS M s) (hn:M≤N) : OkS N s:=⟨h.m.mono hn,h.srt⟩
theorem OkS.sz {M:Nat} {s:aa} (h:OkS M s) : SzS M s:=h.m.sz
theorem Hp (s:aa) (c:an) (hl:s.ac.length≤1000000) : ∃ r,qt s c=some r:=by
 unfold qt
 dsimp only
 obtain ⟨r,r1,_⟩:=aM (f:=nh s c) (fun st=>∃ i:Nat,st.2=(i:Int)∧i≤s.ac.length) (fun st=>s.ac.length - st.2.toNat) (fun _=>True) (fun st ⟨i,h1,h2⟩=>by
  unfold nh
  simp only [h1]
  by_cases hlt:i < s.ac.length
  ·have g1:s.ac[i]? = some s.ac[i]:=zq hlt
   simp only [bL g1,if_true,aH g1,cW,zb,bb hlt hl]
   split
   ·split
    ·exact .inl ⟨_,rfl,⟨i + 1,rfl,hlt⟩,by simp only [zt]; omega⟩
    ·exact .inl ⟨_,rfl,⟨i + 1,rfl,hlt⟩,by simp only [zt]; omega⟩
   ·exact .inr ⟨_,rfl,trivial⟩
  ·have:i=s.ac.length:=by omega
   subst this
   simp only [bF,zf,if_false,zb]
   exact .inr ⟨_,rfl,trivial⟩) ab (0,0) ⟨0,rfl,Nat.zero_le _⟩ (by have:=ao hl; show s.ac.length - (0:Int).toNat < ab; omega)
 rw [r1]
 exact ⟨_,rfl⟩
theorem Jt {k:Nat} (hk:k≤1000000) : i64.wrap ((k:Int) - 1)=(k:Int) - 1:=by rw [IntKind.wrap_i64]; omega
theorem OkS.note {M:Nat} {s:aa} (h:OkS M s) (hM:M≤1000000) (id t:Int) : ∃ r,kj s id t=some r∧OkS M r∧r.ac.length=s.ac.length:=by
 obtain ⟨⟨B,h1,h2⟩,h3⟩:=h
 obtain ⟨r,r1,r2,r3,r4⟩:=NW h1 (by omega) id t
 exact ⟨r,r1,⟨⟨B,r2,by rw [r4]; exact h2⟩,by rw [r3]; exact h3⟩,r4⟩
theorem N0 {M:Nat} {s:aa} (h:OkS M s) (hM:M + 1≤1000000) (k:Int) : ∃ r,sR s k=some r∧OkS M r∧r.ac.length≤s.ac.length:=by
 have hc:=h.sz.conts
 have hl:s.ac.length≤1000000:=by omega
 unfold sR
 dsimp only
 rw [Jt hl]
 obtain ⟨r,r1,r2⟩:=aM (f:=qx s k) (fun st=>∃ i:Nat,st.2=(i:Int) - 1∧i≤s.ac.length∧st.1.length + i≤s.ac.length) (fun st=>(st.2 + 1).toNat) (fun r=>r.1.length≤s.ac.length) (fun st ⟨i,h1,h2,h3⟩=>by
  unfold qx
  simp only [h1]
  by_cases hlt : 0 < i
  ·obtain ⟨j,rfl⟩ : ∃ j,i=j + 1:=⟨i - 1,by omega⟩
   have hj:((j + 1:Nat) : Int) - 1=(j:Int):=by omega
   have g1:s.ac[j]? = some s.ac[j]:=zq (by omega)
   have hd:decide ((j:Int)≥0)=true:=by simp
   simp only [hj,hd,if_true,aH g1,cW,zb,Jt (show j≤1000000 by omega)]
   split
   ·rw [aJ (by simp; omega)]
    exact .inl ⟨_,rfl,⟨j,rfl,by omega,by simp; omega⟩,by show ((j:Int) - 1 + 1).toNat < ((j:Int) + 1).toNat; omega⟩
   ·exact .inl ⟨_,rfl,⟨j,rfl,by omega,by show st.1.length + j≤_; omega⟩,by show ((j:Int) - 1 + 1).toNat < ((j:Int) + 1).toNat; omega⟩
  ·have:i=0:=by omega
   subst this
   have hd:decide (((0:Nat) : Int) - 1≥0)=false:=by simp
   simp only [hd,zf,if_false]
   exact .inr ⟨_,rfl,by show st.1.length≤_; omega⟩) ab ([],(s.ac.length:Int) - 1) ⟨s.ac.length,rfl,Nat.le_refl _,by simp⟩ (by have:=ao hl; show ((s.ac.length:Int) - 1 + 1).toNat < ab; omega)
 rw [r1]
 simp only [zb]
 rw [zH r.1 k s (by omega)]
 obtain ⟨q,q1,q2⟩:=a7 (g:=gA r.1 k) (fin:=fun b=>(b,(r.1.length:Int))) (fun _ b=>OkS M b∧b.ac.length≤s.ac.length) (fun r=>OkS M r.1∧r.1.ac.length≤s.ac.length) r.1 0 s (fun j t x hx ⟨ht,hle⟩=>by
  have hz:=ht.sz
  have k1:=hz.apps; have k2:=hz.conts
  unfold gA
  dsimp only
  rw [k9 t _ (by omega)]
  simp only [zb]
  split
  ·exact ⟨_,rfl,fun a' e=>(by injection e with e; subst e; exact ⟨ht,hle⟩),fun r e=>(by cases e)⟩
  obtain ⟨u,hu⟩:=fI hz (by omega) (cj t (mB t x.fId).bC).bQ k
  obtain ⟨o,ho⟩:=Hp t (mB t x.fId) (by omega)
  obtain ⟨mm,hmm⟩:=Ri hz hz.conf.deep (by omega) k (cj t (mB t x.fId).bC).bQ
  obtain ⟨ls,l1,l2,l3,l4⟩:=GG ht.m ht.srt [(mB t x.fId).fId] (by simp) (by omega)
  obtain ⟨nt,n1,n2,n3⟩:=ht.note (by omega) (mB t x.fId).fId 0
  simp only [vh t _ (show t.ar.length≤1000000 by omega),hu,ho,hmm,l1,n1,zb]
  split
  ·exact ⟨_,rfl,fun a' e=>(by injection e with e; subst e; exact ⟨⟨l2,l3⟩,by omega⟩),fun r e=>(by cases e)⟩
  ·exact ⟨_,rfl,fun a' e=>(by injection e with e; subst e; exact ⟨n2,by omega⟩),fun r e=>(by cases e)⟩) (fun b hb=>hb) ⟨h,Nat.le_refl _⟩
 rw [q1]
 exact ⟨_,rfl,q2⟩
theorem K5 {M:Nat} {s:aa} (h:OkS M s) (hM:M + 1≤1000000) : ∃ r,pD s=some r∧OkS M r.1∧r.1.ac.length≤s.ac.length:=by
 have hc:=h.sz.conts
 unfold pD
 dsimp only
 obtain ⟨r,r1,r2⟩:=aM (f:=iI) (fun st=>∃ i:Nat,st.2=(i:Int)∧i≤1000∧OkS M st.1∧st.1.ac.length≤s.ac.length) (fun st=>1000 - st.2.toNat) (fun r=>OkS M r.1∧r.1.ac.length≤s.ac.length) (fun st ⟨i,h1,h2,h3,h4⟩=>by
  unfold iI
  simp only [h1]
  split
  ·rename_i hlt
   have hlab:=h3.sz.conf.sz.labels
   have hlt:i < st.1.bG.aj.length:=by have:=zd hlt; omega
   obtain ⟨a,a1,a2,a3⟩:=N0 h3 hM (i:Int)
   have hac:=a2.sz.conts
   obtain ⟨p,p1,p2⟩:=N4 a2.sz (by omega) (i:Int)
   have hp:p.length≤1000000:=by omega
   simp only [a1,p1,zb]
   rw [ya p a hp]
   obtain ⟨q,q1,q2⟩:=a7 (g:=fG p) (fin:=fun b=>(b,(p.length:Int))) (fun _ b=>OkS M b∧b.ac.length≤s.ac.length) (fun r=>OkS M r.1∧r.1.ac.length≤s.ac.length) p 0 a (fun j t x hx ⟨ht,hle⟩=>by
    obtain ⟨nt,n1,n2,n3⟩:=ht.note (by omega) x (if 1 > t.cx then 1 else t.cx)
    unfold fG
    simp only [n1,zb]
    exact ⟨_,rfl,fun a' e=>(by injection e with e; subst e; exact ⟨n2,by omega⟩),fun r e=>(by cases e)⟩) (fun b hb=>hb) ⟨a2,by omega⟩
   rw [q1]
   simp only [zb,bb (show i < 1000 by omega) (show 1000≤1000000 by omega)]
   exact .inl ⟨_,rfl,⟨i + 1,rfl,by omega,q2.1,q2.2⟩,by simp only [zt]; omega⟩
  ·exact .inr ⟨_,rfl,h3,h4⟩) ab (s,0) ⟨0,rfl,by omega,h,Nat.le_refl _⟩ (by show 1000 - (0:Int).toNat < ab; unfold ab; omega)
 rw [r1]
 simp only [zb]
 have hrc:=r2.1.sz.conts
 rw [Cw s r.1 (by omega) (by omega)]
 exact ⟨_,rfl,r2⟩
theorem R9 {s:ByteArray} {a b:Nat} (h1:a≤b) (h2:b≤s.size) : JG s (a:Int) (b:Int)=some (s.extract a b):=by
 unfold JG
 rw [if_pos ⟨by omega,by omega,by simpa using h1,by simpa using h2⟩]
 simp
theorem R8 {s:ByteArray} {a:Nat} (h1:a≤s.size) : TB s (a:Int)=some (s.extract a s.size):=by
 unfold TB
 rw [if_pos ⟨by omega,by simpa using h1⟩]
 simp
theorem Sa {s:ByteArray} {a:Nat} (h1:a≤s.size) : Pa s (a:Int)=some (s.extract 0 a):=by
 unfold Pa
 rw [if_pos ⟨by omega,by simpa using h1⟩]
 simp
theorem yW (s:ByteArray) (a b:Nat) : (s.extract a b).size≤s.size:=by simp only [ByteArray.size_extract]; omega
theorem wH {k:Nat} (hk:k≤1000000) : i64.wrap ((k:Int) + 1)=((k + 1:Nat) : Int):=by rw [IntKind.wrap_i64]; omega
theorem ltS {k n:Nat} (h:k < n) : decide ((k:Int) < (n:Int))=true:=by simpa using h
theorem geS {k:Nat} : decide ((k:Int) < (k:Int))=false:=by simp
theorem Jf (s:ByteArray) (c:Int) (hs:s.size≤100000) : ∃ r,Gb s c=some r∧r.length≤s.size + 1∧∀ x∈r,x.size≤s.size:=by
 unfold Gb
 dsimp only
 obtain ⟨r,r1,r2⟩:=aM (f:=tF s c) (fun st=>∃ i a:Nat,st.2.2=(i:Int)∧st.2.1=(a:Int)∧i≤s.size∧a≤i∧st.1.length≤i∧∀ x∈st.1,x.size≤s.size) (fun st=>s.size - st.2.2.toNat) (fun r=>∃ a:Nat,r.2.1=(a:Int)∧a≤s.size∧r.1.length≤s.size∧∀ x∈r.1,x.size≤s.size) (fun st ⟨i,a,h1,h2,h3,h4,h5,h6⟩=>by
  unfold tF
  simp only [h1,h2]
  by_cases hlt:i < s.size
  ·obtain ⟨b,hb⟩:=pM (s:=s) (k:=(i:Int)) (by omega) (by simpa using hlt)
   simp only [ltS hlt,if_true,hb,zb,wH (show i≤1000000 by omega)]
   split
   ·rw [R9 h4 h3]
    simp only [zb]
    rw [aJ (by simp; omega)]
    refine .inl ⟨_,rfl,⟨i + 1,i + 1,rfl,rfl,hlt,Nat.le_refl _,by simp; omega,fun x hx=>?_⟩,by simp only [zt]; omega⟩
    simp only [List.mem_append,List.mem_singleton] at hx
    rcases hx with hx | rfl
    ·exact h6 x hx
    ·exact yW _ _ _
   ·exact .inl ⟨_,rfl,⟨i + 1,a,rfl,rfl,hlt,by omega,by show st.1.length≤i + 1; omega,h6⟩,by simp only [zt]; omega⟩
  ·have:i=s.size:=by omega
   subst this
   simp only [geS,zf,if_false]
   exact .inr ⟨_,rfl,a,rfl,h4,h5,h6⟩) ab ([],0,0) ⟨0,0,rfl,rfl,Nat.zero_le _,Nat.le_refl _,Nat.le_refl _,fun x hx=>by cases hx⟩ (by show s.size - (0:Int).toNat < ab; unfold ab; omega)
 rw [r1]
 obtain ⟨a,k1,k2,k3,k4⟩:=r2
 simp only [zb,k1]
 split
 ·rw [R8 k2]
  simp only [zb]
  rw [aJ (by simp; omega)]
  refine ⟨_,rfl,by simp; omega,fun x hx=>?_⟩
  simp only [List.mem_append,List.mem_singleton] at hx
  rcases hx with hx | rfl
  ·exact k4 x hx
  ·exact yW _ _ _
 ·exact ⟨_,rfl,by show r.1.length≤_; omega,k4⟩
theorem ND (s:ByteArray) (hs:s.size≤100000) : ∃ r,zl s=some r∧r.length≤s.size + 1∧∀ x∈r,x.size≤s.size:=by
 obtain ⟨l,l1,l2,l3⟩:=Jf s 32 hs
 have hl:l.length≤1000000:=by omega
 unfold zl
 simp only [l1,zb]
 obtain ⟨r,r1,r2⟩:=aM (f:=qd l) (fun st=>∃ i:Nat,st.2=(i:Int)∧i≤l.length∧st.1.length≤i∧∀ x∈st.1,x.size≤s.size) (fun st=>l.length - st.2.toNat) (fun r=>r.1.length≤s.size + 1∧∀ x∈r.1,x.size≤s.size) (fun st ⟨i,h1,h2,h3,h4⟩=>by
  unfold qd
  simp only [h1]
  by_cases hlt:i < l.length
  ·have g1:l[i]? = some l[i]:=zq hlt
   simp only [bL g1,if_true,aH g1,zb,bb hlt hl]
   split
   ·rw [aJ (by simp; omega)]
    refine .inl ⟨_,rfl,⟨i + 1,rfl,hlt,by simp; omega,fun x hx=>?_⟩,by simp only [zt]; omega⟩
    simp only [List.mem_append,List.mem_singleton] at hx
    rcases hx with hx | rfl
    ·exact h4 x hx
    ·exact l3 _ (List.getElem_mem _)
   ·exact .inl ⟨_,rfl,⟨i + 1,rfl,hlt,by show st.1.length≤i + 1; omega,h4⟩,by simp only [zt]; omega⟩
  ·have:i=l.length:=by omega
   subst this
   simp only [bF,zf,if_false]
   exact .inr ⟨_,rfl,by show st.1.length≤_; omega,h4⟩) ab ([],0) ⟨0,rfl,Nat.zero_le _,Nat.le_refl _,fun x hx=>by cases hx⟩ (by have:=ao hl; show l.length - (0:Int).toNat < ab; omega)
 rw [r1]
 exact ⟨_,rfl,r2⟩
theorem tE (s:ByteArray) (hs:s.size≤100000) : ∃ r,pA s=some r:=by
 unfold pA
 simp only [orB,zb]
 by_cases h0:s.size < 1∨s.size > 7
 ·have:(decide ((s.size:Int) < 1)||decide ((s.size:Int) > 7))=true:=by
   rcases h0 with h | h
   ·have:decide ((s.size:Int) < 1)=true:=by simp; omega
    rw [this]; rfl
   ·have:decide ((s.size:Int) > 7)=true:=by simp; omega
    rw [this]; simp
  simp only [this,if_true,zb]
  exact ⟨_,rfl⟩
 ·have:(decide ((s.size:Int) < 1)||decide ((s.size:Int) > 7))=false:=by
   have h1:decide ((s.size:Int) < 1)=false:=by simp; omega
   have h2:decide ((s.size:Int) > 7)=false:=by simp; omega
   rw [h1,h2]; rfl
  obtain ⟨b,hb⟩:=pM (s:=s) (k:=0) (by omega) (by simp; omega)
  simp only [this,zf,if_false,hb,cW,zb]
  split
  ·exact ⟨_,rfl⟩
  ·obtain ⟨r,r1,_⟩:=aM (f:=oH s) (fun st=>∃ i:Nat,st.2=(i:Int)∧i≤s.size) (fun st=>s.size - st.2.toNat) (fun _=>True) (fun st ⟨i,h1,h2⟩=>by
    unfold oH
    simp only [h1]
    by_cases hlt:i < s.size
    ·obtain ⟨b,hb⟩:=pM (s:=s) (k:=(i:Int)) (by omega) (by simpa using hlt)
     simp only [ltS hlt,if_true,hb,orB,zb,wH (show i≤1000000 by omega)]
     split
     ·exact .inr ⟨_,rfl,trivial⟩
     ·exact .inl ⟨_,rfl,⟨i + 1,rfl,hlt⟩,by simp only [zt]; omega⟩
    ·have:i=s.size:=by omega
     subst this
     simp only [geS,zf,if_false]
     exact .inr ⟨_,rfl,trivial⟩) ab (0,0) ⟨0,rfl,Nat.zero_le _⟩ (by show s.size - (0:Int).toNat < ab; unfold ab; omega)
   rw [r1]
   simp only [zb]
   cases r <;> exact ⟨_,rfl⟩
theorem NF (s:ByteArray) (hs:s.size≤100000) : ∃ r,zn s=some r:=by
 unfold zn
 dsimp only
 obtain ⟨r,r1,i,r2,r3⟩:=aM (f:=qe s) (fun st=>∃ i:Nat,st=(i:Int)∧i≤s.size) (fun st=>s.size - st.toNat) (fun st=>∃ i:Nat,st=(i:Int)∧i≤s.size) (fun st ⟨i,h1,h2⟩=>by
  unfold qe
  simp only [h1]
  by_cases hlt:i < s.size
  ·obtain ⟨b,hb⟩:=pM (s:=s) (k:=(i:Int)) (by omega) (by simpa using hlt)
   simp only [ltS hlt,if_true,hb,zb,wH (show i≤1000000 by omega)]
   split
   ·exact .inl ⟨_,rfl,⟨i + 1,rfl,hlt⟩,by simp only [zt]; omega⟩
   ·exact .inr ⟨_,rfl,i,rfl,h2⟩
  ·have:i=s.size:=by omega
   subst this
   simp only [geS,zf,if_false,zb]
   exact .inr ⟨_,rfl,_,rfl,Nat.le_refl _⟩) ab 0 ⟨0,rfl,Nat.zero_le _⟩ (by show s.size - (0:Int).toNat < ab; unfold ab; omega)
 rw [r1]
 subst r2
 simp only [zb]
 split
 ·exact ⟨_,rfl⟩
 ·rename_i hne
  have hlt:i < s.size:=by
   have:i≠s.size:=fun e=>hne (by rw [e]; simp)
   omega
  obtain ⟨a,ha⟩:=tE (s.extract 0 i) (Nat.le_trans (yW _ _ _) hs)
  obtain ⟨b,hb⟩:=tE (s.extract (i + 1) s.size) (Nat.le_trans (yW _ _ _) hs)
  rw [Sa (Nat.le_of_lt hlt)]
  simp only [zb,ha,wH (show i≤1000000 by omega)]
  rw [R8 hlt]
  simp only [zb,hb,cW]
  exact ⟨_,rfl⟩
theorem NG (w:List ByteArray) (n:Nat) (hn:n≤1000) (hw:w.length≤100001) (hs:∀ x∈w,x.size≤100000) : ∃ r,zo w (n:Int)=some r∧r.1.bt.length≤100001∧r.1.aO.size≤100000:=by
 have hwr:i64.wrap (3 + (n:Int))=((3 + n:Nat) : Int):=by rw [IntKind.wrap_i64]; omega
 unfold zo
 simp only [hwr]
 by_cases hl:w.length=3 + n
 ·have hl':((w.length:Int) != ((3 + n:Nat) : Int))=false:=by rw [hl]; simp
  have g0:w[0]? = some w[0]:=zq (by omega)
  have g1:w[1]? = some w[1]:=zq (by omega)
  have g2:w[2]? = some w[2]:=zq (by omega)
  have i0:=aH g0
  have i1:=aH g1
  have i2:=aH g2
  obtain ⟨m,hm⟩:=tE w[2] (hs _ (List.getElem_mem _))
  have i0':aw w 0=some w[0]:=i0
  have i1':aw w 1=some w[1]:=i1
  have i2':aw w 2=some w[2]:=i2
  simp only [hl',zf,if_false,i0',zb]
  split
  ·exact ⟨_,rfl,by simp,Nat.zero_le _⟩
  ·simp only [i2',hm,i1',zb]
   obtain ⟨r,r1,r2⟩:=aM (f:=qf w) (fun st=>∃ i:Nat,st.2.2=(i:Int)∧i≤w.length∧st.2.1.bt.length≤i∧st.2.1.aO.size≤100000) (fun st=>w.length - st.2.2.toNat) (fun r=>r.2.1.bt.length≤100001∧r.2.1.aO.size≤100000) (fun st ⟨i,h1,h2,h3,h4⟩=>by
    unfold qf
    simp only [h1]
    by_cases hlt:i < w.length
    ·have g1:w[i]? = some w[i]:=zq hlt
     obtain ⟨c,hc⟩:=NF w[i] (hs _ (List.getElem_mem _))
     simp only [bL g1,if_true,aH g1,hc,zb,bb hlt (show w.length≤1000000 by omega)]
     split
     ·rw [aJ (by simp; omega)]
      exact .inl ⟨_,rfl,⟨i + 1,rfl,hlt,by simp; omega,h4⟩,by simp only [zt]; omega⟩
     ·exact .inr ⟨_,rfl,by show st.2.1.bt.length≤_; omega,h4⟩
    ·have:i=w.length:=by omega
     subst this
     simp only [bF,zf,if_false,zb]
     exact .inr ⟨_,rfl,by show st.2.1.bt.length≤_; omega,h4⟩) ab (m.2,(⟨w[1],[],m.1⟩ : aE),3) ⟨3,rfl,by omega,by simp,hs _ (List.getElem_mem _)⟩ (by show w.length - (3:Int).toNat < ab; unfold ab; omega)
   rw [r1]
   exact ⟨_,rfl,r2⟩
 ·have hl':((w.length:Int) != ((3 + n:Nat) : Int))=true:=by simp; omega
  simp only [hl',if_true,zb]
  exact ⟨_,rfl,by simp,Nat.zero_le _⟩
structure nw (c:ay) : Prop where
 labels:c.aj.length≤3
 label:∀ x∈c.aj,x.size≤100000
 queues:c.ae.length≤2001
 paths:∀ q∈c.ae,q.aO.size≤100000
 caps:∀ q∈c.ae,q.bt.length≤100001
theorem nw.nil:nw ⟨[],[]⟩:=⟨by simp,fun x hx=>(by cases hx),by simp,fun x hx=>(by cases hx),fun x hx=>(by cases hx)⟩
theorem NJ (s:ByteArray) : ∃ r,zr s=some r∧nw r.1:=by
 unfold zr
 by_cases h0:s.size > 2000
 ·have:decide ((s.size:Int) > 2000)=true:=by simp; omega
  simp only [this,if_true]
  exact ⟨_,rfl,.nil⟩
 have hd:decide ((s.size:Int) > 2000)=false:=by simp; omega
 simp only [hd,zf,if_false]
 obtain ⟨l,l1,l2,l3⟩:=Jf s 10 (by omega)
 have hl:l.length≤1000000:=by omega
 simp only [l1,zb]
 obtain ⟨r,r1,r2⟩:=aM (f:=qh l) (fun st=>∃ i:Nat,st.2.2=(i:Int)∧i≤l.length∧st.1.ae.length≤i∧nw st.1) (fun st=>l.length - st.2.2.toNat) (fun r=>match r with | .inl m=>nw m.1 | .inr m=>nw m.1) (fun st ⟨i,h1,h2,hq,hp⟩=>by
  unfold qh
  simp only [h1]
  by_cases hlt:i < l.length
  ·have g1:l[i]? = some l[i]:=zq hlt
   have hls:=l3 _ (List.getElem_mem hlt)
   obtain ⟨w,w1,w2,w3⟩:=ND l[i] (by omega)
   simp only [bL g1,if_true,aH g1,w1,zb,bb hlt hl]
   split
   ·exact .inl ⟨_,rfl,⟨i + 1,rfl,hlt,by show st.1.ae.length≤i + 1; omega,hp⟩,by simp only [zt]; omega⟩
   rename_i hw0
   have hw : 0 < w.length:=by
    rcases Nat.eq_zero_or_pos w.length with e | e
    ·rw [e] at hw0; simp at hw0
    ·exact e
   have i0':aw w 0=some w[0]:=aH (zq hw)
   split
   ·simp only [i0',zb]
    split
    ·exact .inr ⟨_,rfl,.nil⟩
    split
    ·exact .inr ⟨_,rfl,.nil⟩
    rename_i h3
    have h3:w.length≤3:=by have : ¬ ((w.length:Int) > 3):=fun e=>h3 (by simpa using e); omega
    have hlo:loO w 1=some (w.drop 1):=i6 (l:=w) (k:=1) hw
    simp only [hlo,zb]
    rw [aJ (by simp; omega)]
    simp only [zb]
    refine .inl ⟨_,rfl,⟨i + 1,rfl,hlt,by show st.1.ae.length≤i + 1; omega,⟨by simp; omega,fun x hx=>?_,hp.queues,hp.paths,hp.caps⟩⟩,by simp only [zt]; omega⟩
    simp only [List.singleton_append,List.mem_cons] at hx
    rcases hx with rfl | hx
    ·exact Nat.zero_le _
    ·have:=w3 x (List.mem_of_mem_drop hx); omega
   ·simp only [i0',cW,zb]
    split
    ·exact .inr ⟨_,rfl,.nil⟩
    obtain ⟨q,q1,q2,q3⟩:=NG w st.1.aj.length (by have:=hp.labels; omega) (by omega) (fun x hx=>by have:=w3 x hx; omega)
    simp only [q1,zb]
    split
    ·exact .inr ⟨_,rfl,.nil⟩
    obtain ⟨K,k1,k2,k3,k4⟩:=aM (f:=qg st.1 q.1) (fun st2=>∃ j:Nat,st2=(j:Int)∧j≤st.1.ae.length) (fun st2=>st.1.ae.length - st2.toNat) (fun st2=>∃ j:Nat,st2=(j:Int)∧j≤st.1.ae.length) (fun st2 ⟨j,e1,e2⟩=>by
     unfold qg
     simp only [e1]
     by_cases hj:j < st.1.ae.length
     ·have g2:st.1.ae[j]? = some st.1.ae[j]:=zq hj
      simp only [bL g2,if_true,aH g2,zb,bb hj (show st.1.ae.length≤1000000 by omega)]
      split
      ·exact .inl ⟨_,rfl,⟨j + 1,rfl,hj⟩,by simp only [zt]; omega⟩
      ·exact .inr ⟨_,rfl,j,rfl,e2⟩
     ·have:j=st.1.ae.length:=by omega
      subst this
      simp only [bF,zf,if_false,zb]
      exact .inr ⟨_,rfl,_,rfl,Nat.le_refl _⟩) ab 0 ⟨0,rfl,Nat.zero_le _⟩ (by have:=ao (show st.1.ae.length≤1000000 by omega); show st.1.ae.length - (0:Int).toNat < ab; omega)
    subst k3
    have fin:∀ tw:Bool,(∃ s',(Option.bind (hiO st.1.ae ((k2:Nat) : Int)) fun b16=>Option.bind (aX ([] : (List aE)) b16) fun b17=>Option.bind (aX b17 [q.1]) fun b18=>Option.bind (loO st.1.ae ((k2:Nat) : Int)) fun b19=>Option.bind (aX b18 b19) fun b20=>some (Sum.inl ({ st.1 with ae:=b20 },tw,((i + 1:Nat) : Int)) : (ay×Bool×Int)⊕((ay×Bool×Int)⊕(ay×Int))))=some (.inl s')∧(∃ i:Nat,s'.2.2=(i:Int)∧i≤l.length∧s'.1.ae.length≤i∧nw s'.1)∧l.length - s'.2.2.toNat < l.length - ((i:Nat) : Int).toNat):=by
     intro tw
     rw [lB k4]
     simp only [zb]
     rw [aJ (by simp; omega)]
     simp only [zb]
     rw [aJ (by simp; omega)]
     simp only [zb]
     rw [i6 k4]
     simp only [zb]
     rw [aJ (by simp; omega)]
     simp only [zb]
     have mem:∀ x∈([] ++ st.1.ae.take k2 ++ [q.1])++st.1.ae.drop k2,x∈st.1.ae∨x=q.1:=by
      intro x hx
      simp only [List.nil_append,List.mem_append,List.mem_singleton] at hx
      rcases hx with (hx | hx) | hx
      ·exact .inl (List.mem_of_mem_take hx)
      ·exact .inr hx
      ·exact .inl (List.mem_of_mem_drop hx)
     refine ⟨_,rfl,⟨i + 1,rfl,hlt,by simp; omega,⟨hp.labels,hp.label,by simp; omega,fun x hx=>?_,fun x hx=>?_⟩⟩,by simp only [zt]; omega⟩
     ·rcases mem x hx with hx | rfl
      ·exact hp.paths x hx
      ·exact q3
     ·rcases mem x hx with hx | rfl
      ·exact hp.caps x hx
      ·exact q2
    simp only [k1,orB,zb]
    by_cases hj:k2 < st.1.ae.length
    ·have g2:st.1.ae[k2]? = some st.1.ae[k2]:=zq hj
     simp only [bL g2,if_true,aH g2,zb]
     by_cases ht:st.2.1=true
     ·simp only [ht,if_true,zb]
      exact .inl (fin _)
     ·simp only [ht,zf,if_false,zb]
      exact .inl (fin _)
    ·have:k2=st.1.ae.length:=by omega
     subst this
     simp only [bF,zf,if_false,zb]
     by_cases ht:st.2.1=true
     ·simp only [ht,if_true,zb]
      exact .inl (fin _)
     ·simp only [ht,zf,if_false,zb]
      exact .inl (fin _)
  ·have:i=l.length:=by omega
   subst this
   simp only [bF,zf,if_false]
   exact .inr ⟨_,rfl,hp⟩) ab ((⟨[],[]⟩ : ay),false,0) ⟨0,rfl,Nat.zero_le _,by simp,.nil⟩ (by have:=ao hl; show l.length - (0:Int).toNat < ab; omega)
 rw [r1]
 simp only [zb]
 cases r with
 | inr m=>exact ⟨_,rfl,r2⟩
 | inl m =>
  dsimp only
  split
  ·exact ⟨_,rfl,.nil⟩
  split
  ·exact ⟨_,rfl,.nil⟩
  ·exact ⟨_,rfl,r2⟩
def inI (n:Int) : Prop:=-9223372036854775808≤n∧n≤9223372036854775807
theorem fo {s t:ByteArray} (h:s.size + t.size≤9223372036854775807) : mA s t=some (s++t):=by unfold mA; rw [if_pos h]
theorem Wi (n:Int) : ∃ r,YM [n] = some r∧r.size=1:=⟨_,rfl,by simp [ByteArray.size_push]⟩
theorem P0:∀ (d:Nat) (n:Int),0≤n→n < 10 ^ (d + 1)→d≤30→n≤9223372036854775807→∀ f,d < f→∃ r,dv f n=some r∧r.size≤d + 1
 | d,n,h0,h1,hd,h2,0,hf=>by omega
 | d,n,h0,h1,hd,h2,f + 1,hf=>by
  unfold dv
  have e1:decide (n < 0)=false:=by simp; omega
  simp only [e1,zf,if_false]
  by_cases hn:n≥10
  ·have e2:decide (n≥10)=true:=by simpa using hn
   match d,h1,hd,hf with
   | 0,h1,_,_=>simp at h1; omega
   | d + 1,h1,hd,hf =>
   have hq:n.tdiv 10=n / 10:=Int.tdiv_eq_ediv_of_nonneg h0
   have hm:n.tmod 10=n % 10:=Int.tmod_eq_emod_of_nonneg h0
   have hw:i64.wrap (n / 10)=n / 10:=by rw [IntKind.wrap_i64]; omega
   have hlt:n / 10 < 10 ^ (d + 1):=by
    have e:(10:Int) ^ (d + 1 + 1)=10 ^ (d + 1) * 10:=by rw [Int.pow_succ]
    rw [e] at h1
    generalize (10:Int) ^ (d + 1)=P at h1 ⊢
    omega
   obtain ⟨a,a1,a2⟩:=P0 d (n / 10) (by omega) hlt (by omega) (by omega) f (by omega)
   obtain ⟨b,b1,b2⟩:=P0 0 (n % 10) (by omega) (by simp; omega) (by omega) (by omega) f (by omega)
   simp only [e2,if_true,hq,hm,hw,a1,b1,zb]
   rw [fo (by omega)]
   exact ⟨_,rfl,by simp only [ByteArray.size_append]; omega⟩
  ·have e2:decide (n≥10)=false:=by simp; omega
   obtain ⟨r,r1,r2⟩:=Wi (IntKind.u8.wrap (i64.wrap (48 + n)))
   simp only [e2,zf,if_false,r1,zb]
   exact ⟨_,rfl,by omega⟩
theorem S7 {n:Int} (h0 : 0≤n) (h:n≤9223372036854775807) {f:Nat} (hf : 18 < f) : ∃ r,dv f n=some r∧r.size≤19:=P0 18 n h0 (Int.lt_of_le_of_lt h (by decide)) (by omega) h f hf
theorem rH {n:Int} (h:inI n) : ∃ r,dv ab n=some r∧r.size≤30:=by
 by_cases h0 : 0≤n
 ·obtain ⟨r,r1,r2⟩:=S7 h0 h.2 (f:=ab) (by unfold ab; omega)
  exact ⟨r,r1,by omega⟩
 ·have hr:ab=999999999 + 1:=rfl
  rw [hr]
  have hneg:∀ f,18 < f→∃ r,dv (f + 1) n=some r∧r.size≤30:=fun f hf=>by
   unfold dv
   have e1:decide (n < 0)=true:=by simp; omega
   simp only [e1,if_true]
   split
   ·exact ⟨_,rfl,by decide⟩
   ·rename_i hne
    have hne:n≠-9223372036854775808:=by simpa using hne
    have hw:i64.wrap (0 - n)=0 - n:=by rw [IntKind.wrap_i64]; have:=h.1; omega
    obtain ⟨a,a1,a2⟩:=S7 (n:=0 - n) (by omega) (by have:=h.1; omega) (f:=f) hf
    simp only [hw,a1,zb]
    have e3:(⟨#[45]⟩ : ByteArray).size=1:=rfl
    rw [fo (by rw [e3]; omega)]
    exact ⟨_,rfl,by simp only [ByteArray.size_append,e3]; omega⟩
  exact hneg 999999999 (by omega)
structure X5 (c:ay) : Prop where
 labels:c.aj.length≤1000
 label:∀ x∈c.aj,x.size≤100000
 queues:c.ae.length≤1000
 paths:∀ q∈c.ae,q.aO.size≤100000
 caps:∀ q∈c.ae,q.bt.length≤1000
 user:∀ q∈c.ae,inI q.de
 nums:∀ q∈c.ae,∀ x∈q.bt,inI x.kM∧inI x.sy
theorem Gc {c:ay} (h:X5 c) : ∃ r,zp c=some r:=by
 have s1:(⟨#[32]⟩ : ByteArray).size=1:=rfl
 have s2:(⟨#[10]⟩ : ByteArray).size=1:=rfl
 have s3:(⟨#[47]⟩ : ByteArray).size=1:=rfl
 have s4:(⟨#[113,117,101,117,101,32]⟩ : ByteArray).size=6:=rfl
 have s5:(⟨#[108,97,98,101,108,115]⟩ : ByteArray).size=6:=rfl
 have hl:=h.labels
 have hq:=h.queues
 unfold zp
 dsimp only
 obtain ⟨r,r1,r2⟩:=aM (f:=rC c) (fun st=>∃ i:Nat,st.2=(i:Int)∧i≤1001∧st.1.size≤10 + i * 200000) (fun st=>c.aj.length - st.2.toNat) (fun r=>r.1.size≤300000000) (fun st ⟨i,h1,h2,h3⟩=>by
  unfold rC
  simp only [h1]
  by_cases hlt:i < c.aj.length
  ·have g1:c.aj[i]? = some c.aj[i]:=zq hlt
   have hs:=h.label _ (List.getElem_mem hlt)
   simp only [bL g1,if_true,aH g1,zb,bb hlt (show c.aj.length≤1000000 by omega)]
   rw [fo (by rw [s1]; omega)]
   simp only [zb]
   rw [fo (by simp only [ByteArray.size_append,s1]; omega)]
   exact .inl ⟨_,rfl,⟨i + 1,rfl,by omega,by simp only [ByteArray.size_append,s1]; omega⟩,by simp only [zt]; omega⟩
  ·have:decide ((i:Int) < (c.aj.length:Int))=false:=by simp; omega
   simp only [this,zf,if_false]
   exact .inr ⟨_,rfl,by show st.1.size≤_; omega⟩) ab ((⟨#[108,97,98,101,108,115]⟩ : ByteArray),1) ⟨1,rfl,by omega,by rw [s5]; omega⟩ (by show c.aj.length - (1:Int).toNat < ab; unfold ab; omega)
 rw [r1]
 simp only [zb]
 rw [fo (by rw [s2]; omega)]
 simp only [zb]
 obtain ⟨q,q1,_⟩:=aM (f:=rB c) (fun st=>∃ i:Nat,st.2=(i:Int)∧i≤c.ae.length∧st.1.size≤400000000 + i * 1000000) (fun st=>c.ae.length - st.2.toNat) (fun _=>True) (fun st ⟨i,h1,h2,h3⟩=>by
  unfold rB
  simp only [h1]
  by_cases hlt:i < c.ae.length
  ·have g1:c.ae[i]? = some c.ae[i]:=zq hlt
   have hm:=List.getElem_mem hlt
   generalize c.ae[i] = Q at g1 hm
   have hp:=h.paths _ hm
   have hc:=h.caps _ hm
   have hn:=h.nums _ hm
   obtain ⟨u,u1,u2⟩:=rH (h.user _ hm)
   simp only [bL g1,if_true,aH g1,u1,zb,bb hlt (show c.ae.length≤1000000 by omega)]
   rw [fo (by rw [s4]; omega)]
   simp only [zb]
   rw [fo (by simp only [ByteArray.size_append,s4]; omega)]
   simp only [zb]
   rw [fo (by simp only [ByteArray.size_append,s4,s1]; omega)]
   simp only [zb]
   rw [fo (by simp only [ByteArray.size_append,s4,s1]; omega)]
   simp only [zb]
   generalize hX:st.1++(⟨#[113,117,101,117,101,32]⟩ : ByteArray)++Q.aO++(⟨#[32]⟩ : ByteArray)++u=X
   have hXs:X.size≤400000000 + i * 1000000 + 200000:=by rw [← hX]; simp only [ByteArray.size_append,s4,s1]; omega
   obtain ⟨w,w1,w2⟩:=aM (f:=rA Q) (fun st2=>∃ j:Nat,st2.2=(j:Int)∧j≤Q.bt.length∧st2.1.size≤X.size + j * 100) (fun st2=>Q.bt.length - st2.2.toNat) (fun r=>r.1.size≤X.size + 100000) (fun st2 ⟨j,e1,e2,e3⟩=>by
    unfold rA
    simp only [e1]
    by_cases hj:j < Q.bt.length
    ·have g2:Q.bt[j]? = some Q.bt[j]:=zq hj
     obtain ⟨n1,n2⟩:=hn _ (List.getElem_mem hj)
     obtain ⟨a,a1,a2⟩:=rH n1
     obtain ⟨b,b1,b2⟩:=rH n2
     simp only [bL g2,if_true,aH g2,a1,b1,zb,bb hj (show Q.bt.length≤1000000 by omega)]
     rw [fo (by rw [s1]; omega)]
     simp only [zb]
     rw [fo (by simp only [ByteArray.size_append,s1]; omega)]
     simp only [zb]
     rw [fo (by simp only [ByteArray.size_append,s1,s3]; omega)]
     simp only [zb]
     rw [fo (by simp only [ByteArray.size_append,s1,s3]; omega)]
     exact .inl ⟨_,rfl,⟨j + 1,rfl,hj,by simp only [ByteArray.size_append,s1,s3]; omega⟩,by simp only [zt]; omega⟩
    ·have:j=Q.bt.length:=by omega
     subst this
     simp only [bF,zf,if_false]
     exact .inr ⟨_,rfl,by show st2.1.size≤_; omega⟩) ab (X,0) ⟨0,rfl,Nat.zero_le _,by simp⟩ (by show Q.bt.length - (0:Int).toNat < ab; unfold ab; omega)
   rw [w1]
   simp only [zb]
   rw [fo (by rw [s2]; omega)]
   exact .inl ⟨_,rfl,⟨i + 1,rfl,hlt,by simp only [ByteArray.size_append,s2]; omega⟩,by simp only [zt]; omega⟩
  ·have:i=c.ae.length:=by omega
   subst this
   simp only [bF,zf,if_false]
   exact .inr ⟨_,rfl,trivial⟩) ab (r.1++(⟨#[10]⟩ : ByteArray),0) ⟨0,rfl,Nat.zero_le _,by simp only [ByteArray.size_append,s2]; omega⟩ (by show c.ae.length - (0:Int).toNat < ab; unfold ab; omega)
 rw [q1]
 exact ⟨_,rfl⟩
def cnt (s:ByteArray) (k:Nat) : Nat:=((s.data.toList.take k).filter (fun c=>c==46)).length
def dots (s:ByteArray) : Nat:=cnt s s.size
theorem H6 {s:ByteArray} {i:Nat} {b:Int} (h:lu s (i:Int)=some b) : ∃ c:UInt8,s.data.toList[i]? = some c∧b=(c.toNat:Int):=by
 unfold lu at h
 rw [if_pos (by omega)] at h
 rw [zt,zm] at h
 obtain ⟨c,h1,h2⟩:=h
 exact ⟨c,h1,h2.symm⟩
theorem FH {s:ByteArray} {i:Nat} {c:UInt8} (h:s.data.toList[i]? = some c) : cnt s (i + 1)=cnt s i + (if c=46 then 1 else 0):=by
 unfold cnt
 rw [List.take_add_one,h,List.filter_append,List.length_append]
 by_cases hc:c=46
 ·subst hc; simp
 ·have:(c==46)=false:=by simpa using hc
  simp [hc,this]
theorem XI (s:ByteArray) {i j:Nat} (h:i≤j) : cnt s i≤cnt s j:=by
 unfold cnt
 exact (List.Sublist.filter _ ((List.take_prefix_take_left h).sublist)).length_le
theorem Xz {c:UInt8} (h:((c.toNat:Int) != 46)=false) : c=46:=by
 have h:(c.toNat:Int)=46:=by simpa using h
 have h:c.toNat=46:=by omega
 exact UInt8.toNat_inj.1 (by rw [h]; rfl)
theorem WN {c:UInt8} (h:((c.toNat:Int) != 46)=true) : c≠46:=by
 intro e
 subst e
 simp at h
theorem Xy {s:ByteArray} {k:Nat} (hk:k≤s.size) : dots (s.extract 0 k)=cnt s k:=by
 unfold dots cnt
 have e1:(s.extract 0 k).data.toList=s.data.toList.take k:=by
  simp [ByteArray.data_extract]
 have e2:(s.extract 0 k).size=k:=by simp only [ByteArray.size_extract]; omega
 rw [e1,e2,List.take_take,Nat.min_self]
theorem Qc {p r:ByteArray} (hp:p.size≤1000000) (h:ed p=some r) : r.size=0∨dots r + 1≤dots p:=by
 unfold ed at h
 dsimp only at h
 obtain ⟨k,hk,h⟩:=bv h
 have hq:k < 0∨lu p k=some 46:=by
  refine mR (f:=jt p) (fun _=>True) (fun k=>k < 0∨lu p k=some 46) (fun st r _ h=>?_) _ _ k trivial hk
  unfold jt at h
  dsimp only at h
  obtain ⟨q,hq,h⟩:=bv h
  split at h
  ·injection h with h; subst h; trivial
  ·rename_i hf
   injection h with h
   subst h
   show st < 0∨lu p st=some 46
   split at hq
   ·obtain ⟨b,hb,hq⟩:=bv hq
    injection hq with hq
    have:b=46:=by rw [← hq] at hf; simpa using hf
    exact .inr (by rw [hb,this])
   ·rename_i hge
    exact .inl (by have : ¬ (st≥0):=fun e=>hge (by simpa using e); omega)
 split at h
 ·injection h with h; subst h; exact .inl rfl
 ·rename_i hge
  have hge : ¬ k < 0:=fun e=>hge (by simpa using e)
  obtain ⟨b,hb,h⟩:=bv h
  injection h with h
  subst h
  rcases hq with hq | hq
  ·exact absurd hq hge
  ·obtain ⟨n,rfl⟩ : ∃ n:Nat,k=(n:Int):=⟨k.toNat,by omega⟩
   obtain ⟨c,hc,e⟩:=H6 hq
   have hlt:n < p.size:=by have:=(zg.1 hc).1; simpa using this
   rw [Sa (Nat.le_of_lt hlt)] at hb
   injection hb with hb
   subst hb
   refine .inr ?_
   rw [Xy (Nat.le_of_lt hlt)]
   have hc46:c=46:=Xz (by rw [← e]; rfl)
   have h1:=FH hc
   rw [if_pos hc46] at h1
   have h2:=XI p (i:=n + 1) (j:=p.size) hlt
   unfold dots
   omega
theorem sI {p:ByteArray} (hp:p.size≤1000000) : ed p=some (fg p)∧((fg p).size < p.size∨(fg p).size=0):=by
 obtain ⟨r,h1,h2⟩:=od p hp
 unfold fg
 rw [h1]
 exact ⟨rfl,h2⟩
theorem FA:∀ (n:Nat) (p:ByteArray),p.size≤1000000→dH n p≤dots p + 1
 | 0,p,_=>Nat.zero_le _
 | n + 1,p,hp=>by
  unfold dH
  split
  ·exact Nat.zero_le _
  ·obtain ⟨h1,h2⟩:=sI hp
   have ih:=FA n (fg p) (by omega)
   rcases Qc hp h1 with h | h
   ·have:dH n (fg p)=0:=by
     cases n with
     | zero=>rfl
     | succ n=>unfold dH; rw [if_pos h]
    omega
   ·omega
theorem Ga (s:ByteArray) : ∃ r,vY s=some r:=by
 unfold vY
 simp only [orB,zb]
 by_cases h0:s.size < 1∨s.size > 12
 ·have:(decide ((s.size:Int) < 1)||decide ((s.size:Int) > 12))=true:=by
   rcases h0 with h | h
   ·have:decide ((s.size:Int) < 1)=true:=by simp; omega
    rw [this]; rfl
   ·have:decide ((s.size:Int) > 12)=true:=by simp; omega
    rw [this]; simp
  simp only [this,if_true]
  exact ⟨_,rfl⟩
 ·have:(decide ((s.size:Int) < 1)||decide ((s.size:Int) > 12))=false:=by
   have h1:decide ((s.size:Int) < 1)=false:=by simp; omega
   have h2:decide ((s.size:Int) > 12)=false:=by simp; omega
   rw [h1,h2]; rfl
  simp only [this,zf,if_false]
  obtain ⟨r,r1,_⟩:=aM (f:=rz s) (fun st=>∃ i:Nat,st=(i:Int)∧i≤s.size) (fun st=>s.size - st.toNat) (fun _=>True) (fun st ⟨i,h1,h2⟩=>by
   unfold rz
   simp only [h1]
   by_cases hlt:i < s.size
   ·obtain ⟨b,hb⟩:=pM (s:=s) (k:=(i:Int)) (by omega) (by simpa using hlt)
    simp only [ltS hlt,if_true,hb,orB,cW,zb,wH (show i≤1000000 by omega)]
    split
    ·exact .inr ⟨_,rfl,trivial⟩
    ·exact .inl ⟨_,rfl,⟨i + 1,rfl,hlt⟩,by simp only [zt]; omega⟩
   ·have:i=s.size:=by omega
    subst this
    simp only [geS,zf,if_false]
    exact .inr ⟨_,rfl,trivial⟩) ab 0 ⟨0,rfl,Nat.zero_le _⟩ (by show s.size - (0:Int).toNat < ab; unfold ab; omega)
  rw [r1]
  simp only [zb]
  cases r <;> exact ⟨_,rfl⟩
theorem KL (s:ByteArray) (hs:s.size≤100000) : ∃ r,vX s=some r∧(r=true→dots s≤3):=by
 unfold vX
 dsimp only
 have hcn:∀ k,cnt s k≤100000:=fun k=>by
  unfold cnt
  refine Nat.le_trans (List.length_filter_le _ _) (Nat.le_trans (List.length_take_le' _ _) ?_)
  simpa using hs
 obtain ⟨r,r1,r2⟩:=aM (f:=oG s) (fun st=>∃ i a n:Nat,st.2.2=(i:Int)∧st.1=(a:Int)∧st.2.1=(n:Int)∧a≤i∧((i≤s.size∧n=cnt s i)∨(i=s.size + 1∧n=cnt s s.size + 1))) (fun st=>s.size + 1 - st.2.2.toNat) (fun r=>match r with | .inl m=>m.2.1=((cnt s s.size + 1:Nat) : Int) | .inr b=>b=false) (fun st ⟨i,a,n,h1,h2,h3,h4,h5⟩=>by
  unfold oG
  simp only [h1,h2,h3]
  rcases h5 with ⟨h5,h6⟩ | ⟨h5,h6⟩
  ·have hle:decide ((i:Int)≤(s.size:Int))=true:=by simp; omega
   have hn:n≤100000:=by rw [h6]; exact hcn i
   obtain ⟨nm,hnm⟩:=Ga (s.extract a i)
   simp only [hle,if_true]
   have body:∀ n',(n' = n + 1)→(i=s.size∨cnt s (i + 1)=n + 1)→∃ o,(Option.bind (JG s (a:Int) (i:Int)) fun b5=>Option.bind (vY b5) fun c6=>Option.bind (if (!c6)=true then some true else Option.bind (if ((n:Int)==0)=true then Option.bind (JG s (a:Int) (i:Int)) fun b7=>some (!(b7.toList==(⟨#[114,111,111,116]⟩ : ByteArray).toList)) else some false) fun q8=>some q8) fun q9=>if q9=true then some (Sum.inr (Sum.inr false) : (Int×Int×Int)⊕((Int×Int×Int)⊕Bool)) else some (.inl (i64.wrap ((i:Int) + 1),i64.wrap ((n:Int) + 1),i64.wrap ((i:Int) + 1))))=some o∧(o = .inr (.inr false)∨o = .inl (((i + 1:Nat) : Int),((n + 1:Nat) : Int),((i + 1:Nat) : Int))):=by
    intro n' _ _
    simp only [R9 h4 h5,hnm,zb,wH (show i≤1000000 by omega),wH (show n≤1000000 by omega)]
    have:∀ q:Bool,∃ o,(if q=true then some (Sum.inr (Sum.inr false) : (Int×Int×Int)⊕((Int×Int×Int)⊕Bool)) else some (.inl (((i + 1:Nat) : Int),((n + 1:Nat) : Int),((i + 1:Nat) : Int))))=some o∧(o = .inr (.inr false)∨o = .inl (((i + 1:Nat) : Int),((n + 1:Nat) : Int),((i + 1:Nat) : Int))):=fun q=>by
     cases q
     ·exact ⟨_,rfl,.inr rfl⟩
     ·exact ⟨_,rfl,.inl rfl⟩
    cases nm with
    | false=>simp only [Bool.not_false,if_true,zb]; exact ⟨_,rfl,.inl rfl⟩
    | true =>
     simp only [Bool.not_true,zf,if_false]
     split
     ·simp only [zb]; exact this _
     ·simp only [zb]; exact this _
   by_cases hlt:i < s.size
   ·obtain ⟨b,hb⟩:=pM (s:=s) (k:=(i:Int)) (by omega) (by simpa using hlt)
    obtain ⟨c,hc,e⟩:=H6 hb
    simp only [ltS hlt,if_true,hb,zb]
    cases hbd:(b != 46) with
    | true =>
     simp only [if_true,wH (show i≤1000000 by omega)]
     have hnd:=WN (c:=c) (by rw [← e]; exact hbd)
     exact .inl ⟨_,rfl,⟨i + 1,a,n,rfl,rfl,rfl,by omega,.inl ⟨hlt,by rw [FH hc,if_neg hnd]; exact h6⟩⟩,by simp only [zt]; omega⟩
    | false =>
     simp only [zf,if_false]
     have hdt:=Xz (c:=c) (by rw [← e]; exact hbd)
     have hcs:cnt s (i + 1)=n + 1:=by rw [FH hc,if_pos hdt,h6]
     obtain ⟨o,o1,o2⟩:=body (n + 1) rfl (.inr hcs)
     rw [o1]
     rcases o2 with rfl | rfl
     ·exact .inr ⟨_,rfl,rfl⟩
     ·exact .inl ⟨_,rfl,⟨i + 1,i + 1,n + 1,rfl,rfl,rfl,Nat.le_refl _,.inl ⟨hlt,hcs.symm⟩⟩,by simp only [zt]; omega⟩
   ·have hi:i=s.size:=by omega
    subst hi
    simp only [geS,zf,if_false,zb]
    obtain ⟨o,o1,o2⟩:=body (n + 1) rfl (.inl rfl)
    rw [o1]
    rcases o2 with rfl | rfl
    ·exact .inr ⟨_,rfl,rfl⟩
    ·exact .inl ⟨_,rfl,⟨s.size + 1,s.size + 1,n + 1,rfl,rfl,rfl,Nat.le_refl _,.inr ⟨rfl,by rw [h6]⟩⟩,by simp only [zt]; omega⟩
  ·have hle:decide ((i:Int)≤(s.size:Int))=false:=by simp; omega
   simp only [hle,zf,if_false]
   exact .inr ⟨_,rfl,by show (n:Int) = _; rw [h6]⟩) ab (0,0,0) ⟨0,0,0,rfl,rfl,rfl,Nat.le_refl _,.inl ⟨Nat.zero_le _,by simp [cnt]⟩⟩ (by show s.size + 1 - (0:Int).toNat < ab; unfold ab; omega)
 rw [r1]
 simp only [zb]
 cases r with
 | inr m=>exact ⟨_,rfl,fun e=>by rw [show m=false from r2] at e; cases e⟩
 | inl m =>
  refine ⟨_,rfl,fun e=>?_⟩
  have r2:m.2.1=((cnt s s.size + 1:Nat) : Int):=r2
  rw [r2] at e
  have:=zd e
  unfold dots
  omega
theorem KK {c:ay} (h:nw c) : ∃ r,sJ c=some r∧(r=0→1≤c.aj.length∧c.aj.length≤3∧c.ae.length≤16):=by
 have hl:=h.labels
 have hq:=h.queues
 unfold sJ
 simp only [orB,zb]
 cases hb:(decide ((c.aj.length:Int) < 1)||decide ((c.aj.length:Int) > 3)||decide ((c.ae.length:Int) > 16)) with
 | true=>simp only [if_true]; exact ⟨_,rfl,fun e=>by cases e⟩
 | false =>
  simp only [Bool.or_eq_false_iff,decide_eq_false_iff_not] at hb
  obtain ⟨⟨b1,b2⟩,b3⟩:=hb
  have good : 1≤c.aj.length∧c.aj.length≤3∧c.ae.length≤16:=⟨by omega,by omega,by omega⟩
  have hpos : 0 < c.aj.length:=by omega
  have i0:aw c.aj 0=some c.aj[0]:=aH (zq hpos)
  simp only [zf,if_false,i0,zb]
  split
  ·exact ⟨_,rfl,fun _=>good⟩
  obtain ⟨r,r1,_⟩:=aM (f:=oE c) (fun st=>∃ i:Nat,st=(i:Int)) (fun st=>c.aj.length - st.toNat) (fun _=>True) (fun st ⟨i,h1⟩=>by
   unfold oE
   simp only [h1]
   by_cases hlt:i < c.aj.length
   ·have g1:c.aj[i]? = some c.aj[i]:=zq hlt
    obtain ⟨n,hn⟩:=Ga c.aj[i]
    simp only [bL g1,if_true,aH g1,hn,zb,bb hlt (show c.aj.length≤1000000 by omega)]
    split
    ·exact .inr ⟨_,rfl,trivial⟩
    ·exact .inl ⟨_,rfl,⟨i + 1,rfl⟩,by simp only [zt]; omega⟩
   ·have:decide ((i:Int) < (c.aj.length:Int))=false:=by simp; omega
    simp only [this,zf,if_false]
    exact .inr ⟨_,rfl,trivial⟩) ab 1 ⟨1,rfl⟩ (by show c.aj.length - (1:Int).toNat < ab; unfold ab; omega)
  rw [r1]
  simp only [zb]
  cases r with
  | inr m=>exact ⟨_,rfl,fun _=>good⟩
  | inl m =>
   dsimp only
   obtain ⟨q,q1,_⟩:=aM (f:=oD c) (fun st=>∃ i:Nat,st=(i:Int)) (fun st=>c.aj.length - st.toNat) (fun _=>True) (fun st ⟨i,h1⟩=>by
    unfold oD
    simp only [h1]
    by_cases hlt:i < c.aj.length
    ·have g1:c.aj[i]? = some c.aj[i]:=zq hlt
     obtain ⟨w,w1,_⟩:=aM (f:=oC (i:Int) c) (fun st=>∃ j:Nat,st=(j:Int)) (fun st=>i - st.toNat) (fun _=>True) (fun st ⟨j,e1⟩=>by
      unfold oC
      simp only [e1]
      by_cases hj:j < i
      ·have g2:c.aj[j]? = some c.aj[j]:=zq (by omega)
       have hd:decide ((j:Int) < (i:Int))=true:=by simpa using hj
       simp only [hd,if_true,aH g1,aH g2,zb,wH (show j≤1000000 by omega)]
       split
       ·exact .inr ⟨_,rfl,trivial⟩
       ·exact .inl ⟨_,rfl,⟨j + 1,rfl⟩,by simp only [zt]; omega⟩
      ·have hd:decide ((j:Int) < (i:Int))=false:=by simp; omega
       simp only [hd,zf,if_false]
       exact .inr ⟨_,rfl,trivial⟩) ab 1 ⟨1,rfl⟩ (by show i - (1:Int).toNat < ab; unfold ab; omega)
     simp only [bL g1,if_true,w1,zb]
     cases w with
     | inr m=>exact .inr ⟨_,rfl,trivial⟩
     | inl m =>
      simp only [bb hlt (show c.aj.length≤1000000 by omega)]
      exact .inl ⟨_,rfl,⟨i + 1,rfl⟩,by simp only [zt]; omega⟩
    ·have:decide ((i:Int) < (c.aj.length:Int))=false:=by simp; omega
     simp only [this,zf,if_false]
     exact .inr ⟨_,rfl,trivial⟩) ab 1 ⟨1,rfl⟩ (by show c.aj.length - (1:Int).toNat < ab; unfold ab; omega)
   rw [q1]
   simp only [zb]
   cases q with
   | inr m=>exact ⟨_,rfl,fun _=>good⟩
   | inl m=>exact ⟨_,rfl,fun _=>good⟩
structure vy (c:ay) (i:Nat) (q:aE) : Prop where
 dots:dots q.aO≤3
 above : 0 < i→isQ c (fg q.aO)=true
 caps:q.bt.length=c.aj.length
theorem nw.sz {c:ay} (h:nw c) (hc:∀ q∈c.ae,q.bt.length≤1000) (hq:c.ae.length≤16) : SzC c :=
 ⟨Nat.le_trans h.labels (by decide),Nat.le_trans hq (by decide),hc,fun q hq=>Nat.le_trans (h.paths q hq) (by decide)⟩
theorem Vd (c:ay) (p:ByteArray) (hq:c.ae.length≤1000000) (hc:∀ q∈c.ae,q.bt.length≤1000000) : jJ c p=some (EW c p,isQ c p):=by
 unfold jJ EW isQ
 dsimp only
 rw [sK c p () hq]
 have hg:dW c p=fun (_:Unit) q=>if (q.aO.toList==p.toList)=true then Option.bind (aX [] q.bt) fun b=>some (.inr (.inr ({ q with bt:=b },true))) else some (.inl ()):=rfl
 obtain ⟨r,h1,h2⟩ : ∃ r,br (dW c p) (fun _=>(.inl (c.ae.length:Int) : Int⊕(aE×Bool))) () c.ae=some r∧r=(match c.ae.find? fun q=>q.aO.toList==p.toList with | some q=>.inr (q,true) | none=>.inl (c.ae.length:Int)):=by
  rw [hg]
  have:∀ l:List aE,(∀ q∈l,q.bt.length≤1000000)→br (fun (_:Unit) q=>if (q.aO.toList==p.toList)=true then Option.bind (aX [] q.bt) fun b=>some (.inr (.inr ({ q with bt:=b },true))) else some (.inl ())) (fun _=>(.inl (c.ae.length:Int) : Int⊕(aE×Bool))) () l=some (match l.find? fun q=>q.aO.toList==p.toList with | some q=>.inr (q,true) | none=>.inl (c.ae.length:Int)):=by
   intro l
   induction l with
   | nil=>intro _; rfl
   | cons q l ih =>
    intro hl
    simp only [br,List.find?_cons]
    cases hb:(q.aO.toList==p.toList) with
    | true =>
     simp only [if_true]
     rw [aJ (by have:=hl q List.mem_cons_self; simp; omega)]
     simp
    | false =>
     simp only [zf,if_false]
     exact ih (fun x hx=>hl x (List.mem_cons_of_mem _ hx))
  exact ⟨_,this _ hc,rfl⟩
 rw [h1,h2]
 cases hf:c.ae.find? fun q=>q.aO.toList==p.toList with
 | none =>
  have:(c.ae.any fun q=>q.aO.toList==p.toList)=false:=by
   rw [List.any_eq_false]; intro x hx; have:=List.find?_eq_none.1 hf x hx; simpa using this
  rw [this]; rfl
 | some q =>
  have:(c.ae.any fun q=>q.aO.toList==p.toList)=true:=by rw [List.any_eq_true]; exact ⟨q,List.mem_of_find?_eq_some hf,List.find?_some (p:=fun q:aE=>q.aO.toList==p.toList) hf⟩
  rw [this]; rfl
theorem Nx {c:ay} (h:nw c) (i:Nat) (hi:i < c.ae.length) : ∃ r,u7 c (i:Int)=some r∧(r=0→vy c i c.ae[i]):=by
 have hq:=h.queues
 have g1:c.ae[i]? = some c.ae[i]:=zq hi
 have hm:=List.getElem_mem hi
 have hps:=h.paths _ hm
 have hcs:=h.caps _ hm
 obtain ⟨b,b1,b2⟩:=KL c.ae[i].aO hps
 obtain ⟨a1,a2⟩:=sI (p:=c.ae[i].aO) (by omega)
 have hfind:=Vd c (fg c.ae[i].aO) (by omega) (fun q hq=>Nat.le_trans (h.caps q hq) (by decide))
 unfold u7
 simp only [aH g1,b1,zb]
 cases b with
 | false=>simp only [Bool.not_false,if_true]; exact ⟨_,rfl,fun e=>by cases e⟩
 | true =>
  have hd:=b2 rfl
  simp only [Bool.not_true,zf,if_false]
  have step:∀ q4:Bool,∃ r,(if q4=true then some 7 else Option.bind (ed c.ae[i].aO) fun c5=>Option.bind (jJ c c5) fun c6=>Option.bind (if decide ((i:Int) > 0)=true then some (!c6.2) else some false) fun q7=>if q7=true then some 12 else Option.bind (if decide (c.ae[i].de < 1)=true then some true else some (decide (c.ae[i].de > 1000000))) fun q8=>Option.bind (if q8=true then some true else some ((c.ae[i].bt.length:Int) != (c.aj.length:Int))) fun q9=>if q9=true then some 1 else Option.bind (ah (lM c.ae[i]) ab 0) fun r15=>match r15 with | .inr m16=>some m16 | .inl m16=>some (0:Int))=some r∧(r=0→vy c i c.ae[i]):=by
   intro q4
   cases q4 with
   | true=>simp only [if_true]; exact ⟨_,rfl,fun e=>by cases e⟩
   | false =>
    simp only [zf,if_false,a1,hfind,zb,orB,cW]
    split
    ·exact ⟨_,rfl,fun e=>by cases e⟩
    rename_i h7
    split
    ·exact ⟨_,rfl,fun e=>by cases e⟩
    rename_i h9
    have good:vy c i c.ae[i]:=⟨hd,fun h0=>by
     have hdd:decide ((i:Int) > 0)=true:=by simpa using h0
     rw [hdd] at h7
     simpa using h7,by
     have : ¬ ((c.ae[i].bt.length:Int) != (c.aj.length:Int))=true:=fun e=>h9 (by rw [e]; simp)
     have:(c.ae[i].bt.length:Int)=(c.aj.length:Int):=by simpa using this
     omega⟩
    obtain ⟨w,w1,_⟩:=aM (f:=lM c.ae[i]) (fun st=>∃ j:Nat,st=(j:Int)) (fun st=>c.ae[i].bt.length - st.toNat) (fun _=>True) (fun st ⟨j,e1⟩=>by
     unfold lM
     simp only [e1]
     by_cases hj:j < c.ae[i].bt.length
     ·have g2:c.ae[i].bt[j]? = some c.ae[i].bt[j]:=zq hj
      simp only [bL g2,if_true,aH g2,orB,zb,bb hj (show c.ae[i].bt.length≤1000000 by omega)]
      split
      ·exact .inr ⟨_,rfl,trivial⟩
      ·exact .inl ⟨_,rfl,⟨j + 1,rfl⟩,by simp only [zt]; omega⟩
     ·have hd:decide ((j:Int) < (c.ae[i].bt.length:Int))=false:=by simp; omega
      simp only [hd,zf,if_false]
      exact .inr ⟨_,rfl,trivial⟩) ab 0 ⟨0,rfl⟩ (by show c.ae[i].bt.length - (0:Int).toNat < ab; unfold ab; omega)
    rw [w1]
    simp only [zb]
    cases w with
    | inr m=>exact ⟨_,rfl,fun _=>good⟩
    | inl m=>exact ⟨_,rfl,fun _=>good⟩
  by_cases h0 : 0 < i
  ·have hdd:decide ((i:Int) > 0)=true:=by simpa using h0
   obtain ⟨k,rfl⟩ : ∃ k,i=k + 1:=⟨i - 1,by omega⟩
   have hk:i64.wrap (((k + 1:Nat) : Int) - 1)=(k:Int):=by rw [Jt (by omega)]; omega
   have g2:c.ae[k]? = some c.ae[k]:=zq (by omega)
   simp only [hdd,if_true,hk,aH g2,zb]
   have:=step (Op.bytesLess c.ae[k + 1].aO.toList c.ae[k].aO.toList||c.ae[k + 1].aO.toList==c.ae[k].aO.toList)
   simp only [hdd,if_true] at this
   exact this
  ·have hdd:decide ((i:Int) > 0)=false:=by simp; omega
   simp only [hdd,zf,if_false,zb]
   have:=step false
   simp only [hdd,zf,if_false] at this
   exact this
theorem u9 (c:ay) (p:ByteArray) (h:SzC c) : ∃ r,fw c p=some r∧r.length≤c.ae.length∧∀ x∈r,∃ q∈c.ae,q.aO=x∧(!(p.toList==(⟨#[]⟩ : ByteArray).toList))=true∧fg x=p:=by
 unfold fw
 have hs:=jI c p [] (by have:=h.queues; omega)
 dsimp only
 rw [hs]
 obtain ⟨r,h1,h2⟩:=a7 (g:=cA c p) (fin:=fun a=>(a,(c.ae.length:Int))) (fun k a=>a.length≤k∧∀ x∈a,∃ q∈c.ae,q.aO=x∧(!(p.toList==(⟨#[]⟩ : ByteArray).toList))=true∧fg x=p) (fun r=>r.1.length≤c.ae.length∧∀ x∈r.1,∃ q∈c.ae,q.aO=x∧(!(p.toList==(⟨#[]⟩ : ByteArray).toList))=true∧fg x=p) c.ae 0 [] (fun j a x hx ⟨h1,h2⟩=>by
  have hm:=List.mem_of_getElem? hx
  have hj:=(zg.1 hx).1
  obtain ⟨hr,_⟩:=sI (h.paths x hm)
  have hqs:=h.queues
  unfold cA
  simp only [hr,zb,cW]
  split
  ·rename_i hc
   rw [Bool.and_eq_true] at hc
   rw [aJ (by simp; omega)]
   refine ⟨_,rfl,fun a' e=>?_,fun r e=>by cases e⟩
   injection e with e
   subst e
   refine ⟨by simp; omega,fun y hy=>?_⟩
   simp only [List.mem_append,List.mem_singleton] at hy
   rcases hy with hy | rfl
   ·exact h2 y hy
   ·exact ⟨x,hm,rfl,hc.1,sC hc.2⟩
  ·refine ⟨_,rfl,fun a' e=>?_,fun r e=>by cases e⟩
   injection e with e
   subst e
   exact ⟨by omega,h2⟩) (fun a ⟨h1,h2⟩=>⟨by simpa using h1,h2⟩) ⟨by simp,by simp⟩
 rw [h1]
 exact ⟨_,rfl,h2⟩
theorem Dv {c:ay} {q:aE} (h:q∈c.ae) : isQ c q.aO=true:=by
 unfold isQ
 rw [List.any_eq_true]
 exact ⟨q,h,by simp⟩
theorem Ns:fg ⟨#[114,111,111,116]⟩=⟨#[]⟩:=by kernel_rfl
theorem Qu {c:ay} (h:SzC c) (hc:∀ q∈c.ae,q.bt.length=c.aj.length) : ∃ r,DH c=some r:=by
 have hq:=h.queues
 have hl:=h.labels
 unfold DH
 dsimp only
 rw [BF c () (by omega)]
 obtain ⟨r,r1,_⟩:=a7 (g:=iH c) (fin:=fun _=>(.inl (c.ae.length:Int) : Int⊕Bool)) (fun _ _=>True) (fun _=>True) c.ae 0 () (fun j a x hx _=>by
  obtain ⟨ks,k1,k2,k3⟩:=u9 c x.aO h
  have hkl:ks.length≤1000000:=by omega
  unfold iH
  simp only [k1,zb]
  obtain ⟨w,w1,_⟩:=aM (f:=nK c ks) (fun st=>∃ i:Nat,st=(i:Int)) (fun st=>c.aj.length - st.toNat) (fun _=>True) (fun st ⟨i,h1⟩=>by
   unfold nK
   simp only [h1,cW]
   by_cases hlt:i < c.aj.length
   ·obtain ⟨v,v1,_⟩ : ∃ v,ah (ki ks c (i:Int)) ab (0,0)=some v∧True:=by
     rw [BE ks c (i:Int) 0 hkl]
     exact a7 (g:=iG ks c (i:Int)) (fin:=fun a=>(a,(ks.length:Int))) (fun _ _=>True) (fun _=>True) ks 0 0 (fun j2 a y hy _=>by
      obtain ⟨q,q1,q2,_⟩:=k3 y (List.mem_of_getElem? hy)
      have hqq:isQ c y=true:=by rw [← q2]; exact Dv q1
      have hcl:=hc _ (yU hqq).1
      have g2:(EW c y).bt[i]? = some (EW c y).bt[i]:=zq (by omega)
      unfold iG
      simp only [nc c y h,zb,aH g2]
      exact ⟨_,rfl,fun _ _=>trivial,fun _ _=>trivial⟩) (fun _ _=>trivial) trivial
    simp only [v1,zb,wH (show i≤1000000 by omega)]
    split
    ·split
     ·exact .inr ⟨_,rfl,trivial⟩
     ·exact .inl ⟨_,rfl,⟨i + 1,rfl⟩,by simp only [zt]; omega⟩
    ·exact .inr ⟨_,rfl,trivial⟩
   ·have hd:decide ((i:Int) < (c.aj.length:Int))=false:=by simp; omega
    simp only [hd,Bool.false_and,zf,if_false]
    exact .inr ⟨_,rfl,trivial⟩) ab 0 ⟨0,rfl⟩ (by show c.aj.length - (0:Int).toNat < ab; unfold ab; omega)
  rw [w1]
  simp only [zb]
  cases w <;> exact ⟨_,rfl,fun _ _=>trivial,fun _ _=>trivial⟩) (fun _ _=>trivial) trivial
 rw [r1]
 simp only [zb]
 cases r <;> exact ⟨_,rfl⟩
structure Z7 (c:ay) : Prop where
 form:AA c
 lab1 : 1≤c.aj.length
 lab3:c.aj.length≤3
 leaf:∃ q∈c.ae,Cb c q.aO=true
theorem Fb {α : Type} (f : α→Nat) : ∀ (l:List α),l≠[]→∃ x∈l,∀ y∈l,f y≤f x
 | [],h=>absurd rfl h
 | [x],_=>⟨x,List.mem_cons_self,fun y hy=>by simp at hy; subst hy; exact Nat.le_refl _⟩
 | x::z::l,_=>by
  obtain ⟨m,hm,hmax⟩:=Fb f (z::l) (by simp)
  by_cases h:f m≤f x
  ·refine ⟨x,List.mem_cons_self,fun y hy=>?_⟩
   rcases List.mem_cons.1 hy with rfl | hy
   ·exact Nat.le_refl _
   ·exact Nat.le_trans (hmax y hy) h
  ·refine ⟨m,List.mem_cons_of_mem _ hm,fun y hy=>?_⟩
   rcases List.mem_cons.1 hy with rfl | hy
   ·omega
   ·exact hmax y hy
theorem SE {c:ay} (h:SzC c) (hne:c.ae≠[]) : ∃ q∈c.ae,Cb c q.aO=true:=by
 obtain ⟨q,hq,hmax⟩:=Fb (fun q:aE=>q.aO.size) c.ae hne
 refine ⟨q,hq,?_⟩
 obtain ⟨ks,k1,k2,k3⟩:=u9 c q.aO h
 have hnil:ks = []:=by
  cases ks with
  | nil=>rfl
  | cons x ks =>
   exfalso
   obtain ⟨q2,m1,m2,m3,m4⟩:=k3 x List.mem_cons_self
   have h0:=qP m3
   subst m2
   rcases (sI (h.paths q2 m1)).2 with e | e
   ·have:=hmax q2 m1
    rw [m4] at e
    omega
   ·rw [m4] at e; omega
 have:kv c q.aO=some true:=by
  unfold kv
  simp only [nc c _ h,Dv hq,if_true,k1,hnil,zb]
  rfl
 unfold Cb
 rw [this]; rfl
theorem Zj {c:ay} (h:nw c) (hl : 1≤c.aj.length∧c.aj.length≤3∧c.ae.length≤16) (hroot:∃ q,c.ae[0]? = some q∧q.aO=⟨#[114,111,111,116]⟩) (hq:∀ i (hi:i < c.ae.length),vy c i c.ae[i]) : Z7 c:=by
 have hmem:∀ q∈c.ae,∃ i,vy c i q∧(i=0→q.aO=⟨#[114,111,111,116]⟩):=fun q hm=>by
  obtain ⟨i,hi,rfl⟩:=List.getElem_of_mem hm
  refine ⟨i,hq i hi,fun e=>?_⟩
  subst e
  obtain ⟨q0,e1,e2⟩:=hroot
  rw [zq hi] at e1
  injection e1 with e1
  rw [e1]; exact e2
 have hcap:∀ q∈c.ae,q.bt.length=c.aj.length:=fun q hm=>by
  obtain ⟨i,hp,_⟩:=hmem q hm
  exact hp.caps
 have hsz:SzC c:=h.sz (fun q hm=>by rw [hcap q hm]; omega) hl.2.2
 have hne:c.ae≠[]:=by
  obtain ⟨q0,e1,_⟩:=hroot
  intro e
  rw [e] at e1
  cases e1
 refine ⟨⟨hsz,hcap,fun q hm r hr=>?_,⟨hl.2.2,fun q hm=>?_⟩,hl.1,SE hsz hne,fun x hx=>Nat.le_trans (h.label x hx) (by decide)⟩,hl.1,hl.2.1,SE hsz hne⟩
 ·unfold zk at hr
  dsimp only at hr
  obtain ⟨st,hst,hr⟩:=bv hr
  injection hr with hr
  subst hr
  refine mR (f:=oe) (fun st=>(∀ x∈st.1,isQ c x=true)∧(0 < st.2.size→isQ c st.2=true)) (fun t=>∀ x∈t.1,isQ c x=true) (fun st r ⟨i1,i2⟩ h1=>?_) _ ([],q.aO) st ⟨fun x hx=>(by cases hx),fun _=>Dv hm⟩ hst
  unfold oe at h1
  dsimp only at h1
  split at h1
  ·rename_i hne2
   have h0:=qP hne2
   have hq2:=i2 h0
   obtain ⟨b,hb,h1⟩:=bv h1
   obtain ⟨a,ha,h1⟩:=bv h1
   injection h1 with h1
   subst h1
   obtain ⟨g1,g2⟩:=yU hq2
   have ge:=sC g2
   obtain ⟨i,hp,hrt⟩:=hmem _ g1
   rw [ge] at hrt
   have hav:a=fg st.2:=by
    unfold fg
    rw [ha]; rfl
   refine ⟨fun x hx=>?_,fun ha0=>?_⟩
   ·have hb2:=(zc hb).2
    subst hb2
    simp only [List.mem_append,List.mem_singleton] at hx
    rcases hx with hx | rfl
    ·exact i1 x hx
    ·exact hq2
   ·show isQ c a=true
    rcases Nat.eq_zero_or_pos i with e | e
    ·have:=hrt e
     exfalso
     have:a=⟨#[]⟩:=by rw [hav,this]; exact Ns
     rw [show (((b,a) : List ByteArray×ByteArray).2)=a from rfl,this] at ha0
     exact absurd ha0 (by decide)
    ·have:=hp.above e
     rw [ge] at this
     rw [hav]; exact this
  ·injection h1 with h1
   subst h1
   exact i1
 ·obtain ⟨i,hp,_⟩:=hmem q hm
  have:=FA 6 q.aO (by have:=h.paths q hm; omega)
  have:=hp.dots
  omega
theorem NC {c:ay} (h:nw c) : ∃ r,va c=some r∧(r=0→Z7 c):=by
 obtain ⟨e,e1,e2⟩:=KK h
 have hqs:=h.queues
 unfold va
 simp only [e1,zb]
 by_cases he:e=0
 ·subst he
  have hl:=e2 rfl
  have n0:((0:Int) != 0)=false:=by decide
  simp only [n0,zf,if_false]
  by_cases hq0:c.ae.length=0
  ·have:((c.ae.length:Int)==0)=true:=by simp [hq0]
   simp only [this,if_true,zb]
   exact ⟨_,rfl,fun e=>by cases e⟩
  ·have hb:((c.ae.length:Int)==0)=false:=by simp; intro e; exact hq0 (by rw [e]; rfl)
   have hpos : 0 < c.ae.length:=by omega
   have i0:aw c.ae 0=some c.ae[0]:=aH (zq hpos)
   simp only [hb,zf,if_false,i0,zb]
   cases hr:(!(c.ae[0].aO.toList==(⟨#[114,111,111,116]⟩ : ByteArray).toList)) with
   | true=>simp only [if_true]; exact ⟨_,rfl,fun e=>by cases e⟩
   | false =>
    have hrt:c.ae[0].aO=⟨#[114,111,111,116]⟩:=sC (by simpa using hr)
    simp only [zf,if_false]
    obtain ⟨w,w1,w2⟩:=aM (f:=qc c) (fun st=>∃ i:Nat,st=(i:Int)∧i≤c.ae.length∧∀ j (hj:j < c.ae.length),j < i→vy c j c.ae[j]) (fun st=>c.ae.length - st.toNat) (fun r=>match r with | .inl _=>∀ j (hj:j < c.ae.length),vy c j c.ae[j] | .inr m=>m≠0) (fun st ⟨i,h1,h2,h3⟩=>by
     unfold qc
     simp only [h1]
     by_cases hlt:i < c.ae.length
     ·have g1:c.ae[i]? = some c.ae[i]:=zq hlt
      obtain ⟨b,b1,b2⟩:=Nx h i hlt
      simp only [bL g1,if_true,b1,zb,bb hlt (show c.ae.length≤1000000 by omega)]
      split
      ·rename_i hne
       exact .inr ⟨_,rfl,by simpa using hne⟩
      ·rename_i hz
       have hz:b=0:=by simpa using hz
       refine .inl ⟨_,rfl,⟨i + 1,rfl,hlt,fun j hj hji=>?_⟩,by simp only [zt]; omega⟩
       rcases Nat.lt_or_ge j i with h4 | h4
       ·exact h3 j hj h4
       ·have:j=i:=by omega
        subst this
        exact b2 hz
     ·have:i=c.ae.length:=by omega
      subst this
      simp only [bF,zf,if_false]
      exact .inr ⟨_,rfl,fun j hj=>h3 j hj hj⟩) ab 0 ⟨0,rfl,Nat.zero_le _,fun j _ hj=>by omega⟩ (by show c.ae.length - (0:Int).toNat < ab; unfold ab; omega)
    rw [w1]
    simp only [zb]
    cases w with
    | inr m=>exact ⟨_,rfl,fun e=>absurd e w2⟩
    | inl m =>
     dsimp only
     have w2:∀ j (hj:j < c.ae.length),vy c j c.ae[j]:=w2
     have hform:=Zj h hl ⟨_,zq hpos,hrt⟩ w2
     have hcap0:=(w2 0 hpos).caps
     obtain ⟨v,v1,v2⟩:=aM (f:=qa c) (fun st=>∃ i:Nat,st=(i:Int)) (fun st=>c.aj.length - st.toNat) (fun _=>True) (fun st ⟨i,h1⟩=>by
      unfold qa
      simp only [h1]
      by_cases hlt:i < c.aj.length
      ·have g1:c.aj[i]? = some c.aj[i]:=zq hlt
       have g2:c.ae[0].bt[i]? = some c.ae[0].bt[i]:=zq (by omega)
       simp only [bL g1,if_true,i0,aH g2,zb,bb hlt (show c.aj.length≤1000000 by omega)]
       split
       ·exact .inr ⟨_,rfl,trivial⟩
       ·exact .inl ⟨_,rfl,⟨i + 1,rfl⟩,by simp only [zt]; omega⟩
      ·have hd:decide ((i:Int) < (c.aj.length:Int))=false:=by simp; omega
       simp only [hd,zf,if_false]
       exact .inr ⟨_,rfl,trivial⟩) ab 0 ⟨0,rfl⟩ (by show c.aj.length - (0:Int).toNat < ab; unfold ab; omega)
     rw [v1]
     simp only [zb]
     cases v with
     | inr m=>exact ⟨_,rfl,fun _=>hform⟩
     | inl m =>
      dsimp only
      obtain ⟨s,s1⟩:=Qu hform.form.sz hform.form.each
      rw [s1]
      simp only [zb]
      cases s <;> exact ⟨_,rfl,fun _=>hform⟩
 ·have:(e != 0)=true:=by simpa using he
  simp only [this,if_true]
  exact ⟨_,rfl,fun e0=>absurd e0 he⟩
def db (oZ:Int) (v_n:Int) : Option (Int) :=
 (CU oZ v_n).bind fun b1=>let v_k:Int:=b1
 (if (decide (v_k < 0))=true then
 let v_k:Int:=(i64.wrap (v_k + v_n))
 some v_k
 else
 some v_k).bind fun j2=>let v_k:=j2
 some v_k
def kF (fX:(List Int)) (v_i:Int) : Option (Int) :=
 if ((fX.length:Int)==0)=true then
 some v_i
 else
 (CU v_i (fX.length:Int)).bind fun b1=>(aw fX b1).bind fun b2=>some b2
def eu (v_c:ay) (st:aE×Int) : Option ((aE×Int)⊕((aE×Int))) :=
 let v_q:=st.1
 let v_k:=st.2
 if (decide (v_k < (v_c.aj.length:Int)))=true then
 (aX v_q.bt [(⟨10000,10000⟩ : eE)]).bind fun b11=>let v_q:aE:={ v_q with bt:=b11 }
 let v_k:Int:=(i64.wrap (v_k + 1))
 some (.inl (v_q,v_k))
 else
 some (.inr (v_q,v_k))
def dE (v_l:(List ByteArray)) (fX:(List Int)) (st:ay×Int) : Option ((ay×Int)⊕((ay×Int))) :=
 let v_c:=st.1
 let v_i:=st.2
 if (decide (v_i < (v_l.length:Int)))=true then
 (aw v_l v_i).bind fun b5=>let v_q:aE:=(⟨b5,[],1000000⟩ : aE)
 (if (decide (v_i < (fX.length:Int)))=true then (aw fX v_i).bind fun b6=>some ((Int.tmod b6 3)==0) else some false).bind fun q7=>(if q7=true then
 (aw fX v_i).bind fun b9=>(db b9 20000).bind fun c10=>let v_q:aE:={ v_q with de:=(i64.wrap (1 + c10)) }
 some v_q
 else
 some v_q).bind fun j8=>let v_q:=j8
 let v_k:Int:=0
 (ah (eu v_c) ab (v_q,v_k)).bind fun r12 =>
 let v_q:=r12.1
 let v_k:=r12.2
 (aX v_c.ae [v_q]).bind fun b13=>let v_c:ay:={ v_c with ae:=b13 }
 let v_i:Int:=(i64.wrap (v_i + 1))
 some (.inl (v_c,v_i))
 else
 some (.inr (v_c,v_i))
def er (lm:Int) (v_n:Int) (co:Int) (v_j:Int) (bE:(List ByteArray)) (st:ay×Int) : Option ((ay×Int)⊕((ay×Int))) :=
 let v_c:=st.1
 let v_m:=st.2
 if (decide (v_m < (v_c.ae.length:Int)))=true then
 (aw v_c.ae v_m).bind fun b28=>(aw bE v_j).bind fun b29=>if (b28.aO.toList==b29.toList)=true then
 (aw v_c.ae v_m).bind fun b30=>(aw b30.bt lm).bind fun b31=>(aw v_c.ae v_m).bind fun b32=>let v_c:ay:={ v_c with ae:=(List.set v_c.ae (Int.toNat v_m) ({ b32 with bt:=(List.set b30.bt (Int.toNat lm) (⟨v_n,co⟩ : eE)) })) }
 let v_m:Int:=(i64.wrap (v_m + 1))
 some (.inl (v_c,v_m))
 else
 let v_m:Int:=(i64.wrap (v_m + 1))
 some (.inl (v_c,v_m))
 else
 some (.inr (v_c,v_m))
def cX (bE:(List ByteArray)) (fX:(List Int)) (aQ:Int) (lm:Int) (st:Int×ay×Int) : Option ((Int×ay×Int)⊕((Int×ay×Int))) :=
 let cp:=st.1
 let v_c:=st.2.1
 let v_j:=st.2.2
 if (decide (v_j < (bE.length:Int)))=true then
 let v_n:Int:=cp
 (if (decide (v_j < (i64.wrap ((bE.length:Int) - 1))))=true then
 (kF fX (i64.wrap ((i64.wrap (aQ + v_j)) + lm))).bind fun c18=>(db c18 (i64.wrap (cp + 1))).bind fun c19=>(kF fX (i64.wrap ((i64.wrap (aQ * v_j)) + lm))).bind fun c20=>(db c20 4).bind fun c21=>(aw ([0,(i64.wrap (Int.tdiv cp 2)),cp,c19] : (List Int)) c21).bind fun b22=>let v_n:Int:=b22
 some v_n
 else
 some v_n).bind fun j17=>let v_n:=j17
 let cp:Int:=(i64.wrap (cp - v_n))
 (kF fX (i64.wrap (v_j + lm))).bind fun c23=>(db c23 (i64.wrap ((i64.wrap (10000 - v_n)) + 1))).bind fun c24=>(kF fX (i64.wrap (aQ + (i64.wrap (2 * v_j))))).bind fun c25=>(db c25 3).bind fun c26=>(aw ([10000,v_n,(i64.wrap (v_n + c24))] : (List Int)) c26).bind fun b27=>let co:Int:=b27
 let v_m:Int:=0
 (ah (er lm v_n co v_j bE) ab (v_c,v_m)).bind fun r33 =>
 let v_c:=r33.1
 let v_m:=r33.2
 let v_j:Int:=(i64.wrap (v_j + 1))
 some (.inl (cp,v_c,v_j))
 else
 some (.inr (cp,v_c,v_j))
def dD (fX:(List Int)) (aQ:Int) (bE:(List ByteArray)) (st:ay×Int) : Option ((ay×Int)⊕((ay×Int))) :=
 let v_c:=st.1
 let lm:=st.2
 if (decide (lm < (v_c.aj.length:Int)))=true then
 let cp:Int:=10000
 let v_j:Int:=0
 (ah (cX bE fX aQ lm) ab (cp,v_c,v_j)).bind fun r34 =>
 let cp:=r34.1
 let v_c:=r34.2.1
 let v_j:=r34.2.2
 let lm:Int:=(i64.wrap (lm + 1))
 some (.inl (v_c,lm))
 else
 some (.inr (v_c,lm))
def cP (v_l:(List ByteArray)) (fX:(List Int)) (st:ay×Int) : Option ((ay×Int)⊕((ay×Int))) :=
 let v_c:=st.1
 let aQ:=st.2
 if (decide (aQ < (v_l.length:Int)))=true then
 (aw v_l aQ).bind fun b15=>(fw v_c b15).bind fun c16=>let bE:(List ByteArray):=c16
 let lm:Int:=0
 (ah (dD fX aQ bE) ab (v_c,lm)).bind fun r35 =>
 let v_c:=r35.1
 let lm:=r35.2
 let aQ:Int:=(i64.wrap (aQ + 1))
 some (.inl (v_c,aQ))
 else
 some (.inr (v_c,aQ))
def ga (R5:Int) (fX:(List Int)) : Option (ay) :=
 let YG:(List (List ByteArray)):=([([(⟨#[114,111,111,116]⟩ : ByteArray)] : (List ByteArray)),([(⟨#[114,111,111,116]⟩ : ByteArray),(⟨#[114,111,111,116,46,97]⟩ : ByteArray),(⟨#[114,111,111,116,46,98]⟩ : ByteArray)] : (List ByteArray)),([(⟨#[114,111,111,116]⟩ : ByteArray),(⟨#[114,111,111,116,46,97]⟩ : ByteArray),(⟨#[114,111,111,116,46,97,46,120]⟩ : ByteArray),(⟨#[114,111,111,116,46,97,46,121]⟩ : ByteArray),(⟨#[114,111,111,116,46,98]⟩ : ByteArray)] : (List ByteArray)),([(⟨#[114,111,111,116]⟩ : ByteArray),(⟨#[114,111,111,116,46,97]⟩ : ByteArray),(⟨#[114,111,111,116,46,98]⟩ : ByteArray),(⟨#[114,111,111,116,46,98,46,120]⟩ : ByteArray),(⟨#[114,111,111,116,46,98,46,120,46,112]⟩ : ByteArray),(⟨#[114,111,111,116,46,98,46,120,46,113]⟩ : ByteArray),(⟨#[114,111,111,116,46,99]⟩ : ByteArray)] : (List ByteArray)),([(⟨#[114,111,111,116]⟩ : ByteArray),(⟨#[114,111,111,116,46,97]⟩ : ByteArray)] : (List ByteArray))] : (List (List ByteArray)))
 (db (i64.wrap (Int.tdiv R5 5)) 2).bind fun c2=>(hiO ([(⟨#[]⟩ : ByteArray),(⟨#[103,112,117]⟩ : ByteArray)] : (List ByteArray)) (i64.wrap (1 + c2))).bind fun b1=>let v_c:ay:=(⟨b1,[]⟩ : ay)
 (db R5 5).bind fun c3=>(aw YG c3).bind fun b4=>let v_l:(List ByteArray):=b4
 let v_i:Int:=0
 (ah (dE v_l fX) ab (v_c,v_i)).bind fun r14 =>
 let v_c:=r14.1
 let v_i:=r14.2
 let aQ:Int:=0
 (ah (cP v_l fX) ab (v_c,aQ)).bind fun r36 =>
 let v_c:=r36.1
 let aQ:=r36.2
 some v_c
def iQ (v_c:ay) (st:aE) (x_:ByteArray) : Option ((aE)⊕((aE×Int))) :=
 let v_q:=st
 (aX v_q.bt [(⟨10000,10000⟩ : eE)]).bind fun b12=>let v_q:aE:={ v_q with bt:=b12 }
 some (.inl v_q)
theorem sU (v_c:ay) (a_:aE) (hl:v_c.aj.length≤1000000) : ah (eu v_c) ab (a_,(0))=br (iQ v_c) (fun a_=>(a_,((v_c.aj.length:Int)))) a_ v_c.aj :=
 az v_c.aj (S:=aE×Int) (fun a_ k_=>(a_,(k_))) (iQ v_c) (fun a_=>(a_,((v_c.aj.length:Int)))) (ao hl) (fun k a x hx=>by
  unfold eu iQ; exact bJ)
  (fun a=>by unfold eu; exact cI) a_
def iR (v_l:(List ByteArray)) (fX:(List Int)) (st:ay) (v_i:Int) (x_:ByteArray) : Option ((ay)⊕((ay×Int))) :=
 let v_c:=st
 let v_q:aE:=(⟨x_,[],1000000⟩ : aE)
 (if (decide (v_i < (fX.length:Int)))=true then (aw fX v_i).bind fun b14=>some ((Int.tmod b14 3)==0) else some false).bind fun q15=>(if q15=true then
 (aw fX v_i).bind fun b17=>(db b17 20000).bind fun c18=>let v_q:aE:={ v_q with de:=(i64.wrap (1 + c18)) }
 some v_q
 else
 some v_q).bind fun j16=>let v_q:=j16
 let v_k:Int:=0
 (ah (eu v_c) ab (v_q,v_k)).bind fun r19 =>
 let v_q:=r19.1
 let v_k:=r19.2
 (aX v_c.ae [v_q]).bind fun b20=>let v_c:ay:={ v_c with ae:=b20 }
 some (.inl v_c)
theorem BT (v_l:(List ByteArray)) (fX:(List Int)) (a_:ay) (hl:v_l.length≤1000000) : ah (dE v_l fX) ab (a_,(0))=nX (iR v_l fX) (fun a_=>(a_,((v_l.length:Int)))) a_ 0 v_l :=
 fq v_l (S:=ay×Int) (fun a_ k_=>(a_,(k_))) (iR v_l fX) (fun a_=>(a_,((v_l.length:Int)))) (ao hl) (fun k a x hx=>by
  unfold dE iR; exact bJ)
  (fun a=>by unfold dE; exact cI) a_
def iM (bE:(List ByteArray)) (fX:(List Int)) (aQ:Int) (lm:Int) (st:Int×ay) (v_j:Int) (x_:ByteArray) : Option ((Int×ay)⊕((Int×ay×Int))) :=
 let cp:=st.1
 let v_c:=st.2
 let v_n:Int:=cp
 (if (decide (v_j < (i64.wrap ((bE.length:Int) - 1))))=true then
 (kF fX (i64.wrap ((i64.wrap (aQ + v_j)) + lm))).bind fun c35=>(db c35 (i64.wrap (cp + 1))).bind fun c36=>(kF fX (i64.wrap ((i64.wrap (aQ * v_j)) + lm))).bind fun c37=>(db c37 4).bind fun c38=>(aw ([0,(i64.wrap (Int.tdiv cp 2)),cp,c36] : (List Int)) c38).bind fun b39=>let v_n:Int:=b39
 some v_n
 else
 some v_n).bind fun j34=>let v_n:=j34
 let cp:Int:=(i64.wrap (cp - v_n))
 (kF fX (i64.wrap (v_j + lm))).bind fun c40=>(db c40 (i64.wrap ((i64.wrap (10000 - v_n)) + 1))).bind fun c41=>(kF fX (i64.wrap (aQ + (i64.wrap (2 * v_j))))).bind fun c42=>(db c42 3).bind fun c43=>(aw ([10000,v_n,(i64.wrap (v_n + c41))] : (List Int)) c43).bind fun b44=>let co:Int:=b44
 let v_m:Int:=0
 (ah (er lm v_n co v_j bE) ab (v_c,v_m)).bind fun r45 =>
 let v_c:=r45.1
 let v_m:=r45.2
 some (.inl (cp,v_c))
theorem BR (bE:(List ByteArray)) (fX:(List Int)) (aQ:Int) (lm:Int) (a_:Int×ay) (hl:bE.length≤1000000) : ah (cX bE fX aQ lm) ab (a_.1,a_.2,(0))=nX (iM bE fX aQ lm) (fun a_=>(a_.1,a_.2,((bE.length:Int)))) a_ 0 bE :=
 fq bE (S:=Int×ay×Int) (fun a_ k_=>(a_.1,a_.2,(k_))) (iM bE fX aQ lm) (fun a_=>(a_.1,a_.2,((bE.length:Int)))) (ao hl) (fun k a x hx=>by
  unfold cX iM; exact bJ)
  (fun a=>by unfold cX; exact cI) a_
def iP (v_l:(List ByteArray)) (fX:(List Int)) (st:ay) (aQ:Int) (x_:ByteArray) : Option ((ay)⊕((ay×Int))) :=
 let v_c:=st
 (fw v_c x_).bind fun c36=>let bE:(List ByteArray):=c36
 let lm:Int:=0
 (ah (dD fX aQ bE) ab (v_c,lm)).bind fun r37 =>
 let v_c:=r37.1
 let lm:=r37.2
 some (.inl v_c)
theorem BS (v_l:(List ByteArray)) (fX:(List Int)) (a_:ay) (hl:v_l.length≤1000000) : ah (cP v_l fX) ab (a_,(0))=nX (iP v_l fX) (fun a_=>(a_,((v_l.length:Int)))) a_ 0 v_l :=
 fq v_l (S:=ay×Int) (fun a_ k_=>(a_,(k_))) (iP v_l fX) (fun a_=>(a_,((v_l.length:Int)))) (ao hl) (fun k a x hx=>by
  unfold cP iP; exact bJ)
  (fun a=>by unfold cP; exact cI) a_
theorem ip (a:Int) {n:Int} (h0 : 0 < n) (h1:n≤1000000000) : Ok (db a n) (fun k=>0≤k∧k < n):=by
 unfold db CU
 rw [if_neg (by omega)]
 have h:=Jz (a:=a) h0
 simp only [zb]
 refine Ok.bind (P:=fun k=>0≤k∧k < n) (Ok.ite (fun hc=>?_) fun hc=>?_) fun r hr=>Ok.pure hr
 ·have:=zd hc
  refine Ok.pure ?_
  rw [IntKind.wrap_i64]; omega
 ·have:=of_decide_eq_false (by simpa using hc:decide (a.tmod n < 0)=false)
  exact Ok.pure (by omega)
theorem tP (ns:List Int) {i:Int} (h : 0≤i) : Ok (kF ns i) (fun _=>True):=by
 unfold kF
 refine Ok.ite (fun _=>Ok.pure trivial) fun hc=>?_
 have hn:(ns.length:Int)≠0:=fun e=>hc (by rw [e]; rfl)
 unfold CU
 rw [if_neg hn]
 simp only [zb]
 refine Ok.bind (kt (Int.tmod_nonneg _ h) (Jz (by omega)).2) fun r _=>Ok.pure trivial
structure QG (L:Nat) (q:aE) : Prop where
 path:q.aO.size≤100
 caps:q.bt.length=L
 user:inI q.de
 nums:∀ x∈q.bt,inI x.kM∧inI x.sy
structure CG (L:Nat) (c:ay) : Prop where
 labels:c.aj.length=L
 label:∀ x∈c.aj,x.size≤100
 queues:∀ q∈c.ae,QG L q
theorem CG.text {L:Nat} {c:ay} (h:CG L c) (hL:L≤10) (hn:c.ae.length≤10) : X5 c :=
 ⟨by have:=h.labels; omega,fun x hx=>Nat.le_trans (h.label x hx) (by omega),by omega,fun q hq=>Nat.le_trans (h.queues q hq).path (by omega),fun q hq=>by have:=(h.queues q hq).caps; omega,fun q hq=>(h.queues q hq).user,fun q hq=>(h.queues q hq).nums⟩
theorem CG.sz {L:Nat} {c:ay} (h:CG L c) (hL:L≤10) (hn:c.ae.length≤10) : SzC c :=
 ⟨by have:=h.labels; omega,by omega,fun q hq=>by have:=(h.queues q hq).caps; omega,fun q hq=>Nat.le_trans (h.queues q hq).path (by omega)⟩
theorem py {n:Int} (h : -1000000000≤n∧n≤1000000000) : inI n:=by unfold inI; omega
theorem Sx {α : Type} {l:List α} {i:Nat} {a x : α} (h:x∈l.set i a) : x∈l∨x=a:=List.mem_or_eq_of_mem_set h
theorem Yo {L:Nat} {k:Nat} (hk:k < L) {n most:Int} (hn:inI n) (hm:inI most) {kids:List ByteArray} {j:Nat} (hj:j < kids.length) {N:Nat} (hN:N≤10) {c:ay} (hc:CG L c) (hcn:c.ae.length=N) : Ok (ah (er (k:Int) n most (j:Int) kids) ab (c,0)) (fun r=>CG L r.1∧r.1.ae.length=N):=by
 refine aM (fun st=>∃ m:Nat,st.2=(m:Int)∧m≤N∧CG L st.1∧st.1.ae.length=N) (fun st=>N - st.2.toNat) _ (fun st ⟨m,h1,h2,h3,h4⟩=>?_) ab (c,0) ⟨0,rfl,Nat.zero_le _,hc,hcn⟩ (by show N - (0:Int).toNat < ab; unfold ab; omega)
 unfold er
 simp only [h1]
 split
 ·rename_i hlt
  have hlt:m < st.1.ae.length:=by have:=zd hlt; omega
  have e1:=zq hlt
  have e2:=zq hj
  have hq:=h3.queues _ (List.getElem_mem hlt)
  have hkk:k < st.1.ae[m].bt.length:=by rw [hq.caps]; exact hk
  have e3:=zq hkk
  simp only [aH e1,aH e2,aH e3,zb,bb (show m < 10 by omega) (show 10≤1000000 by omega),zt]
  left
  split
  ·refine ⟨_,rfl,⟨m + 1,rfl,by omega,⟨h3.labels,h3.label,fun q hq'=>?_⟩,by simpa using h4⟩,by simp only [zt]; omega⟩
   rcases Sx hq' with h | h
   ·exact h3.queues q h
   ·subst h
    refine ⟨hq.path,by simpa using hq.caps,hq.user,fun x hx=>?_⟩
    rcases Sx hx with h | h
    ·exact hq.nums x h
    ·subst h; exact ⟨hn,hm⟩
  ·exact ⟨_,rfl,⟨m + 1,rfl,by omega,h3,h4⟩,by simp only [zt]; omega⟩
 ·exact .inr ⟨_,rfl,h3,h4⟩
theorem w64 {n:Int} (h : -1000000000000≤n∧n≤1000000000000) : i64.wrap n=n:=by rw [IntKind.wrap_i64]; omega
theorem Yq {L:Nat} {k:Nat} (hk:k < L) (hL:L≤10) {kids:List ByteArray} (hkd:kids.length≤10) (ns:List Int) {i:Nat} (hi:i≤10) {N:Nat} (hN:N≤10) {c:ay} (hc:CG L c) (hcn:c.ae.length=N) : Ok (ah (cX kids ns (i:Int) (k:Int)) ab (10000,c,0)) (fun r=>CG L r.2.1∧r.2.1.ae.length=N):=by
 have:=BR kids ns (i:Int) (k:Int) (10000,c) (by omega)
 dsimp only at this
 rw [this]
 refine Ok.weak (uv (g:=iM kids ns (i:Int) (k:Int)) (fin:=fun a_=>(a_.1,a_.2,((kids.length:Int)))) (fun _ st=>(0≤st.1∧st.1≤10000)∧CG L st.2∧st.2.ae.length=N) kids (10000,c) (fun j st x hx ⟨⟨l0,l1⟩,h2,h3⟩=>?_) ⟨⟨by omega,by omega⟩,hc,hcn⟩) (fun r ⟨a,e,h⟩=>by subst e; exact h.2)
 have hj:=(zg.1 hx).1
 obtain ⟨left,c⟩:=st
 dsimp only at l0 l1 h2 h3
 unfold iM
 dsimp only
 have hij:(i:Int) * (j:Int)≤100:=by
  have:i * j≤10 * 10:=Nat.mul_le_mul hi (by omega)
  exact_mod_cast this
 have hij0 : 0≤(i:Int) * (j:Int):=Int.mul_nonneg (by omega) (by omega)
 refine Ok.bind (P:=fun n=>0≤n∧n≤left) (Ok.ite (fun _=>?_) fun _=>Ok.pure ⟨l0,Int.le_refl _⟩) fun n hn=>?_
 ·have h2d:left.tdiv 2=left / 2:=Int.tdiv_eq_ediv_of_nonneg l0
  rw [h2d,w64 (n:=(i:Int) + j) (by omega),w64 (n:=(i:Int) + j + k) (by omega),w64 (n:=left + 1) (by omega),w64 (n:=(i:Int) * j) (by omega),w64 (n:=(i:Int) * j + k) (by omega),w64 (n:=left / 2) (by omega)]
  refine Ok.bind (tP ns (by omega)) fun p _=>Ok.bind (ip p (by omega) (by omega)) fun v hv=>Ok.bind (tP ns (by omega)) fun p2 _=>Ok.bind (ip p2 (by omega) (by omega)) fun u hu=>Ok.bind (kt hu.1 hu.2) fun b hb=>Ok.pure ?_
  simp only [List.mem_cons,List.not_mem_nil,or_false] at hb
  omega
 ·rw [w64 (n:=left - n) (by omega),w64 (n:=(j:Int) + k) (by omega),w64 (n:=10000 - n) (by omega),w64 (n:=10000 - n + 1) (by omega),w64 (n:=2 * (j:Int)) (by omega),w64 (n:=(i:Int) + 2 * j) (by omega)]
  refine Ok.bind (tP ns (by omega)) fun p _=>Ok.bind (ip p (by omega) (by omega)) fun v hv=>Ok.bind (tP ns (by omega)) fun p2 _=>Ok.bind (ip p2 (by omega) (by omega)) fun u hu=>Ok.bind (kt hu.1 hu.2) fun b hb=>?_
  rw [w64 (n:=n + v) (by omega)] at hb
  simp only [List.mem_cons,List.not_mem_nil,or_false] at hb
  refine Ok.bind (Yo hk (py (n:=n) (by omega)) (py (n:=b) (by omega)) hj hN h2 h3) fun r hr=>Ok.pure ⟨_,rfl,⟨by show 0≤left - n; omega,by show left - n≤10000; omega⟩,hr.1,hr.2⟩
theorem Yr {L:Nat} (hL:L≤10) {kids:List ByteArray} (hkd:kids.length≤10) (ns:List Int) {i:Nat} (hi:i≤10) {N:Nat} (hN:N≤10) {c:ay} (hc:CG L c) (hcn:c.ae.length=N) : Ok (ah (dD ns (i:Int) kids) ab (c,0)) (fun r=>CG L r.1∧r.1.ae.length=N):=by
 refine aM (fun st=>∃ m:Nat,st.2=(m:Int)∧m≤L∧CG L st.1∧st.1.ae.length=N) (fun st=>L - st.2.toNat) _ (fun st ⟨m,h1,h2,h3,h4⟩=>?_) ab (c,0) ⟨0,rfl,Nat.zero_le _,hc,hcn⟩ (by show L - (0:Int).toNat < ab; unfold ab; omega)
 unfold dD
 simp only [h1]
 split
 ·rename_i hlt
  have hlt:m < L:=by have:=zd hlt; have:=h3.labels; omega
  obtain ⟨r,r1,r2,r3⟩:=Yq hlt hL hkd ns hi hN h3 h4
  simp only [r1,zb,bb (show m < 10 by omega) (show 10≤1000000 by omega)]
  exact .inl ⟨_,rfl,⟨m + 1,rfl,by omega,r2,r3⟩,by simp only [zt]; omega⟩
 ·exact .inr ⟨_,rfl,h3,h4⟩
theorem Yt {L:Nat} {c:ay} (hl:c.aj.length=L) (hL:L≤10) {q:aE} (hp:q.aO.size≤100) (hu:inI q.de) (hc:q.bt = []) : Ok (ah (eu c) ab (q,0)) (fun r=>QG L r.1):=by
 rw [sU c q (by omega)]
 refine Ok.weak (D6 (g:=iQ c) (fin:=fun a_=>(a_,((c.aj.length:Int)))) (fun k b=>QG k b) c.aj q (fun j b x hx hb=>?_) ⟨hp,by rw [hc]; rfl,hu,by rw [hc]; intro x hx; cases hx⟩) (fun r ⟨a,e,h⟩=>by subst e; rw [hl] at h; exact h)
 have hj:=(zg.1 hx).1
 have:=hb.caps
 unfold iQ
 dsimp only
 rw [aJ (by simp; omega)]
 refine Ok.pure ⟨_,rfl,hb.path,by simpa using this,hb.user,fun y hy=>?_⟩
 simp only [List.mem_append,List.mem_singleton] at hy
 rcases hy with h | h
 ·exact hb.nums y h
 ·subst h; exact ⟨py (by decide),py (by decide)⟩
theorem Yv {L:Nat} (hL:L≤10) {l:List ByteArray} (hl:l.length≤10) (hs:∀ x∈l,x.size≤100) (ns:List Int) {c:ay} (hc:CG L c) (hq:c.ae = []) : Ok (ah (dE l ns) ab (c,0)) (fun r=>CG L r.1∧r.1.ae.length=l.length):=by
 rw [BT l ns c (by omega)]
 refine Ok.weak (uv (g:=iR l ns) (fin:=fun a_=>(a_,((l.length:Int)))) (fun k b=>CG L b∧b.ae.length=k) l c (fun j b x hx ⟨hb,hn⟩=>?_) ⟨hc,by rw [hq]; rfl⟩) (fun r ⟨a,e,h⟩=>by subst e; exact h)
 have hj:=(zg.1 hx).1
 unfold iR
 dsimp only
 refine Ok.bind (P:=fun t=>t=true→j < ns.length) (Ok.ite (fun hd=>?_) fun _=>Ok.pure (fun e=>by cases e)) fun t ht=>?_
 ·have hd:=zd hd
  exact Ok.bind (kt (by omega) hd) fun b _=>Ok.pure (fun _=>by omega)
 refine Ok.bind (P:=fun q:aE=>q.aO=x∧q.bt = []∧inI q.de) (Ok.ite (fun hd=>?_) fun _=>Ok.pure ⟨rfl,rfl,(by show inI 1000000; exact py (by decide))⟩) fun q ⟨q1,q2,q3⟩=>?_
 ·have:=ht hd
  refine Ok.bind (kt (by omega) (by omega)) fun b _=>Ok.bind (ip b (by omega) (by omega)) fun v hv=>Ok.pure ⟨rfl,rfl,?_⟩
  show inI (i64.wrap (1 + v))
  rw [w64 (by omega)]
  exact py (by omega)
 ·refine Ok.bind (Yt hb.labels hL (by rw [q1]; exact hs x (List.mem_of_getElem? hx)) q3 q2) fun r hr=>?_
  rw [aJ (by simp; omega)]
  refine Ok.pure ⟨_,rfl,⟨hb.labels,hb.label,fun y hy=>?_⟩,by simp; omega⟩
  simp only [List.mem_append,List.mem_singleton] at hy
  rcases hy with h | h
  ·exact hb.queues y h
  ·subst h; exact hr
theorem Ys {L:Nat} (hL:L≤10) {l:List ByteArray} (hl:l.length≤10) (ns:List Int) {N:Nat} (hN:N≤10) {c:ay} (hc:CG L c) (hq:c.ae.length=N) : Ok (ah (cP l ns) ab (c,0)) (fun r=>CG L r.1∧r.1.ae.length=N):=by
 rw [BS l ns c (by omega)]
 refine Ok.weak (uv (g:=iP l ns) (fin:=fun a_=>(a_,((l.length:Int)))) (fun k b=>CG L b∧b.ae.length=N) l c (fun j b x hx ⟨hb,hn⟩=>?_) ⟨hc,hq⟩) (fun r ⟨a,e,h⟩=>by subst e; exact h)
 have hj:=(zg.1 hx).1
 unfold iP
 dsimp only
 obtain ⟨kd,k1,k2,_⟩:=u9 b x (hb.sz hL (by omega))
 refine Ok.bind (P:=fun kd=>kd.length≤10) ⟨kd,k1,by omega⟩ fun kd hkd=>Ok.bind (Yr hL hkd ns (by omega) hN hb hn) fun r hr=>Ok.pure ⟨_,rfl,hr.1,hr.2⟩
theorem GW (shape:Int) (ns:List Int) : Ok (ga shape ns) X5:=by
 unfold ga
 dsimp only
 refine Ok.bind (ip _ (by omega) (by omega)) fun w hw=>?_
 rw [w64 (n:=1 + w) (by omega)]
 obtain ⟨W,rfl⟩ : ∃ W:Nat,w=(W:Int):=⟨w.toNat,by omega⟩
 rw [show (1 + (W:Int))=((1 + W:Nat) : Int) by omega,lB (by simp; omega)]
 simp only [zb]
 refine Ok.bind (ip _ (by omega) (by omega)) fun t ht=>Ok.bind (kt ht.1 ht.2) fun l hl=>?_
 have key:l.length≤7∧∀ x∈l,x.size≤100:=by
  simp only [List.mem_cons,List.not_mem_nil,or_false] at hl
  rcases hl with h | h | h | h | h <;> subst h <;> decide
 have hL:(List.take (1 + W) [(⟨#[]⟩ : ByteArray),⟨#[103,112,117]⟩]).length≤10:=Nat.le_trans (List.length_take_le' _ _) (by decide)
 refine Ok.bind (Yv hL (by omega) key.2 ns ⟨rfl,fun x hx=>?_,fun q hq=>by cases hq⟩ rfl) fun r hr=>Ok.bind (Ys hL (by omega) ns (by omega) hr.1 hr.2) fun q hq=>Ok.pure (hq.1.text hL (by have:=hq.2; omega))
 have:=List.mem_of_mem_take hx
 simp only [List.mem_cons,List.not_mem_nil,or_false] at this
 rcases this with h | h <;> subst h <;> decide
end Go.Proofs.YtaknepbdbappdaaGreat
