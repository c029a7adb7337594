/- My texts, in one. -/
import Derived.Test.YtchddofjajgopaaGreatZA
set_option linter.all false
set_option maxRecDepth 100000
set_option maxHeartbeats 4000000
namespace Go.Proofs.YtchddofjajgopaaGreat
open Go.RowKit
open IntKind (i64)
open Go.Proofs.Tryz (prog)
section
section
variable {α σ τ S:Type}
theorem aJ {f : σ→Option (σ⊕τ)} (I : σ→Prop) (μ : σ→Nat) (Q : τ→Prop) (h:∀ s,I s→(∃ s',f s=some (.inl s')∧I s'∧μ s' < μ s)∨(∃ r,f s=some (.inr r)∧Q r)) : ∀ (N:Nat) (s : σ),I s→μ s < N→∃ r,ah f N s=some r∧Q r
 | 0,s,_,hm=>absurd hm (Nat.not_lt_zero _)
 | N + 1,s,hI,hm=>by
  rcases h s hI with ⟨s',h1,h2,h3⟩ | ⟨r,h1,h2⟩
  ·obtain ⟨r,h4,h5⟩:=aJ I μ Q h N s' h2 (by omega)
   exact ⟨r,by simp only [ah,h1]; exact h4,h5⟩
  ·exact ⟨r,by simp only [ah,h1],h2⟩
def bk (g : σ→α→Option (σ⊕τ)) (fin : σ→τ) : σ→List α→Option τ
 | a,[]=>some (fin a)
 | a,x::l=>match g a x with
  | none=>none
  | some (.inl a')=>bk g fin a' l
  | some (.inr r)=>some r
def nB (g : σ→Int→α→Option (σ⊕τ)) (fin : σ→τ) : σ→Nat→List α→Option τ
 | a,_,[]=>some (fin a)
 | a,k,x::l=>match g a (k:Int) x with
  | none=>none
  | some (.inl a')=>nB g fin a' (k + 1) l
  | some (.inr r)=>some r
theorem ur (l:List α) (mk : σ→Int→S) (f:S→Option (S⊕τ)) (g : σ→Int→α→Option (σ⊕τ)) (fin : σ→τ)
  (hstep:∀ (k:Nat) (a : σ) (x : α),l[k]? = some x→f (mk a (k:Int))=(g a (k:Int) x).map (fun o=>match o with | .inl a'=>.inl (mk a' ((k + 1:Nat) : Int)) | .inr r=>.inr r))
  (hend:∀ a,f (mk a (l.length:Int))=some (.inr (fin a))) : ∀ (N k:Nat) (a : σ),k≤l.length→l.length - k < N→ah f N (mk a (k:Int))=nB g fin a k (l.drop k)
 | 0,k,a,_,hN=>absurd hN (Nat.not_lt_zero _)
 | N + 1,k,a,hk,hN=>by
  by_cases hlt:k < l.length
  ·have hx:l[k]? = some l[k]:=zq hlt
   have hd:l.drop k=l[k] :: l.drop (k + 1):=(List.getElem_cons_drop hlt).symm
   rw [hd]
   simp only [ah,hstep k a _ hx,nB]
   cases hg:g a (k:Int) l[k] with
   | none=>rfl
   | some o =>
    cases o with
    | inl a'=>exact ur l mk f g fin hstep hend N (k + 1) a' hlt (by omega)
    | inr r=>rfl
  ·have:k=l.length:=by omega
   subst this
   simp only [ah,hend a,List.drop_length,nB]
theorem eV (l:List α) (mk : σ→Int→S) {f:S→Option (S⊕τ)} (g : σ→Int→α→Option (σ⊕τ)) (fin : σ→τ) {N:Nat} (hN:l.length < N)
  (hstep:∀ (k:Nat) (a : σ) (x : α),l[k]? = some x→f (mk a (k:Int))=(g a (k:Int) x).map (fun o=>match o with | .inl a'=>.inl (mk a' ((k + 1:Nat) : Int)) | .inr r=>.inr r))
  (hend:∀ a,f (mk a (l.length:Int))=some (.inr (fin a))) (a : σ) : ah f N (mk a 0)=nB g fin a 0 l:=by
 have:=ur l mk f g fin hstep hend N 0 a (Nat.zero_le _) (by omega)
 rwa [List.drop_zero] at this
theorem H3 {β γ δ : Type} (o:Option β) (k : β→Option γ) (f : γ→δ) : (o.bind k).map f=o.bind fun x=>(k x).map f:=by cases o <;> rfl
theorem VN {γ δ : Type} {c:Bool} (a b:Option γ) (f : γ→δ) : (if c=true then a else b).map f=if c=true then a.map f else b.map f:=by cases c <;> rfl
theorem X3 {β γ δ ε : Type} (o : β⊕γ) (a : β→Option δ) (b : γ→Option δ) (f : δ→ε) : (match o with | .inr y=>b y | .inl x=>a x).map f=match o with | .inr y=>(b y).map f | .inl x=>(a x).map f:=by cases o <;> rfl
theorem wI (l:List α) (mk : σ→Int→S) (f:S→Option (S⊕τ)) (g : σ→α→Option (σ⊕τ)) (fin : σ→τ)
  (hstep:∀ (k:Nat) (a : σ) (x : α),l[k]? = some x→f (mk a (k:Int))=(g a x).map (fun o=>match o with | .inl a'=>.inl (mk a' ((k + 1:Nat) : Int)) | .inr r=>.inr r))
  (hend:∀ a,f (mk a (l.length:Int))=some (.inr (fin a))) : ∀ (N k:Nat) (a : σ),k≤l.length→l.length - k < N→ah f N (mk a (k:Int))=bk g fin a (l.drop k)
 | 0,k,a,_,hN=>absurd hN (Nat.not_lt_zero _)
 | N + 1,k,a,hk,hN=>by
  by_cases hlt:k < l.length
  ·have hx:l[k]? = some l[k]:=zq hlt
   have hd:l.drop k=l[k] :: l.drop (k + 1):=(List.getElem_cons_drop hlt).symm
   rw [hd]
   simp only [ah,hstep k a _ hx,bk]
   cases hg:g a l[k] with
   | none=>rfl
   | some o =>
    cases o with
    | inl a'=>exact wI l mk f g fin hstep hend N (k + 1) a' hlt (by omega)
    | inr r=>rfl
  ·have:k=l.length:=by omega
   subst this
   simp only [ah,hend a,List.drop_length,bk]
theorem ay (l:List α) (mk : σ→Int→S) {f:S→Option (S⊕τ)} (g : σ→α→Option (σ⊕τ)) (fin : σ→τ) {N:Nat} (hN:l.length < N)
  (hstep:∀ (k:Nat) (a : σ) (x : α),l[k]? = some x→f (mk a (k:Int))=(g a x).map (fun o=>match o with | .inl a'=>.inl (mk a' ((k + 1:Nat) : Int)) | .inr r=>.inr r))
  (hend:∀ a,f (mk a (l.length:Int))=some (.inr (fin a))) (a : σ) : ah f N (mk a 0)=bk g fin a l:=by
 have:=wI l mk f g fin hstep hend N 0 a (Nat.zero_le _) (by omega)
 rwa [List.drop_zero] at this
theorem wH (l:List α) (p : α→Bool) {f:Int→Option (Int⊕Int)} (hstep:∀ (k:Nat) (x : α),l[k]? = some x→f (k:Int)=if p x=true then some (.inl ((k + 1:Nat) : Int)) else some (.inr (k:Int))) (hend:f (l.length:Int)=some (.inr (l.length:Int))) :
  ∀ (N k:Nat),k≤l.length→l.length - k < N→ah f N (k:Int)=some ((k + ((l.drop k).takeWhile p).length:Nat) : Int)
 | 0,k,_,hN=>absurd hN (Nat.not_lt_zero _)
 | N + 1,k,hk,hN=>by
  by_cases hlt:k < l.length
  ·have hx:l[k]? = some l[k]:=zq hlt
   have hd:l.drop k=l[k] :: l.drop (k + 1):=(List.getElem_cons_drop hlt).symm
   simp only [ah,hstep k _ hx]
   rw [hd,List.takeWhile_cons]
   cases hp:p l[k] with
   | true =>
    simp only [if_true]
    rw [wH l p hstep hend N (k + 1) hlt (by omega)]
    simp only [List.length_cons]
    congr 2
    omega
   | false=>simp
  ·have:k=l.length:=by omega
   subst this
   simp only [ah,hend,List.drop_length,List.takeWhile_nil,List.length_nil,Nat.add_zero]
theorem Ew (l:List α) (p : α→Bool) {f:Int→Option (Int⊕Int)} {N:Nat} (hN:l.length < N) (hstep:∀ (k:Nat) (x : α),l[k]? = some x→f (k:Int)=if p x=true then some (.inl ((k + 1:Nat) : Int)) else some (.inr (k:Int))) (hend:f (l.length:Int)=some (.inr (l.length:Int))) :
  ah f N 0=some ((l.takeWhile p).length:Int):=by
 have:=wH l p hstep hend N 0 (Nat.zero_le _) (by omega)
 simpa using this
theorem k8 (p : α→Bool) (l:List α) : (l.takeWhile p).length≤l.length:=(List.takeWhile_sublist p).length_le
theorem oa {l:List α} {k:Nat} (h:k≤l.length) : hiO l (k:Int)=some (l.take k):=by
 unfold hiO
 rw [if_pos ⟨Int.natCast_nonneg k,by rw [zt]; exact h⟩,zt]
theorem kt {l:List α} {k:Nat} (h:k≤l.length) : loO l (k:Int)=some (l.drop k):=by
 unfold loO
 rw [if_pos ⟨Int.natCast_nonneg k,by rw [zt]; exact h⟩,zt]
theorem aF {l m:List α} (h:l.length + m.length≤1000000) : aX l m=some (l++m):=by unfold aX; rw [if_pos h]
theorem aW {g : σ→α→Option (σ⊕τ)} {fin : σ→τ} (I:Nat→σ→Prop) (Q : τ→Prop) : ∀ (l:List α) (k:Nat) (a : σ),(∀ (j:Nat) (a : σ) (x : α),l[j]? = some x→I (k + j) a→∃ o,g a x=some o∧(∀ a',o = .inl a'→I (k + j + 1) a')∧∀ r,o = .inr r→Q r)→(∀ a,I (k + l.length) a→Q (fin a))→I k a→∃ r,bk g fin a l=some r∧Q r
 | [],k,a,_,hf,hI=>⟨fin a,rfl,hf a hI⟩
 | x::l,k,a,h,hf,hI=>by
  obtain ⟨o,h1,h2,h3⟩:=h 0 a x rfl hI
  cases o with
  | inl a' =>
   obtain ⟨r,h4,h5⟩:=aW I Q l (k + 1) a' (fun j a x hj hI=>by
    have:=h (j + 1) a x hj (by rw [show k + (j + 1)=k + 1 + j by omega]; exact hI)
    rw [show k + (j + 1) + 1=k + 1 + j + 1 by omega] at this
    exact this) (fun a hI=>hf a (by rw [List.length_cons,show k + (l.length + 1)=k + 1 + l.length by omega]; exact hI)) (h2 a' rfl)
   exact ⟨r,by simp only [bk,h1]; exact h4,h5⟩
  | inr r=>exact ⟨r,by simp only [bk,h1],h3 r rfl⟩
theorem Mj {l:List α} {i:Int} (h0 : 0≤i) (h1:i < (l.length:Int)) : ∃ x,au l i=some x∧x∈l:=by
 unfold au
 rw [if_pos h0]
 have:i.toNat < l.length:=by omega
 exact ⟨l[i.toNat],zq this,List.getElem_mem this⟩
theorem orB (a b:Bool) : (if a=true then some true else some b)=some (a||b):=by cases a <;> rfl
theorem dN (a b:Bool) : (if a=true then some b else some false)=some (a&&b):=by cases a <;> rfl
theorem cr (p : α→Bool) (q : α→σ) {ρ : Type} (fin:List σ→ρ) : ∀ (l:List α) (acc:List σ),acc.length + l.length≤1000000→bk (fun acc x=>if p x=true then (aX acc [q x]).map (fun a=>(.inl a:List σ⊕ρ)) else some (.inl acc)) fin acc l=some (fin (acc++(l.filter p).map q))
 | [],acc,_=>by simp [bk]
 | x::l,acc,h=>by
  simp only [List.length_cons] at h
  simp only [bk,List.filter_cons]
  cases hp:p x with
  | true =>
   simp only [if_true,aF (show acc.length + [q x].length≤1000000 by simp; omega),Option.map_some]
   rw [cr p q fin l _ (by simp; omega)]
   simp
  | false=>simpa using cr p q fin l acc (by omega)
def cU (key : α→Int) (l:List α) (a : α) : List α :=
 l.take (l.takeWhile fun x=>decide (key x < key a)).length++a::l.drop (match l[(l.takeWhile fun x=>decide (key x < key a)).length]? with | some x=>if (key x==key a)=true then (l.takeWhile fun x=>decide (key x < key a)).length + 1 else (l.takeWhile fun x=>decide (key x < key a)).length | none=>(l.takeWhile fun x=>decide (key x < key a)).length)
theorem aE {l:List α} {k:Nat} {x : α} (h:l[k]? = some x) : au l (k:Int)=some x:=by
 unfold au
 rw [if_pos (Int.natCast_nonneg k),zt,h]
theorem bK {l:List α} {k:Nat} {x : α} (h:l[k]? = some x) : decide ((k:Int) < (l.length:Int))=true:=by
 have:=(zg.1 h).1
 simpa using this
theorem bE (l:List α) : decide ((l.length:Int) < (l.length:Int))=false:=by simp
theorem aY {k n:Nat} (h:k < n) (hn:n≤1000000) : i64.wrap ((k:Int) + 1)=((k + 1:Nat) : Int):=ZW k (by omega)
theorem an {n:Nat} (h:n≤1000000) : n < ab:=by unfold ab; omega
theorem sN (h : σ→α→σ) (fin : σ→τ) : ∀ (l:List α) (a : σ),bk (fun a x=>some (.inl (h a x))) fin a l=some (fin (l.foldl h a))
 | [],_=>rfl
 | x::l,a=>sN h fin l (h a x)
theorem sO (p : α→Bool) (q : α→τ) (d : τ) : ∀ l:List α,bk (fun (_:Unit) x=>if p x=true then some (.inr (q x)) else some (.inl ())) (fun _=>d) () l=some (((l.find? p).map q).getD d)
 | []=>rfl
 | x::l=>by
  simp only [bk,List.find?_cons]
  cases hp:p x with
  | true=>rfl
  | false=>simpa using sO p q d l
end
theorem bI {α : Type} {a b:Option α} (h:a=b:=by (have hk:=(zg.1 hx).1; simp only [bK hx,if_true,aE hx,zb,aY hk hl,H3,VN,X3,Option.map_some]; all_goals (repeat (first | rfl | (refine congrArg (Option.bind _) (funext fun r_=>?_)) | (refine iteB ?_ ?_) | (cases r_ <;> rfl))))) : a=b:=h
theorem cE {α : Type} {a b:Option α} (h:a=b:=by simp only [bE,zf,if_false]) : a=b:=h
end
inductive Ty where
 | int (k:IntKind)
 | bool
 | str
 | sl (t:Ty)
 | st (i:Nat)
def Ty.same:(a b:Ty)→Option (PLift (a=b))
 | .int j,.int k=>if h:j=k then some ⟨by rw [h]⟩ else none
 | .bool,.bool=>some ⟨rfl⟩
 | .str,.str=>some ⟨rfl⟩
 | .sl a,.sl b=>match Ty.same a b with | some ⟨h⟩=>some ⟨by rw [h]⟩ | none=>none
 | .st i,.st j=>if h:i=j then some ⟨by rw [h]⟩ else none
 | _,_=>none
def lhO {α : Type} (l:List α) (a b:Int) : Option (List α):=if 0≤a∧0≤b∧a.toNat≤b.toNat∧b.toNat≤l.length then some ((l.drop a.toNat).take (b.toNat - a.toNat)) else none
def ST:Nat→Type
 | 0=>aw
 | 1=>aQ
 | 2=>aC
 | 3=>ec
 | 4=>aB
 | 5=>ax
 | 6=>am
 | 7=>aA
 | 8=>a8
 | 9=>aL
 | 10=>bt
 | 11=>bu
 | 12=>aa
 | 15=>aR
 | 16=>az
 | 17=>bb
 | 18=>ak
 | _=>Unit
def Ty.den:Ty→Type
 | .int _=>Int
 | .bool=>Bool
 | .str=>ByteArray
 | .sl t=>List (Ty.den t)
 | .st i=>ST i
inductive SD where
 | int (k:IntKind) (x:Int)
 | bool (b:Bool)
 | str (s:ByteArray)
 | sl (t:Ty) (xs:List t.den)
 | nl
def stD:(i:Nat)→ST i→List D
 | 0,x=>aw.d x
 | 1,x=>aQ.d x
 | 2,x=>aC.d x
 | 3,x=>ec.d x
 | 4,x=>aB.d x
 | 5,x=>ax.d x
 | 6,x=>am.d x
 | 7,x=>aA.d x
 | 8,x=>a8.d x
 | 9,x=>aL.d x
 | 10,x=>bt.d x
 | 11,x=>bu.d x
 | 12,x=>aa.d x
 | 15,x=>aR.d x
 | 16,x=>az.d x
 | 17,x=>bb.d x
 | 18,x=>ak.d x
 | 13,_=>[]
 | 14,_=>[]
 | _ + 19,_=>[]
def bR:(t:Ty)→t.den→List D
 | .int k,x=>[.v (.int k x)]
 | .bool,x=>[.v (.bool x)]
 | .str,x=>[.v (.string x)]
 | .sl t,xs=>[.sl (List.map (bR t) xs)]
 | .st i,x=>stD i x
def yV {t u:Ty} (h:t=u) (xs:List t.den) : List u.den:=h ▸ xs
def SD.toD:SD→D
 | .int k x=>.v (.int k x)
 | .bool x=>.v (.bool x)
 | .str x=>.v (.string x)
 | .sl t xs=>.sl (List.map (bR t) xs)
 | .nl=>.sl []
def SD.as:(t:Ty)→SD→Option t.den
 | .int k,.int k' x=>if k' = k then some x else none
 | .bool,.bool x=>some x
 | .str,.str x=>some x
 | .sl t,.sl t' xs=>match Ty.same t' t with | some ⟨h⟩=>some (yV h xs) | none=>none
 | .sl t,.nl=>some ([] : List t.den)
 | _,_=>none
def qC:(t:Ty)→t.den→SD
 | .int k,x=>.int k x
 | .bool,x=>.bool x
 | .str,x=>.str x
 | .sl t,xs=>.sl t xs
 | .st _,_=>.nl
def stN:Nat→Nat
 | 0=>2
 | 1=>8
 | 2=>14
 | 3=>2
 | 4=>3
 | 5=>2
 | 6=>9
 | 7=>8
 | 8=>6
 | 9=>35
 | 10=>5
 | 11=>3
 | 12=>10
 | 15=>5
 | 16=>3
 | 17=>2
 | 18=>2
 | _=>0
def aaA:TypeId→Option Nat
 | 27=>some 0
 | 122=>some 1
 | 70=>some 2
 | 96=>some 3
 | 99=>some 4
 | 34=>some 5
 | 86=>some 6
 | 29=>some 7
 | 72=>some 8
 | 74=>some 9
 | 63=>some 10
 | 88=>some 11
 | 41=>some 12
 | 76=>some 15
 | 25=>some 16
 | 238=>some 17
 | 198=>some 18
 | _=>none
def stF:Nat→Bool
 | 0=>true
 | 1=>true
 | 2=>false
 | 3=>true
 | 4=>false
 | 5=>false
 | 6=>true
 | 7=>true
 | 8=>true
 | 9=>false
 | 10=>false
 | 11=>true
 | 12=>false
 | 15=>true
 | 16=>false
 | 17=>true
 | 18=>true
 | _=>true
def stC:(i:Nat)→ST i→List SD
 | 0,(x:aw)=>[.int .i64 x.br,.int .i64 x.aV]
 | 1,(x:aQ)=>[.int .i64 x.bw,.int .i64 x.aP,.int .i64 x.cp.br,.int .i64 x.cp.aV,.int .i64 x.gG,.int .i64 x.bH,.int .i64 x.da,.int .i64 x.iE]
 | 2,(x:aC)=>[.int .i64 x.fId,.int .i64 x.dr,.str x.bP,.int .i64 x.cZ,.int .i64 x.bw,.int .i64 x.bG.br,.int .i64 x.bG.aV,.sl (.st 1) x.bL,.int .i64 x.bB,.int .i64 x.bD,.sl (.int .i64) x.ca,.sl (.int .i64) x.fp,.sl (.int .i64) x.oE,.sl (.int .i64) x.pE]
 | 3,(x:ec)=>[.int .i64 x.kw,.int .i64 x.rU]
 | 4,(x:aB)=>[.str x.aI,.sl (.st 3) x.bl,.int .i64 x.cZ]
 | 5,(x:ax)=>[.sl (.str) x.ai,.sl (.st 4) x.ae]
 | 6,(x:am)=>[.int .i64 x.fId,.int .i64 x.bF,.int .i64 x.bH,.int .i64 x.cp.br,.int .i64 x.cp.aV,.int .i64 x.bw,.int .i64 x.aP,.bool x.bG,.int .i64 x.jn]
 | 7,(x:aA)=>[.int .i64 x.fId,.int .i64 x.aP,.int .i64 x.da,.int .i64 x.dL.br,.int .i64 x.dL.aV,.int .i64 x.bB,.int .i64 x.bD,.bool x.fUp]
 | 8,(x:a8)=>[.int .i64 x.fId,.int .i64 x.aP,.int .i64 x.nL,.int .i64 x.jK,.int .i64 x.iC.br,.int .i64 x.iC.aV]
 | 9,(x:aL)=>[.int .i64 x.gX,.int .i64 x.fId,.int .i64 x.bD,.int .i64 x.fN,.str x.My,.int .i64 x.bH.fId,.int .i64 x.bH.aP,.int .i64 x.bH.da,.int .i64 x.bH.dL.br,.int .i64 x.bH.dL.aV,.int .i64 x.bH.bB,.int .i64 x.bH.bD,.bool x.bH.fUp,.int .i64 x.bF.fId,.int .i64 x.bF.dr,.str x.bF.bP,.int .i64 x.bF.cZ,.int .i64 x.bF.bw,.int .i64 x.bF.bG.br,.int .i64 x.bF.bG.aV,.sl (.st 1) x.bF.bL,.int .i64 x.bF.bB,.int .i64 x.bF.bD,.sl (.int .i64) x.bF.ca,.sl (.int .i64) x.bF.fp,.sl (.int .i64) x.bF.oE,.sl (.int .i64) x.bF.pE,.sl (.st 1) x.bL,.sl (.int .i64) x.fQ,.int .i64 x.pD.fId,.int .i64 x.pD.aP,.int .i64 x.pD.nL,.int .i64 x.pD.jK,.int .i64 x.pD.iC.br,.int .i64 x.pD.iC.aV]
 | 10,(x:bt)=>[.int .i64 x.ZD,.sl (.st 6) x.ac,.sl (.int .i64) x.fQ,.sl (.int .i64) x.Y3,.int .i64 x.fN]
 | 11,(x:bu)=>[.int .i64 x.bH,.int .i64 x.bF,.int .i64 x.bw]
 | 12,(x:aa)=>[.sl (.str) x.bC.ai,.sl (.st 4) x.bC.ae,.sl (.st 7) x.aj,.sl (.st 2) x.aq,.sl (.st 6) x.ac,.sl (.st 11) x.aU,.sl (.st 8) x.bh,.int .i64 x.bQ,.int .i64 x.pF,.int .i64 x.rT]
 | 15,(x:aR)=>[.int .i64 x.gX,.int .i64 x.fA,.int .i64 x.fB,.int .i64 x.fC,.int .i64 x.fD]
 | 16,(x:az)=>[.int .i64 x.J5,.sl (.int .i64) x.fNs,.sl (.st 15) x.jI]
 | 17,(x:bb)=>[.int .i64 x.fA,.int .i64 x.fP]
 | 18,(x:ak)=>[.str x.aI,.int .i64 x.br]
 | 13,_=>[]
 | 14,_=>[]
 | _ + 19,_=>[]
def aw.k:List SD→Option aw
 | c0::c1 :: []=>Option.bind (c0.as (.int .i64)) fun x0=>Option.bind (c1.as (.int .i64)) fun x1=>some (⟨x0,x1⟩ : aw)
 | _=>none
def aQ.k:List SD→Option aQ
 | c0::c1::c2::c3::c4::c5::c6::c7 :: []=>Option.bind (c0.as (.int .i64)) fun x0=>Option.bind (c1.as (.int .i64)) fun x1=>Option.bind (c2.as (.int .i64)) fun x2=>Option.bind (c3.as (.int .i64)) fun x3=>Option.bind (c4.as (.int .i64)) fun x4=>Option.bind (c5.as (.int .i64)) fun x5=>Option.bind (c6.as (.int .i64)) fun x6=>Option.bind (c7.as (.int .i64)) fun x7=>some (⟨x0,x1,⟨x2,x3⟩,x4,x5,x6,x7⟩ : aQ)
 | _=>none
def aC.k:List SD→Option aC
 | c0::c1::c2::c3::c4::c5::c6::c7::c8::c9::c10::c11::c12::c13 :: []=>Option.bind (c0.as (.int .i64)) fun x0=>Option.bind (c1.as (.int .i64)) fun x1=>Option.bind (c2.as (.str)) fun x2=>Option.bind (c3.as (.int .i64)) fun x3=>Option.bind (c4.as (.int .i64)) fun x4=>Option.bind (c5.as (.int .i64)) fun x5=>Option.bind (c6.as (.int .i64)) fun x6=>Option.bind (c7.as (.sl (.st 1))) fun x7=>Option.bind (c8.as (.int .i64)) fun x8=>Option.bind (c9.as (.int .i64)) fun x9=>Option.bind (c10.as (.sl (.int .i64))) fun x10=>Option.bind (c11.as (.sl (.int .i64))) fun x11=>Option.bind (c12.as (.sl (.int .i64))) fun x12=>Option.bind (c13.as (.sl (.int .i64))) fun x13=>some (⟨x0,x1,x2,x3,x4,⟨x5,x6⟩,x7,x8,x9,x10,x11,x12,x13⟩ : aC)
 | _=>none
def ec.k:List SD→Option ec
 | c0::c1 :: []=>Option.bind (c0.as (.int .i64)) fun x0=>Option.bind (c1.as (.int .i64)) fun x1=>some (⟨x0,x1⟩ : ec)
 | _=>none
def aB.k:List SD→Option aB
 | c0::c1::c2 :: []=>Option.bind (c0.as (.str)) fun x0=>Option.bind (c1.as (.sl (.st 3))) fun x1=>Option.bind (c2.as (.int .i64)) fun x2=>some (⟨x0,x1,x2⟩ : aB)
 | _=>none
def ax.k:List SD→Option ax
 | c0::c1 :: []=>Option.bind (c0.as (.sl (.str))) fun x0=>Option.bind (c1.as (.sl (.st 4))) fun x1=>some (⟨x0,x1⟩ : ax)
 | _=>none
def am.k:List SD→Option am
 | c0::c1::c2::c3::c4::c5::c6::c7::c8 :: []=>Option.bind (c0.as (.int .i64)) fun x0=>Option.bind (c1.as (.int .i64)) fun x1=>Option.bind (c2.as (.int .i64)) fun x2=>Option.bind (c3.as (.int .i64)) fun x3=>Option.bind (c4.as (.int .i64)) fun x4=>Option.bind (c5.as (.int .i64)) fun x5=>Option.bind (c6.as (.int .i64)) fun x6=>Option.bind (c7.as (.bool)) fun x7=>Option.bind (c8.as (.int .i64)) fun x8=>some (⟨x0,x1,x2,⟨x3,x4⟩,x5,x6,x7,x8⟩ : am)
 | _=>none
def aA.k:List SD→Option aA
 | c0::c1::c2::c3::c4::c5::c6::c7 :: []=>Option.bind (c0.as (.int .i64)) fun x0=>Option.bind (c1.as (.int .i64)) fun x1=>Option.bind (c2.as (.int .i64)) fun x2=>Option.bind (c3.as (.int .i64)) fun x3=>Option.bind (c4.as (.int .i64)) fun x4=>Option.bind (c5.as (.int .i64)) fun x5=>Option.bind (c6.as (.int .i64)) fun x6=>Option.bind (c7.as (.bool)) fun x7=>some (⟨x0,x1,x2,⟨x3,x4⟩,x5,x6,x7⟩ : aA)
 | _=>none
def a8.k:List SD→Option a8
 | c0::c1::c2::c3::c4::c5 :: []=>Option.bind (c0.as (.int .i64)) fun x0=>Option.bind (c1.as (.int .i64)) fun x1=>Option.bind (c2.as (.int .i64)) fun x2=>Option.bind (c3.as (.int .i64)) fun x3=>Option.bind (c4.as (.int .i64)) fun x4=>Option.bind (c5.as (.int .i64)) fun x5=>some (⟨x0,x1,x2,x3,⟨x4,x5⟩⟩ : a8)
 | _=>none
def aL.k:List SD→Option aL
 | c0::c1::c2::c3::c4::c5::c6::c7::c8::c9::c10::c11::c12::c13::c14::c15::c16::c17::c18::c19::c20::c21::c22::c23::c24::c25::c26::c27::c28::c29::c30::c31::c32::c33::c34 :: []=>Option.bind (c0.as (.int .i64)) fun x0=>Option.bind (c1.as (.int .i64)) fun x1=>Option.bind (c2.as (.int .i64)) fun x2=>Option.bind (c3.as (.int .i64)) fun x3=>Option.bind (c4.as (.str)) fun x4=>Option.bind (c5.as (.int .i64)) fun x5=>Option.bind (c6.as (.int .i64)) fun x6=>Option.bind (c7.as (.int .i64)) fun x7=>Option.bind (c8.as (.int .i64)) fun x8=>Option.bind (c9.as (.int .i64)) fun x9=>Option.bind (c10.as (.int .i64)) fun x10=>Option.bind (c11.as (.int .i64)) fun x11=>Option.bind (c12.as (.bool)) fun x12=>Option.bind (c13.as (.int .i64)) fun x13=>Option.bind (c14.as (.int .i64)) fun x14=>Option.bind (c15.as (.str)) fun x15=>Option.bind (c16.as (.int .i64)) fun x16=>Option.bind (c17.as (.int .i64)) fun x17=>Option.bind (c18.as (.int .i64)) fun x18=>Option.bind (c19.as (.int .i64)) fun x19=>Option.bind (c20.as (.sl (.st 1))) fun x20=>Option.bind (c21.as (.int .i64)) fun x21=>Option.bind (c22.as (.int .i64)) fun x22=>Option.bind (c23.as (.sl (.int .i64))) fun x23=>Option.bind (c24.as (.sl (.int .i64))) fun x24=>Option.bind (c25.as (.sl (.int .i64))) fun x25=>Option.bind (c26.as (.sl (.int .i64))) fun x26=>Option.bind (c27.as (.sl (.st 1))) fun x27=>Option.bind (c28.as (.sl (.int .i64))) fun x28=>Option.bind (c29.as (.int .i64)) fun x29=>Option.bind (c30.as (.int .i64)) fun x30=>Option.bind (c31.as (.int .i64)) fun x31=>Option.bind (c32.as (.int .i64)) fun x32=>Option.bind (c33.as (.int .i64)) fun x33=>Option.bind (c34.as (.int .i64)) fun x34=>some (⟨x0,x1,x2,x3,x4,⟨x5,x6,x7,⟨x8,x9⟩,x10,x11,x12⟩,⟨x13,x14,x15,x16,x17,⟨x18,x19⟩,x20,x21,x22,x23,x24,x25,x26⟩,x27,x28,⟨x29,x30,x31,x32,⟨x33,x34⟩⟩⟩ : aL)
 | _=>none
def bt.k:List SD→Option bt
 | c0::c1::c2::c3::c4 :: []=>Option.bind (c0.as (.int .i64)) fun x0=>Option.bind (c1.as (.sl (.st 6))) fun x1=>Option.bind (c2.as (.sl (.int .i64))) fun x2=>Option.bind (c3.as (.sl (.int .i64))) fun x3=>Option.bind (c4.as (.int .i64)) fun x4=>some (⟨x0,x1,x2,x3,x4⟩ : bt)
 | _=>none
def bu.k:List SD→Option bu
 | c0::c1::c2 :: []=>Option.bind (c0.as (.int .i64)) fun x0=>Option.bind (c1.as (.int .i64)) fun x1=>Option.bind (c2.as (.int .i64)) fun x2=>some (⟨x0,x1,x2⟩ : bu)
 | _=>none
def aa.k:List SD→Option aa
 | c0::c1::c2::c3::c4::c5::c6::c7::c8::c9 :: []=>Option.bind (c0.as (.sl (.str))) fun x0=>Option.bind (c1.as (.sl (.st 4))) fun x1=>Option.bind (c2.as (.sl (.st 7))) fun x2=>Option.bind (c3.as (.sl (.st 2))) fun x3=>Option.bind (c4.as (.sl (.st 6))) fun x4=>Option.bind (c5.as (.sl (.st 11))) fun x5=>Option.bind (c6.as (.sl (.st 8))) fun x6=>Option.bind (c7.as (.int .i64)) fun x7=>Option.bind (c8.as (.int .i64)) fun x8=>Option.bind (c9.as (.int .i64)) fun x9=>some (⟨⟨x0,x1⟩,x2,x3,x4,x5,x6,x7,x8,x9⟩ : aa)
 | _=>none
def aR.k:List SD→Option aR
 | c0::c1::c2::c3::c4 :: []=>Option.bind (c0.as (.int .i64)) fun x0=>Option.bind (c1.as (.int .i64)) fun x1=>Option.bind (c2.as (.int .i64)) fun x2=>Option.bind (c3.as (.int .i64)) fun x3=>Option.bind (c4.as (.int .i64)) fun x4=>some (⟨x0,x1,x2,x3,x4⟩ : aR)
 | _=>none
def az.k:List SD→Option az
 | c0::c1::c2 :: []=>Option.bind (c0.as (.int .i64)) fun x0=>Option.bind (c1.as (.sl (.int .i64))) fun x1=>Option.bind (c2.as (.sl (.st 15))) fun x2=>some (⟨x0,x1,x2⟩ : az)
 | _=>none
def bb.k:List SD→Option bb
 | c0::c1 :: []=>Option.bind (c0.as (.int .i64)) fun x0=>Option.bind (c1.as (.int .i64)) fun x1=>some (⟨x0,x1⟩ : bb)
 | _=>none
def ak.k:List SD→Option ak
 | c0::c1 :: []=>Option.bind (c0.as (.str)) fun x0=>Option.bind (c1.as (.int .i64)) fun x1=>some (⟨x0,x1⟩ : ak)
 | _=>none
def stK:(i:Nat)→List SD→Option (ST i)
 | 0,cs=>aw.k cs
 | 1,cs=>aQ.k cs
 | 2,cs=>aC.k cs
 | 3,cs=>ec.k cs
 | 4,cs=>aB.k cs
 | 5,cs=>ax.k cs
 | 6,cs=>am.k cs
 | 7,cs=>aA.k cs
 | 8,cs=>a8.k cs
 | 9,cs=>aL.k cs
 | 10,cs=>bt.k cs
 | 11,cs=>bu.k cs
 | 12,cs=>aa.k cs
 | 15,cs=>aR.k cs
 | 16,cs=>az.k cs
 | 17,cs=>bb.k cs
 | 18,cs=>ak.k cs
 | 13,_=>none
 | 14,_=>none
 | _ + 19,_=>none
theorem SD.as_ok {t:Ty} {c:SD} {x:t.den} (h:c.as t=some x) : bR t x = [c.toD]:=by
 unfold SD.as at h
 split at h
 ·split at h
  ·rename_i hk
   subst hk
   injection h with h
   subst h
   rfl
  ·cases h
 ·injection h with h
  subst h
  rfl
 ·injection h with h
  subst h
  rfl
 ·split at h
  ·rename_i hk _
   subst hk
   injection h with h
   subst h
   rfl
  ·cases h
 ·injection h with h
  subst h
  rfl
 ·cases h
theorem ua:∀ (i:Nat) (x:ST i),(stC i x).map SD.toD=stD i x
 | 0,(x:aw)=>rfl
 | 1,(x:aQ)=>rfl
 | 2,(x:aC)=>rfl
 | 3,(x:ec)=>rfl
 | 4,(x:aB)=>rfl
 | 5,(x:ax)=>rfl
 | 6,(x:am)=>rfl
 | 7,(x:aA)=>rfl
 | 8,(x:a8)=>rfl
 | 9,(x:aL)=>rfl
 | 10,(x:bt)=>rfl
 | 11,(x:bu)=>rfl
 | 12,(x:aa)=>rfl
 | 15,(x:aR)=>rfl
 | 16,(x:az)=>rfl
 | 17,(x:bb)=>rfl
 | 18,(x:ak)=>rfl
 | 13,_=>rfl
 | 14,_=>rfl
 | _ + 19,_=>rfl
theorem xa:∀ (i:Nat) (x:ST i) (c:SD),c∈stC i x→c≠.nl
 | 0,(x:aw),c,h=>by
  simp only [stC,List.mem_cons,List.not_mem_nil,or_false] at h
  rcases h with rfl | rfl <;> (intro e; cases e)
 | 1,(x:aQ),c,h=>by
  simp only [stC,List.mem_cons,List.not_mem_nil,or_false] at h
  rcases h with rfl | rfl | rfl | rfl | rfl | rfl | rfl | rfl <;> (intro e; cases e)
 | 2,(x:aC),c,h=>by
  simp only [stC,List.mem_cons,List.not_mem_nil,or_false] at h
  rcases h with rfl | rfl | rfl | rfl | rfl | rfl | rfl | rfl | rfl | rfl | rfl | rfl | rfl | rfl <;> (intro e; cases e)
 | 3,(x:ec),c,h=>by
  simp only [stC,List.mem_cons,List.not_mem_nil,or_false] at h
  rcases h with rfl | rfl <;> (intro e; cases e)
 | 4,(x:aB),c,h=>by
  simp only [stC,List.mem_cons,List.not_mem_nil,or_false] at h
  rcases h with rfl | rfl | rfl <;> (intro e; cases e)
 | 5,(x:ax),c,h=>by
  simp only [stC,List.mem_cons,List.not_mem_nil,or_false] at h
  rcases h with rfl | rfl <;> (intro e; cases e)
 | 6,(x:am),c,h=>by
  simp only [stC,List.mem_cons,List.not_mem_nil,or_false] at h
  rcases h with rfl | rfl | rfl | rfl | rfl | rfl | rfl | rfl | rfl <;> (intro e; cases e)
 | 7,(x:aA),c,h=>by
  simp only [stC,List.mem_cons,List.not_mem_nil,or_false] at h
  rcases h with rfl | rfl | rfl | rfl | rfl | rfl | rfl | rfl <;> (intro e; cases e)
 | 8,(x:a8),c,h=>by
  simp only [stC,List.mem_cons,List.not_mem_nil,or_false] at h
  rcases h with rfl | rfl | rfl | rfl | rfl | rfl <;> (intro e; cases e)
 | 9,(x:aL),c,h=>by
  simp only [stC,List.mem_cons,List.not_mem_nil,or_false] at h
  rcases h with rfl | rfl | rfl | rfl | rfl | rfl | rfl | rfl | rfl | rfl | rfl | rfl | rfl | rfl | rfl | rfl | rfl | rfl | rfl | rfl | rfl | rfl | rfl | rfl | rfl | rfl | rfl | rfl | rfl | rfl | rfl | rfl | rfl | rfl | rfl <;> (intro e; cases e)
 | 10,(x:bt),c,h=>by
  simp only [stC,List.mem_cons,List.not_mem_nil,or_false] at h
  rcases h with rfl | rfl | rfl | rfl | rfl <;> (intro e; cases e)
 | 11,(x:bu),c,h=>by
  simp only [stC,List.mem_cons,List.not_mem_nil,or_false] at h
  rcases h with rfl | rfl | rfl <;> (intro e; cases e)
 | 12,(x:aa),c,h=>by
  simp only [stC,List.mem_cons,List.not_mem_nil,or_false] at h
  rcases h with rfl | rfl | rfl | rfl | rfl | rfl | rfl | rfl | rfl | rfl <;> (intro e; cases e)
 | 15,(x:aR),c,h=>by
  simp only [stC,List.mem_cons,List.not_mem_nil,or_false] at h
  rcases h with rfl | rfl | rfl | rfl | rfl <;> (intro e; cases e)
 | 16,(x:az),c,h=>by
  simp only [stC,List.mem_cons,List.not_mem_nil,or_false] at h
  rcases h with rfl | rfl | rfl <;> (intro e; cases e)
 | 17,(x:bb),c,h=>by
  simp only [stC,List.mem_cons,List.not_mem_nil,or_false] at h
  rcases h with rfl | rfl <;> (intro e; cases e)
 | 18,(x:ak),c,h=>by
  simp only [stC,List.mem_cons,List.not_mem_nil,or_false] at h
  rcases h with rfl | rfl <;> (intro e; cases e)
 | 13,_,c,h=>by cases h
 | 14,_,c,h=>by cases h
 | _ + 19,_,c,h=>by cases h
theorem XE:∀ (i:Nat) (x:ST i),(stD i x).length=stN i
 | 0,(x:aw)=>rfl
 | 1,(x:aQ)=>rfl
 | 2,(x:aC)=>rfl
 | 3,(x:ec)=>rfl
 | 4,(x:aB)=>rfl
 | 5,(x:ax)=>rfl
 | 6,(x:am)=>rfl
 | 7,(x:aA)=>rfl
 | 8,(x:a8)=>rfl
 | 9,(x:aL)=>rfl
 | 10,(x:bt)=>rfl
 | 11,(x:bu)=>rfl
 | 12,(x:aa)=>rfl
 | 15,(x:aR)=>rfl
 | 16,(x:az)=>rfl
 | 17,(x:bb)=>rfl
 | 18,(x:ak)=>rfl
 | 13,_=>rfl
 | 14,_=>rfl
 | _ + 19,_=>rfl
theorem Zj:∀ (i:Nat) (x:ST i),stF i=true→∀ d∈stD i x,∃ y,d = .v y
 | 0,(x:aw),_,d,h=>by
  simp only [stD,aw.d,List.mem_cons,List.not_mem_nil,or_false] at h
  rcases h with rfl | rfl <;> exact ⟨_,rfl⟩
 | 1,(x:aQ),_,d,h=>by
  simp only [stD,aQ.d,List.mem_cons,List.not_mem_nil,or_false] at h
  rcases h with rfl | rfl | rfl | rfl | rfl | rfl | rfl | rfl <;> exact ⟨_,rfl⟩
 | 2,(x:aC),h,_,_=>by cases h
 | 3,(x:ec),_,d,h=>by
  simp only [stD,ec.d,List.mem_cons,List.not_mem_nil,or_false] at h
  rcases h with rfl | rfl <;> exact ⟨_,rfl⟩
 | 4,(x:aB),h,_,_=>by cases h
 | 5,(x:ax),h,_,_=>by cases h
 | 6,(x:am),_,d,h=>by
  simp only [stD,am.d,List.mem_cons,List.not_mem_nil,or_false] at h
  rcases h with rfl | rfl | rfl | rfl | rfl | rfl | rfl | rfl | rfl <;> exact ⟨_,rfl⟩
 | 7,(x:aA),_,d,h=>by
  simp only [stD,aA.d,List.mem_cons,List.not_mem_nil,or_false] at h
  rcases h with rfl | rfl | rfl | rfl | rfl | rfl | rfl | rfl <;> exact ⟨_,rfl⟩
 | 8,(x:a8),_,d,h=>by
  simp only [stD,a8.d,List.mem_cons,List.not_mem_nil,or_false] at h
  rcases h with rfl | rfl | rfl | rfl | rfl | rfl <;> exact ⟨_,rfl⟩
 | 9,(x:aL),h,_,_=>by cases h
 | 10,(x:bt),h,_,_=>by cases h
 | 11,(x:bu),_,d,h=>by
  simp only [stD,bu.d,List.mem_cons,List.not_mem_nil,or_false] at h
  rcases h with rfl | rfl | rfl <;> exact ⟨_,rfl⟩
 | 12,(x:aa),h,_,_=>by cases h
 | 15,(x:aR),_,d,h=>by
  simp only [stD,aR.d,List.mem_cons,List.not_mem_nil,or_false] at h
  rcases h with rfl | rfl | rfl | rfl | rfl <;> exact ⟨_,rfl⟩
 | 16,(x:az),h,_,_=>by cases h
 | 17,(x:bb),_,d,h=>by
  simp only [stD,bb.d,List.mem_cons,List.not_mem_nil,or_false] at h
  rcases h with rfl | rfl <;> exact ⟨_,rfl⟩
 | 18,(x:ak),_,d,h=>by
  simp only [stD,ak.d,List.mem_cons,List.not_mem_nil,or_false] at h
  rcases h with rfl | rfl <;> exact ⟨_,rfl⟩
 | 13,_,_,_,h=>by cases h
 | 14,_,_,_,h=>by cases h
 | _ + 19,_,_,_,h=>by cases h
theorem cM {α β : Type} {o:Option α} {k : α→Option β} {r : β} (h:o.bind k=some r) : ∃ x,o=some x∧k x=some r:=by
 cases o with
 | none=>cases h
 | some x=>exact ⟨x,rfl,h⟩
theorem aN {t:Ty} {c:SD} {β : Type} {k:t.den→Option β} {r : β} (h:(c.as t).bind k=some r) : ∃ x,bR t x = [c.toD]∧k x=some r:=by
 obtain ⟨x,h1,h2⟩:=cM h
 exact ⟨x,SD.as_ok h1,h2⟩
theorem aw.k_ok {cs:List SD} {x:aw} (h:aw.k cs=some x) : cs.map SD.toD=aw.d x:=by
 unfold aw.k at h
 split at h
 ·rename_i c0 c1
  obtain ⟨x0,q0,h⟩:=aN h
  obtain ⟨x1,q1,h⟩:=aN h
  injection h with h
  subst h
  simp only [bR,List.cons.injEq,and_true] at q0 q1
  simp only [List.map_cons,List.map_nil,aw.d,← q0,← q1]
  try rfl
 ·cases h
theorem aQ.k_ok {cs:List SD} {x:aQ} (h:aQ.k cs=some x) : cs.map SD.toD=aQ.d x:=by
 unfold aQ.k at h
 split at h
 ·rename_i c0 c1 c2 c3 c4 c5 c6 c7
  obtain ⟨x0,q0,h⟩:=aN h
  obtain ⟨x1,q1,h⟩:=aN h
  obtain ⟨x2,q2,h⟩:=aN h
  obtain ⟨x3,q3,h⟩:=aN h
  obtain ⟨x4,q4,h⟩:=aN h
  obtain ⟨x5,q5,h⟩:=aN h
  obtain ⟨x6,q6,h⟩:=aN h
  obtain ⟨x7,q7,h⟩:=aN h
  injection h with h
  subst h
  simp only [bR,List.cons.injEq,and_true] at q0 q1 q2 q3 q4 q5 q6 q7
  simp only [List.map_cons,List.map_nil,aQ.d,← q0,← q1,← q2,← q3,← q4,← q5,← q6,← q7]
  try rfl
 ·cases h
theorem aC.k_ok {cs:List SD} {x:aC} (h:aC.k cs=some x) : cs.map SD.toD=aC.d x:=by
 unfold aC.k at h
 split at h
 ·rename_i c0 c1 c2 c3 c4 c5 c6 c7 c8 c9 c10 c11 c12 c13
  obtain ⟨x0,q0,h⟩:=aN h
  obtain ⟨x1,q1,h⟩:=aN h
  obtain ⟨x2,q2,h⟩:=aN h
  obtain ⟨x3,q3,h⟩:=aN h
  obtain ⟨x4,q4,h⟩:=aN h
  obtain ⟨x5,q5,h⟩:=aN h
  obtain ⟨x6,q6,h⟩:=aN h
  obtain ⟨x7,q7,h⟩:=aN h
  obtain ⟨x8,q8,h⟩:=aN h
  obtain ⟨x9,q9,h⟩:=aN h
  obtain ⟨x10,q10,h⟩:=aN h
  obtain ⟨x11,q11,h⟩:=aN h
  obtain ⟨x12,q12,h⟩:=aN h
  obtain ⟨x13,q13,h⟩:=aN h
  injection h with h
  subst h
  simp only [bR,List.cons.injEq,and_true] at q0 q1 q2 q3 q4 q5 q6 q7 q8 q9 q10 q11 q12 q13
  simp only [List.map_cons,List.map_nil,aC.d,← q0,← q1,← q2,← q3,← q4,← q5,← q6,← q7,← q8,← q9,← q10,← q11,← q12,← q13]
  try rfl
 ·cases h
theorem ec.k_ok {cs:List SD} {x:ec} (h:ec.k cs=some x) : cs.map SD.toD=ec.d x:=by
 unfold ec.k at h
 split at h
 ·rename_i c0 c1
  obtain ⟨x0,q0,h⟩:=aN h
  obtain ⟨x1,q1,h⟩:=aN h
  injection h with h
  subst h
  simp only [bR,List.cons.injEq,and_true] at q0 q1
  simp only [List.map_cons,List.map_nil,ec.d,← q0,← q1]
  try rfl
 ·cases h
theorem aB.k_ok {cs:List SD} {x:aB} (h:aB.k cs=some x) : cs.map SD.toD=aB.d x:=by
 unfold aB.k at h
 split at h
 ·rename_i c0 c1 c2
  obtain ⟨x0,q0,h⟩:=aN h
  obtain ⟨x1,q1,h⟩:=aN h
  obtain ⟨x2,q2,h⟩:=aN h
  injection h with h
  subst h
  simp only [bR,List.cons.injEq,and_true] at q0 q1 q2
  simp only [List.map_cons,List.map_nil,aB.d,← q0,← q1,← q2]
  try rfl
 ·cases h
theorem ax.k_ok {cs:List SD} {x:ax} (h:ax.k cs=some x) : cs.map SD.toD=ax.d x:=by
 unfold ax.k at h
 split at h
 ·rename_i c0 c1
  obtain ⟨x0,q0,h⟩:=aN h
  obtain ⟨x1,q1,h⟩:=aN h
  injection h with h
  subst h
  simp only [bR,List.cons.injEq,and_true] at q0 q1
  simp only [List.map_cons,List.map_nil,ax.d,← q0,← q1]
  try rfl
 ·cases h
theorem am.k_ok {cs:List SD} {x:am} (h:am.k cs=some x) : cs.map SD.toD=am.d x:=by
 unfold am.k at h
 split at h
 ·rename_i c0 c1 c2 c3 c4 c5 c6 c7 c8
  obtain ⟨x0,q0,h⟩:=aN h
  obtain ⟨x1,q1,h⟩:=aN h
  obtain ⟨x2,q2,h⟩:=aN h
  obtain ⟨x3,q3,h⟩:=aN h
  obtain ⟨x4,q4,h⟩:=aN h
  obtain ⟨x5,q5,h⟩:=aN h
  obtain ⟨x6,q6,h⟩:=aN h
  obtain ⟨x7,q7,h⟩:=aN h
  obtain ⟨x8,q8,h⟩:=aN h
  injection h with h
  subst h
  simp only [bR,List.cons.injEq,and_true] at q0 q1 q2 q3 q4 q5 q6 q7 q8
  simp only [List.map_cons,List.map_nil,am.d,← q0,← q1,← q2,← q3,← q4,← q5,← q6,← q7,← q8]
  try rfl
 ·cases h
theorem aA.k_ok {cs:List SD} {x:aA} (h:aA.k cs=some x) : cs.map SD.toD=aA.d x:=by
 unfold aA.k at h
 split at h
 ·rename_i c0 c1 c2 c3 c4 c5 c6 c7
  obtain ⟨x0,q0,h⟩:=aN h
  obtain ⟨x1,q1,h⟩:=aN h
  obtain ⟨x2,q2,h⟩:=aN h
  obtain ⟨x3,q3,h⟩:=aN h
  obtain ⟨x4,q4,h⟩:=aN h
  obtain ⟨x5,q5,h⟩:=aN h
  obtain ⟨x6,q6,h⟩:=aN h
  obtain ⟨x7,q7,h⟩:=aN h
  injection h with h
  subst h
  simp only [bR,List.cons.injEq,and_true] at q0 q1 q2 q3 q4 q5 q6 q7
  simp only [List.map_cons,List.map_nil,aA.d,← q0,← q1,← q2,← q3,← q4,← q5,← q6,← q7]
  try rfl
 ·cases h
theorem a8.k_ok {cs:List SD} {x:a8} (h:a8.k cs=some x) : cs.map SD.toD=a8.d x:=by
 unfold a8.k at h
 split at h
 ·rename_i c0 c1 c2 c3 c4 c5
  obtain ⟨x0,q0,h⟩:=aN h
  obtain ⟨x1,q1,h⟩:=aN h
  obtain ⟨x2,q2,h⟩:=aN h
  obtain ⟨x3,q3,h⟩:=aN h
  obtain ⟨x4,q4,h⟩:=aN h
  obtain ⟨x5,q5,h⟩:=aN h
  injection h with h
  subst h
  simp only [bR,List.cons.injEq,and_true] at q0 q1 q2 q3 q4 q5
  simp only [List.map_cons,List.map_nil,a8.d,← q0,← q1,← q2,← q3,← q4,← q5]
  try rfl
 ·cases h
theorem aL.k_ok {cs:List SD} {x:aL} (h:aL.k cs=some x) : cs.map SD.toD=aL.d x:=by
 unfold aL.k at h
 split at h
 ·rename_i c0 c1 c2 c3 c4 c5 c6 c7 c8 c9 c10 c11 c12 c13 c14 c15 c16 c17 c18 c19 c20 c21 c22 c23 c24 c25 c26 c27 c28 c29 c30 c31 c32 c33 c34
  obtain ⟨x0,q0,h⟩:=aN h
  obtain ⟨x1,q1,h⟩:=aN h
  obtain ⟨x2,q2,h⟩:=aN h
  obtain ⟨x3,q3,h⟩:=aN h
  obtain ⟨x4,q4,h⟩:=aN h
  obtain ⟨x5,q5,h⟩:=aN h
  obtain ⟨x6,q6,h⟩:=aN h
  obtain ⟨x7,q7,h⟩:=aN h
  obtain ⟨x8,q8,h⟩:=aN h
  obtain ⟨x9,q9,h⟩:=aN h
  obtain ⟨x10,q10,h⟩:=aN h
  obtain ⟨x11,q11,h⟩:=aN h
  obtain ⟨x12,q12,h⟩:=aN h
  obtain ⟨x13,q13,h⟩:=aN h
  obtain ⟨x14,q14,h⟩:=aN h
  obtain ⟨x15,q15,h⟩:=aN h
  obtain ⟨x16,q16,h⟩:=aN h
  obtain ⟨x17,q17,h⟩:=aN h
  obtain ⟨x18,q18,h⟩:=aN h
  obtain ⟨x19,q19,h⟩:=aN h
  obtain ⟨x20,q20,h⟩:=aN h
  obtain ⟨x21,q21,h⟩:=aN h
  obtain ⟨x22,q22,h⟩:=aN h
  obtain ⟨x23,q23,h⟩:=aN h
  obtain ⟨x24,q24,h⟩:=aN h
  obtain ⟨x25,q25,h⟩:=aN h
  obtain ⟨x26,q26,h⟩:=aN h
  obtain ⟨x27,q27,h⟩:=aN h
  obtain ⟨x28,q28,h⟩:=aN h
  obtain ⟨x29,q29,h⟩:=aN h
  obtain ⟨x30,q30,h⟩:=aN h
  obtain ⟨x31,q31,h⟩:=aN h
  obtain ⟨x32,q32,h⟩:=aN h
  obtain ⟨x33,q33,h⟩:=aN h
  obtain ⟨x34,q34,h⟩:=aN h
  injection h with h
  subst h
  simp only [bR,List.cons.injEq,and_true] at q0 q1 q2 q3 q4 q5 q6 q7 q8 q9 q10 q11 q12 q13 q14 q15 q16 q17 q18 q19 q20 q21 q22 q23 q24 q25 q26 q27 q28 q29 q30 q31 q32 q33 q34
  simp only [List.map_cons,List.map_nil,aL.d,← q0,← q1,← q2,← q3,← q4,← q5,← q6,← q7,← q8,← q9,← q10,← q11,← q12,← q13,← q14,← q15,← q16,← q17,← q18,← q19,← q20,← q21,← q22,← q23,← q24,← q25,← q26,← q27,← q28,← q29,← q30,← q31,← q32,← q33,← q34]
  try rfl
 ·cases h
theorem bt.k_ok {cs:List SD} {x:bt} (h:bt.k cs=some x) : cs.map SD.toD=bt.d x:=by
 unfold bt.k at h
 split at h
 ·rename_i c0 c1 c2 c3 c4
  obtain ⟨x0,q0,h⟩:=aN h
  obtain ⟨x1,q1,h⟩:=aN h
  obtain ⟨x2,q2,h⟩:=aN h
  obtain ⟨x3,q3,h⟩:=aN h
  obtain ⟨x4,q4,h⟩:=aN h
  injection h with h
  subst h
  simp only [bR,List.cons.injEq,and_true] at q0 q1 q2 q3 q4
  simp only [List.map_cons,List.map_nil,bt.d,← q0,← q1,← q2,← q3,← q4]
  try rfl
 ·cases h
theorem bu.k_ok {cs:List SD} {x:bu} (h:bu.k cs=some x) : cs.map SD.toD=bu.d x:=by
 unfold bu.k at h
 split at h
 ·rename_i c0 c1 c2
  obtain ⟨x0,q0,h⟩:=aN h
  obtain ⟨x1,q1,h⟩:=aN h
  obtain ⟨x2,q2,h⟩:=aN h
  injection h with h
  subst h
  simp only [bR,List.cons.injEq,and_true] at q0 q1 q2
  simp only [List.map_cons,List.map_nil,bu.d,← q0,← q1,← q2]
  try rfl
 ·cases h
theorem aa.k_ok {cs:List SD} {x:aa} (h:aa.k cs=some x) : cs.map SD.toD=aa.d x:=by
 unfold aa.k at h
 split at h
 ·rename_i c0 c1 c2 c3 c4 c5 c6 c7 c8 c9
  obtain ⟨x0,q0,h⟩:=aN h
  obtain ⟨x1,q1,h⟩:=aN h
  obtain ⟨x2,q2,h⟩:=aN h
  obtain ⟨x3,q3,h⟩:=aN h
  obtain ⟨x4,q4,h⟩:=aN h
  obtain ⟨x5,q5,h⟩:=aN h
  obtain ⟨x6,q6,h⟩:=aN h
  obtain ⟨x7,q7,h⟩:=aN h
  obtain ⟨x8,q8,h⟩:=aN h
  obtain ⟨x9,q9,h⟩:=aN h
  injection h with h
  subst h
  simp only [bR,List.cons.injEq,and_true] at q0 q1 q2 q3 q4 q5 q6 q7 q8 q9
  simp only [List.map_cons,List.map_nil,aa.d,← q0,← q1,← q2,← q3,← q4,← q5,← q6,← q7,← q8,← q9]
  try rfl
 ·cases h
theorem aR.k_ok {cs:List SD} {x:aR} (h:aR.k cs=some x) : cs.map SD.toD=aR.d x:=by
 unfold aR.k at h
 split at h
 ·rename_i c0 c1 c2 c3 c4
  obtain ⟨x0,q0,h⟩:=aN h
  obtain ⟨x1,q1,h⟩:=aN h
  obtain ⟨x2,q2,h⟩:=aN h
  obtain ⟨x3,q3,h⟩:=aN h
  obtain ⟨x4,q4,h⟩:=aN h
  injection h with h
  subst h
  simp only [bR,List.cons.injEq,and_true] at q0 q1 q2 q3 q4
  simp only [List.map_cons,List.map_nil,aR.d,← q0,← q1,← q2,← q3,← q4]
  try rfl
 ·cases h
theorem az.k_ok {cs:List SD} {x:az} (h:az.k cs=some x) : cs.map SD.toD=az.d x:=by
 unfold az.k at h
 split at h
 ·rename_i c0 c1 c2
  obtain ⟨x0,q0,h⟩:=aN h
  obtain ⟨x1,q1,h⟩:=aN h
  obtain ⟨x2,q2,h⟩:=aN h
  injection h with h
  subst h
  simp only [bR,List.cons.injEq,and_true] at q0 q1 q2
  simp only [List.map_cons,List.map_nil,az.d,← q0,← q1,← q2]
  try rfl
 ·cases h
theorem bb.k_ok {cs:List SD} {x:bb} (h:bb.k cs=some x) : cs.map SD.toD=bb.d x:=by
 unfold bb.k at h
 split at h
 ·rename_i c0 c1
  obtain ⟨x0,q0,h⟩:=aN h
  obtain ⟨x1,q1,h⟩:=aN h
  injection h with h
  subst h
  simp only [bR,List.cons.injEq,and_true] at q0 q1
  simp only [List.map_cons,List.map_nil,bb.d,← q0,← q1]
  try rfl
 ·cases h
theorem ak.k_ok {cs:List SD} {x:ak} (h:ak.k cs=some x) : cs.map SD.toD=ak.d x:=by
 unfold ak.k at h
 split at h
 ·rename_i c0 c1
  obtain ⟨x0,q0,h⟩:=aN h
  obtain ⟨x1,q1,h⟩:=aN h
  injection h with h
  subst h
  simp only [bR,List.cons.injEq,and_true] at q0 q1
  simp only [List.map_cons,List.map_nil,ak.d,← q0,← q1]
  try rfl
 ·cases h
theorem AK:∀ {i:Nat} {cs:List SD} {x:ST i},stK i cs=some x→cs.map SD.toD=stD i x
 | 0,_,(_:aw),h=>aw.k_ok h
 | 1,_,(_:aQ),h=>aQ.k_ok h
 | 2,_,(_:aC),h=>aC.k_ok h
 | 3,_,(_:ec),h=>ec.k_ok h
 | 4,_,(_:aB),h=>aB.k_ok h
 | 5,_,(_:ax),h=>ax.k_ok h
 | 6,_,(_:am),h=>am.k_ok h
 | 7,_,(_:aA),h=>aA.k_ok h
 | 8,_,(_:a8),h=>a8.k_ok h
 | 9,_,(_:aL),h=>aL.k_ok h
 | 10,_,(_:bt),h=>bt.k_ok h
 | 11,_,(_:bu),h=>bu.k_ok h
 | 12,_,(_:aa),h=>aa.k_ok h
 | 15,_,(_:aR),h=>aR.k_ok h
 | 16,_,(_:az),h=>az.k_ok h
 | 17,_,(_:bb),h=>bb.k_ok h
 | 18,_,(_:ak),h=>ak.k_ok h
 | 13,_,x,h=>by
  have h2:none=some x:=h
  cases h2
 | 14,_,x,h=>by
  have h2:none=some x:=h
  cases h2
 | _ + 19,_,x,h=>by
  have h2:none=some x:=h
  cases h2
section
inductive SV where
 | junk
 | d (x:SD)
 | ag (cs:List SV)
 | tup (cs:List SV)
 | ptr (t off:Nat)
 | row (t:Nat)
 | re (t p off:Nat)
 | vw (t lo hi:Nat)
 | fe (cs:List SD)
 | fn (f:FuncId) (ps qs:List SV)
structure Pin where
 i:Int
 cs:Option (List SD)
inductive a6 where
 | st (ty:TypeId) (cs:List SV)
 | rw (e k:Nat) (t:Ty) (xs:List t.den) (pins:List (Nat×Pin))
def lkV:List (Nat×SV)→Nat→SV
 | [],_=>.junk
 | (j,v)::l,i=>match Nat.beq i j with | true=>v | false=>lkV l i
def lkB:List (Nat×Option a6)→Nat→Option a6
 | [],_=>none
 | (j,v)::l,i=>match Nat.beq i j with | true=>v | false=>lkB l i
def lkP:List (Nat×Pin)→Nat→Option Pin
 | [],_=>none
 | (j,v)::l,i=>match Nat.beq i j with | true=>some v | false=>lkP l i
def aD:List Nat→Nat→Bool
 | [],_=>false
 | j::l,i=>match Nat.beq i j with | true=>true | false=>aD l i
structure SS where
 sl:List (Nat×SV)
 bx:List (Nat×Option a6)
 pr:List Nat
 ro:Bool
 oc:List Nat
def wrB (s:SS) (t:Nat) : Bool:=match s.ro with | true=>false | false=>!(aD s.pr t)
def JS (s:SS) (t:Nat) : Bool:=match aD s.oc t with | true=>false | false=>!(aD s.pr t)
def Bj:(t:Ty)→t.den→List SD
 | .int k,x=>[.int k x]
 | .bool,x=>[.bool x]
 | .str,x=>[.str x]
 | .sl t,xs=>[.sl t xs]
 | .st i,x=>stC i x
def Yt:(t:Ty)→List SD→Option t.den
 | .st i,cs=>stK i cs
 | .int k,[c]=>c.as (.int k)
 | .bool,[c]=>c.as .bool
 | .str,[c]=>c.as .str
 | .sl t,[c]=>c.as (.sl t)
 | _,_=>none
def tyN:Ty→Nat
 | .st i=>stN i
 | _=>1
def IU:Value→Option SD
 | .int k n=>some (.int k n)
 | .bool t=>some (.bool t)
 | .string s=>some (.str s)
 | .slice none 0 0=>some .nl
 | _=>none
def FF:List Value→Option (List SV)
 | []=>some []
 | v::l=>match IU v,FF l with | some c,some cs=>some (.d c::cs) | _,_=>none
def Km:Value→SV
 | .agg xs=>match FF xs.toList with | some cs=>.ag cs | none=>.junk
 | v=>match IU v with | some c=>.d c | none=>.junk
def evX (s:SS) : Operand→SV
 | .tmp i=>lkV s.sl i
 | .const v=>Km v
 | .func f=>.fn f [] []
 | _=>.junk
def XI (s:SS) (t:Nat) : Option SD:=match lkB s.bx t with
 | some (.rw _ _ ty xs _)=>some (.sl ty xs)
 | _=>none
def rV (s:SS) : SV→Option SD
 | .d x=>some x
 | .row t=>XI s t
 | _=>none
def Kj (s:SS) : List SV→Option (List SD)
 | []=>some []
 | v::l=>match rV s v,Kj s l with | some c,some cs=>some (c::cs) | _,_=>none
def Kv:SV→Option (List SV)
 | .ag cs=>some cs
 | .junk=>none
 | .tup _=>none
 | v=>some [v]
mutual
def stale (t:Nat) : SV→SV
 | .row t'=>match Nat.beq t' t with | true=>.junk | false=>.row t'
 | .re t' p o=>match Nat.beq t' t with | true=>.junk | false=>.re t' p o
 | .vw t' p o=>match Nat.beq t' t with | true=>.junk | false=>.vw t' p o
 | .ag cs=>.ag (iw t cs)
 | .tup cs=>.tup (iw t cs)
 | .fn f ps qs=>.fn f (iw t ps) (iw t qs)
 | v=>v
def iw (t:Nat) : List SV→List SV
 | []=>[]
 | c::cs=>stale t c::iw t cs
end
def DX (t:Nat) : List (Nat×SV)→List (Nat×SV)
 | []=>[]
 | (i,v)::l=>(i,stale t v)::DX t l
def n5 (t:Nat) : List (Nat×Option a6)→List (Nat×Option a6)
 | []=>[]
 | (i,some (.st ty cs))::l=>(i,some (.st ty (iw t cs)))::n5 t l
 | (i,b)::l=>(i,b)::n5 t l
inductive Upd where
 | no
 | new (t:Nat) (b:a6)
 | set (t:Nat) (b:a6)
 | pin (t:Nat) (b:a6)
 | grow (t:Nat) (b:a6)
def U9:Upd→List Nat
 | .no=>[]
 | .new t _=>[t]
 | .set t _=>[t]
 | .pin _ _=>[]
 | .grow t _=>[t]
def sH (sl:List (Nat×SV)) (dst:Option Nat) (v:SV) : List (Nat×SV):=match dst with | some d=>(d,v)::sl | none=>sl
def SS.upd (s:SS) (dst:Option Nat) (v:SV) : Upd→SS
 | .no=>⟨sH s.sl dst v,s.bx,s.pr,s.ro,s.oc⟩
 | .new t b=>⟨sH s.sl dst v,(t,some b)::s.bx,s.pr,s.ro,s.oc⟩
 | .set t b=>⟨sH s.sl dst v,(t,some b)::s.bx,s.pr,s.ro,s.oc⟩
 | .pin t b=>⟨sH s.sl dst v,(t,some b)::s.bx,s.pr,s.ro,s.oc⟩
 | .grow t b=>⟨sH (DX t s.sl) dst v,(t,some b)::n5 t s.bx,s.pr,s.ro,s.oc⟩
def nh {α : Type} : List α→Nat→List α→List α
 | cs,0,[]=>cs
 | _ :: cs,0,n::ns=>n::nh cs 0 ns
 | [],_,_=>[]
 | c::cs,o + 1,ns=>c::nh cs o ns
def Rz (size:Nat) (agg:Bool) (cl:List SV) : Option SV :=
 if agg then (if size≤cl.length then some (.ag (cl.take size)) else none) else cl.head?
def A4:List SD→List SV
 | []=>[]
 | c::cs=>.d c::A4 cs
variable {ρ : Type}
def chk (b:Bool) (k:Option ρ) : Option ρ:=match b with | true=>k | false=>none
def V2:Operand→Option Int
 | .const (.int _ n)=>some n
 | _=>none
def Pq (op:BinOp) (kd:IntKind) (lit:Option Int) (x y:Int) (k:SV→Option ρ) : Option ρ :=
 match op with
 | .add=>k (.d (.int kd (kd.wrap (x + y))))
 | .sub=>k (.d (.int kd (kd.wrap (x - y))))
 | .mul=>k (.d (.int kd (kd.wrap (x * y))))
 | .quo=>match lit with
  | some n=>chk (!(n==0)) (k (.d (.int kd (kd.wrap (x.tdiv y)))))
  | none=>Option.bind (if y=0 then none else some (kd.wrap (x.tdiv y))) fun q=>k (.d (.int kd q))
 | .rem=>match lit with
  | some n=>chk (!(n==0)) (k (.d (.int kd (x.tmod y))))
  | none=>Option.bind (CS x y) fun q=>k (.d (.int kd q))
 | .eql=>k (.d (.bool (x==y)))
 | .neq=>k (.d (.bool (x != y)))
 | .lss=>k (.d (.bool (decide (x < y))))
 | .leq=>k (.d (.bool (decide (x≤y))))
 | .gtr=>k (.d (.bool (decide (x > y))))
 | .geq=>k (.d (.bool (decide (x≥y))))
 | .and=>k (.d (.int kd (bits .and kd x y)))
 | .or=>k (.d (.int kd (bits .or kd x y)))
 | .xor=>k (.d (.int kd (bits .xor kd x y)))
 | _=>none
def Oq (op:BinOp) (kd:IntKind) (lit:Option Int) (x y:Int) (k:SV→Option ρ) : Option ρ :=
 match lit with
 | some n=>chk (decide (0≤n)) (match op with
  | .shl=>k (.d (.int kd (kd.wrap (x * 2 ^ (min y.toNat kd.bits)))))
  | .shr=>k (.d (.int kd (x.fdiv (2 ^ (min y.toNat kd.bits)))))
  | _=>none)
 | none=>Option.bind (if y < 0 then none else some ()) fun _=>(match op with
  | .shl=>k (.d (.int kd (kd.wrap (x * 2 ^ (min y.toNat kd.bits)))))
  | .shr=>k (.d (.int kd (x.fdiv (2 ^ (min y.toNat kd.bits)))))
  | _=>none)
def Oh (op:BinOp) (x y:ByteArray) (k:SV→Option ρ) : Option ρ :=
 match op with
 | .add=>Option.bind (mq x y) fun z=>k (.d (.str z))
 | .eql=>k (.d (.bool (x.toList==y.toList)))
 | .neq=>k (.d (.bool (!(x.toList==y.toList))))
 | .lss=>k (.d (.bool (Op.bytesLess x.toList y.toList)))
 | .leq=>k (.d (.bool (Op.bytesLess x.toList y.toList||(x.toList==y.toList))))
 | .gtr=>k (.d (.bool (!(Op.bytesLess x.toList y.toList||(x.toList==y.toList)))))
 | .geq=>k (.d (.bool (!(Op.bytesLess x.toList y.toList))))
 | _=>none
def Js (op:BinOp) (x y:Bool) (k:SV→Option ρ) : Option ρ :=
 match op with
 | .eql=>k (.d (.bool (x==y)))
 | .neq=>k (.d (.bool (!(x==y))))
 | _=>none
def sX:SD→SD→Option Bool
 | .int k a,.int k' b=>if k=k' then some (a==b) else none
 | .bool a,.bool b=>some (a==b)
 | .str a,.str b=>some (a.toList==b.toList)
 | _,_=>none
def Cn:List SV→List SV→Option Bool
 | [.d x],[.d y]=>sX x y
 | .d x::xs,.d y::ys=>match sX x y,Cn xs ys with
  | some a,some r=>some (a&&r)
  | _,_=>none
 | _,_=>none
def OT:SV→Option Nat
 | .d (.int _ _)=>some 0
 | .d (.bool _)=>some 1
 | .d (.str _)=>some 2
 | _=>none
def Ds:List SV→Option (List Nat)
 | []=>some []
 | v::l=>match OT v,Ds l with | some a,some r=>some (a::r) | _,_=>none
def J7:List Nat→List Nat→Bool
 | [],[]=>true
 | a::l,b::m=>match Nat.beq a b with | true=>J7 l m | false=>false
 | _,_=>false
def ZL (P:Program) (op:BinOp) (t:TypeId) (lit:Option Int) (p q:SV) (k:SV→Option ρ) : Option ρ :=
 match p,q with
 | .d (.int kd x),.d (.int kd' y)=>match JZ op with
  | true=>Oq op kd lit x y k
  | false=>if kd=kd' then Pq op kd lit x y k else none
 | .d (.str x),.d (.str y)=>Oh op x y k
 | .d (.bool x),.d (.bool y)=>match P.underlying t with
  | some .bool=>Js op x y k
  | _=>none
 | .ag xs,.ag ys=>match ZE P t,Ds xs,Cn xs ys with
  | some l,some l',some r=>chk (J7 l l') (match op with
   | .eql=>k (.d (.bool r))
   | .neq=>k (.d (.bool (!r)))
   | _=>none)
  | _,_,_=>none
 | _,_=>none
def unX (op:UnOp) (p:SV) (k:SV→Option ρ) : Option ρ :=
 match op,p with
 | .not,.d (.bool x)=>k (.d (.bool (!x)))
 | .neg,.d (.int kd x)=>k (.d (.int kd (kd.wrap (0 - x))))
 | _,_=>none
def WD (P:Program) (s:SS) (src dst:TypeId) (p:SV) (k:SV→Option ρ) : Option ρ :=
 match P.underlying src with
 | none=>none
 | some (.slice e)=>(match P.underlying dst with
  | some .string=>(match P.underlying e,rV s p with
   | some (.int .u8),some (.sl (.int .u8) xs)=>Option.bind (XH (xs:List Int)) fun z=>k (.d (.str z))
   | _,_=>none)
  | _=>none)
 | some _=>match P.underlying dst,p with
  | some (.int kd),.d (.int _ x)=>k (.d (.int kd (kd.wrap x)))
  | some .string,.d (.str x)=>k (.d (.str x))
  | _,_=>none
def xy (P:Program) (t:TypeId) (p:SV) (f:Nat) (k:SV→Option ρ) : Option ρ :=
 match (Bf P t)[f]? with
 | some (off,size,_)=>chk (!(size==0)) (match p with
  | .ptr t o=>k (.ptr t (o + off))
  | .fe cs=>k (.fe (cs.drop off))
  | .re t p o=>k (.re t p (o + off))
  | _=>none)
 | none=>none
def O9 (P:Program) (t:TypeId) (p:SV) (f:Nat) (k:SV→Option ρ) : Option ρ :=
 match (Bf P t)[f]?,p with
 | some (off,size,agg),.ag cs=>match Rz size agg (cs.drop off) with | some v=>k v | none=>none
 | _,_=>none
def WX (s:SS) : SV→Option (List SV)
 | .ptr t off=>match lkB s.bx t with | some (.st _ cs)=>some (cs.drop off) | _=>none
 | .fe cs=>some (A4 cs)
 | .re t p off=>match lkB s.bx t with
  | some (.rw _ _ _ _ pins)=>match lkP pins p with
   | some ⟨_,some cs⟩=>some (A4 (cs.drop off))
   | _=>none
  | _=>none
 | _=>none
def RK (P:Program) (s:SS) (t:TypeId) (p:SV) : Option SV :=
 match nZ P t,WX s p with
 | some i,some cl=>Rz i.size i.agg cl
 | _,_=>none
def xt (P:Program) (s:SS) (dst:Option Nat) (t:TypeId) (p q:SV) (k:SV→Upd→Option ρ) : Option ρ :=
 match P.underlying t,q,dst with
 | some (.slice e),.d (.int _ i),some d=>match nZ P e with
  | some ie=>match p with
   | .d (.sl ty xs)=>chk (tyN ty==ie.size) (Option.bind (au xs i) fun x=>k (.fe (Bj ty x)) .no)
   | .row t'=>match lkB s.bx t' with
    | some (.rw e' kk ty xs pins)=>chk (kk==ie.size) (chk (lkP pins d).isNone (Option.bind (au xs i) fun x=>k (.re t' d 0) (.pin t' (.rw e' kk ty xs ((d,⟨i,some (Bj ty x)⟩)::pins)))))
    | _=>none
   | _=>none
  | none=>none
 | _,_,_=>none
def Zm:SV→Option SD
 | .d x=>some x
 | _=>none
def tF:List SV→Option (List SD)
 | []=>some []
 | v::l=>match Zm v,tF l with | some c,some cs=>some (c::cs) | _,_=>none
def wE:List (Nat×Pin)→List (Nat×Pin)
 | []=>[]
 | (i,⟨j,_⟩)::l=>(i,⟨j,none⟩)::wE l
def Ol (P:Program) (s:SS) (t:TypeId) (p q:SV) (k:SV→Upd→Option ρ) : Option ρ :=
 match nZ P t,Kv q with
 | some i,some ns=>match p with
  | .ptr x off=>match lkB s.bx x with
   | some (.st ty cs)=>chk (ns.length==i.size) (chk (decide (off + ns.length≤cs.length)) (chk (wrB s x) (k .junk (.set x (.st ty (nh cs off ns))))))
   | _=>none
  | .re x pi off=>match lkB s.bx x,tF ns with
   | some (.rw e kk ty xs pins),some ds=>match lkP pins pi with
    | some ⟨j,cs⟩=>chk (ns.length==i.size) (chk (decide (off + ds.length≤tyN ty)) (chk (wrB s x) (match (if ds.length=tyN ty then some ds else cs.map fun cs=>nh cs off ds) with
     | some cs'=>match Yt ty cs' with
      | some y=>k .junk (.set x (.rw e kk ty (xs.set j.toNat y) ((pi,⟨j,some (Bj ty y)⟩)::wE pins)))
      | none=>none
     | none=>none)))
    | none=>none
   | _,_=>none
  | _=>none
 | _,_=>none
def Mw (place:Nat→Option (Nat×Nat)) : List SV→List (Nat×SV)→Option (List SV)
 | cs,[]=>some cs
 | cs,(i,p)::rest=>match place i,Kv p with
  | some (off,size),some ns=>chk (ns.length==size) (chk (decide (off + ns.length≤cs.length)) (Mw place (nh cs off ns) rest))
  | _,_=>none
def DH (i:TI) : Option (List SV):=FF i.zero
def Kt:Nat→Nat→List SD→List (List SD)
 | _,0,_=>[]
 | k,n + 1,l=>l.take k::Kt k n (l.drop k)
def Ki (t:Ty) : List (List SD)→Option (List t.den)
 | []=>some []
 | c::l=>match Yt t c,Ki t l with | some x,some xs=>some (x::xs) | _,_=>none
def Zi (P:Program) : Nat→TypeId→Option Ty
 | 0,_=>none
 | d + 1,t=>match aaA t with
  | some i=>some (.st i)
  | none=>match P.underlying t with
   | some (.int k)=>some (.int k)
   | some .bool=>some .bool
   | some .string=>some .str
   | some (.slice e)=>(Zi P d e).map .sl
   | _=>none
def Vo {α : Type} : Nat→List α→List α
 | 0,_=>[]
 | n + 1,l=>l++Vo n l
def uI (P:Program) (s:SS) (dst:Option Nat) (t:TypeId) (len:Nat) (parts:List (Nat×SV)) (k:SV→Upd→Option ρ) : Option ρ :=
 match dst,P.underlying t with
 | some d,some (.slice e)=>match nZ P e,lkB s.bx d,Zi P 4 e with
  | some i,none,some ty=>match DH i with
   | some z=>chk (decide (0 < i.size)) (chk (decide (len≤1000)) (chk (decide (len * i.size≤16777216)) (chk (JS s d) (match Mw (fun j=>some (j * i.size,i.size)) (Vo len z) parts with
    | some cs=>match tF cs with
     | some ds=>match Ki ty (Kt i.size len ds) with
      | some xs=>chk (tyN ty==i.size) (k (.row d) (.new d (.rw e i.size ty xs [])))
      | none=>none
     | none=>none
    | none=>none))))
   | none=>none
  | _,_,_=>none
 | _,_=>none
def KC (P:Program) (s:SS) (dst:Option Nat) (t:TypeId) (p q:SV) (k:SV→Upd→Option ρ) : Option ρ :=
 match P.underlying t,rV s q with
 | some (.slice e),some (.sl ty ys)=>match nZ P e with
  | some i=>chk (decide (0 < i.size)) (chk (decide (0 < i.bytes)) (chk (decide (i.bytes≤1000000)) (chk (tyN ty==i.size) (match p with
   | .row x=>match lkB s.bx x with
    | some (.rw e' kk ty' xs _)=>match Ty.same ty ty' with
     | some ⟨h⟩=>chk (e' == e) (chk (kk==i.size) (chk (wrB s x) (Option.bind (aX xs (yV h ys)) fun zs=>k (.row x) (.grow x (.rw e' kk ty' zs [])))))
     | none=>none
    | _=>none
   | .d .nl=>match dst with
    | some d=>match lkB s.bx d with
     | none=>chk (JS s d) (Option.bind (aX ([] : List ty.den) ys) fun zs=>k (.row d) (.new d (.rw e i.size ty zs [])))
     | some _=>none
    | none=>none
   | _=>none))))
  | none=>none
 | _,_=>none
def Ba:SV→Option Int
 | .d (.int _ i)=>some i
 | _=>none
def vwO (n:Nat) (l h:Int) : Option Unit:=if 0≤l∧0≤h∧l.toNat≤h.toNat∧h.toNat≤n then some () else none
def Zs (lo:Option SV) (n:Int) : Option Int:=match lo with
 | none=>some n
 | some v=>Ba v
def yU {α : Type} (xs:List α) (lo hi:Nat) (ys:List α) : Option (List α):=if lo≤hi∧hi≤xs.length then some (ld xs lo (ys.take (hi - lo))) else none
def mkO {α : Type} (z : α) (n:Int) : Option (List α):=if 0≤n∧n≤1000000 then some (List.replicate n.toNat z) else none
def Zk (s:SS) : SV→Option SD
 | .vw t lo hi=>match lkB s.bx t with
  | some (.rw _ _ ty xs _)=>some (.sl ty ((xs.drop lo).take (hi - lo)))
  | _=>none
 | v=>rV s v
def VA (s:SS) : SV→Option (Nat×Nat×Nat)
 | .row t=>match lkB s.bx t with
  | some (.rw _ _ _ xs _)=>some (t,0,xs.length)
  | _=>none
 | .vw t lo hi=>some (t,lo,hi)
 | _=>none
def WB (P:Program) (s:SS) (t:TypeId) (p q:SV) (k:SV→Upd→Option ρ) : Option ρ :=
 match P.underlying t,Zk s q,VA s p with
 | some (.slice e),some (.sl ty ys),some (x,lo,hi)=>match nZ P e,lkB s.bx x with
  | some i,some (.rw e' kk ty' xs pins)=>match Ty.same ty ty' with
   | some ⟨h⟩=>chk (kk==i.size) (chk (tyN ty==i.size) (chk (wrB s x) (Option.bind (yU xs lo hi (yV h ys)) fun zs=>k (.d (.int .i64 (min ys.length (hi - lo) : Nat))) (.set x (.rw e' kk ty' zs (wE pins))))))
   | none=>none
  | _,_=>none
 | _,_,_=>none
def Ov:Operand→Operand→Bool
 | .tmp i,.tmp j=>Nat.beq i j
 | .const (.int _ n),.const (.int _ m)=>n==m
 | _,_=>false
def VS (P:Program) (s:SS) (dst:Option Nat) (t:TypeId) (same:Bool) (p:SV) (k:SV→Upd→Option ρ) : Option ρ :=
 match dst,P.underlying t,p,same with
 | some d,some (.slice e),.d (.int _ n),true=>match nZ P e,lkB s.bx d,Zi P 4 e with
  | some i,none,some ty=>match DH i with
   | some z=>(match tF z with
    | some ds=>(match Yt ty ds with
     | some z0=>chk (decide (0 < i.size)) (chk (decide (i.bytes≤1000000)) (chk (tyN ty==i.size) (chk (JS s d) (Option.bind (mkO z0 n) fun xs=>k (.row d) (.new d (.rw e i.size ty xs []))))))
     | none=>none)
    | none=>none)
   | none=>none
  | _,_,_=>none
 | _,_,_,_=>none
def On (P:Program) (s:SS) (t:TypeId) (p:SV) (lo hi:Option SV) (k:SV→Option ρ) : Option ρ :=
 match P.underlying t,p with
 | some (.slice e),.d (.sl ty xs)=>match nZ P e with
  | some i=>chk (tyN ty==i.size) (match lo,hi with
   | none,none=>k (.d (.sl ty xs))
   | some l,none=>match Ba l with | some l=>Option.bind (loO xs l) fun z=>k (.d (.sl ty z)) | none=>none
   | none,some h=>match Ba h with | some h=>Option.bind (hiO xs h) fun z=>k (.d (.sl ty z)) | none=>none
   | some l,some h=>match Ba l,Ba h with | some l,some h=>Option.bind (lhO xs l h) fun z=>k (.d (.sl ty z)) | _,_=>none)
  | none=>none
 | some (.slice e),.row x=>match nZ P e,lkB s.bx x with
  | some i,some (.rw _ kk ty xs _)=>chk (kk==i.size) (match Zs lo 0,Zs hi xs.length with
   | some l,some h=>Option.bind (vwO xs.length l h) fun _=>k (.vw x l.toNat h.toNat)
   | _,_=>none)
  | _,_=>none
 | some .string,.d (.str x)=>match lo,hi with
   | some l,none=>match Ba l with | some l=>Option.bind (SN x l) fun z=>k (.d (.str z)) | none=>none
   | none,some h=>match Ba h with | some h=>Option.bind (Ox x h) fun z=>k (.d (.str z)) | none=>none
   | some l,some h=>match Ba l,Ba h with | some l,some h=>Option.bind (JC x l h) fun z=>k (.d (.str z)) | _,_=>none
   | none,none=>none
 | _,_=>none
def yD (mx:Bool) : SV→List SV→Option SV
 | p,[]=>some p
 | .d (.int k x),.d (.int _ y)::l=>yD mx (.d (.int k (match mx with | true=>if y > x then y else x | false=>if y < x then y else x))) l
 | _,_=>none
def Zy (P:Program) (s:SS) (t:TypeId) (v:SV) (k:SV→Option ρ) : Option ρ :=
 match P.underlying t with
 | some (.slice _)=>match rV s v with
  | some (.sl _ xs)=>k (.d (.int .i64 (xs.length:Int)))
  | some .nl=>k (.d (.int .i64 0))
  | _=>match v with
   | .vw _ lo hi=>k (.d (.int .i64 ((hi - lo:Nat) : Int)))
   | _=>none
 | some .string=>match v with
  | .d (.str x)=>k (.d (.int .i64 (x.size:Int)))
  | _=>none
 | _=>none
def M4 (P:Program) (s:SS) (dst:Option Nat) (f:Builtin) (args:List SV) (ts:List TypeId) (k:SV→Upd→Option ρ) : Option ρ :=
 match f with
 | .len=>(match args,ts with | [x],[t]=>Zy P s t x fun v=>k v .no | _,_=>none)
 | .append=>(match args,ts with | [x,y],[t,t']=>(match Nat.beq t' t with | true=>KC P s dst t x y k | false=>none) | _,_=>none)
 | .min=>(match args with | x::xs=>(match yD false x xs with | some v=>k v .no | none=>none) | _=>none)
 | .max=>(match args with | x::xs=>(match yD true x xs with | some v=>k v .no | none=>none) | _=>none)
 | .copy=>(match args,ts with | [x,y],[t,_]=>WB P s t x y k | _,_=>none)
 | _=>none
def xl (s:SS) : List (Nat×Operand)→List (Nat×SV)
 | []=>[]
 | (i,x)::l=>(i,evX s x)::xl s l
def we (s:SS) : List Operand→List SV
 | []=>[]
 | x::l=>evX s x::we s l
def Vx (c:Bool) (v w:SV) : Option SV :=
 match v,w with
 | .d (.int k x),.d (.int k' y)=>if k=k' then some (.d (.int k (if c=true then x else y))) else none
 | .d (.bool x),.d (.bool y)=>some (.d (.bool (if c=true then x else y)))
 | .d (.str x),.d (.str y)=>some (.d (.str (if c=true then x else y)))
 | v,w=>match c with | true=>some v | false=>some w
def Zx (p:SV) (k:SV→Option ρ) : Option ρ:=match p with
 | .ptr t o=>k (.ptr t o)
 | .re t q o=>k (.re t q o)
 | .fe cs=>k (.fe cs)
 | _=>none
def Yo (P:Program) (o:Oper) (s:SS) (k:SV→Upd→Option ρ) : Option ρ :=
 match o.op with
 | .move x=>k (evX s x) .no
 | .assign x=>k (evX s x) .no
 | .pick c x y=>match evX s c with
  | .d (.bool t)=>match Vx t (evX s x) (evX s y) with | some v=>k v .no | none=>none
  | _=>none
 | .alloc e=>match o.dst,nZ P e with
  | some t,some i=>match lkB s.bx t,DH i with
   | none,some z=>chk (JS s t) (k (.ptr t 0) (.new t (.st e z)))
   | _,_=>none
  | _,_=>none
 | .box e x=>match o.dst,Kv (evX s x) with
  | some t,some cs=>match lkB s.bx t with
   | none=>chk (JS s t) (k (.ptr t 0) (.new t (.st e cs)))
   | some _=>none
  | _,_=>none
 | .build t ps=>match nZ P t,Ik P t with
  | some i,some fl=>match DH i with
   | some z=>(match Mw (fun j=>(fl[j]?).map fun x=>(x.1,x.2.1)) z (xl s ps.toList) with | some cs=>k (.ag cs) .no | none=>none)
   | none=>none
  | _,_=>none
 | .buildSlice t n ps=>uI P s o.dst t n (xl s ps.toList) k
 | .load t x=>match RK P s t (evX s x) with | some v=>k v .no | none=>none
 | .store t x y=>Ol P s t (evX s x) (evX s y) k
 | .binOp op t x y _=>ZL P op t (V2 y) (evX s x) (evX s y) fun v=>k v .no
 | .unOp op _ x=>unX op (evX s x) fun v=>k v .no
 | .convert src dst x=>WD P s src dst (evX s x) fun v=>k v .no
 | .slice t x lo hi none=>On P s t (evX s x) (lo.map (evX s)) (hi.map (evX s)) fun v=>k v .no
 | .fieldAddr t x f=>xy P t (evX s x) f fun v=>k v .no
 | .field t x f=>O9 P t (evX s x) f fun v=>k v .no
 | .indexAddr t x i=>xt P s o.dst t (evX s x) (evX s i) k
 | .extract x i=>match evX s x with
  | .tup vs=>match vs[i]? with | some v=>k v .no | none=>none
  | _=>none
 | .index t x i=>match P.underlying t,evX s x,evX s i with
  | some .string,.d (.str x),.d (.int _ i)=>Option.bind (lc x i) fun z=>k (.d (.int .u8 z)) .no
  | _,_,_=>none
 | .call c=>match c.callee with
  | .builtin f=>M4 P s o.dst f (we s c.args.toList) c.argTypes.toList k
  | _=>none
 | .makeFunc (.func f) ps qs=>k (.fn f (we s ps.toList) (we s qs.toList)) .no
 | .makeSlice t x y=>VS P s o.dst t (Ov x y) (evX s x) k
 | .nilCheck x=>Zx (evX s x) fun v=>k v .no
 | _=>none
end
section
inductive CT where
 | v (t:Ty)
 | a (i:Nat)
 | pl (t:Ty)
 | ps (i:Nat)
def CT.den:CT→Type
 | .v t=>t.den
 | .a i=>ST i
 | .pl t=>t.den
 | .ps i=>ST i
def uG:List CT→Type
 | []=>Unit
 | c::cs=>c.den×uG cs
inductive IB where
 | no
 | own (e k:Nat) (t:Ty)
 | bx (ty n:Nat) (rows:List (Nat×Nat×Nat×Ty))
def IB.den:IB→Type
 | .no=>Unit
 | .own _ _ t=>List t.den
 | .bx _ n _=>ST n
def IB.nJ:IB→Nat
 | .bx _ _ rows=>rows.length
 | _=>0
def uo:Nat→List IB→List (List Nat)
 | _,[]=>[]
 | base,b::l=>List.range' base b.nJ::uo (base + b.nJ) l
def DV:List IB→Nat
 | []=>0
 | b::l=>b.nJ + DV l
def yy:List IB→Type
 | []=>Unit
 | b::l=>b.den×yy l
inductive PT where
 | lf (t:Ty)
 | ag (i:Nat)
 | pl (t:Ty)
 | ps (i:Nat)
 | fn (f:FuncId) (a b:List CT)
 | own (e k:Nat) (t:Ty)
 | mv (e k:Nat) (t:Ty)
 | bx (ty n:Nat) (rows:List (Nat×Nat×Nat×Ty))
 | agr (n:Nat) (rows:List (Nat×Nat×Nat×Ty))
 | io (l:List IB)
def PT.den:PT→Type
 | .lf t=>t.den
 | .ag i=>ST i
 | .pl t=>t.den
 | .ps i=>ST i
 | .fn _ a b=>uG a×uG b
 | .own _ _ t=>List t.den
 | .mv _ _ t=>List t.den
 | .bx _ n _=>ST n
 | .agr n _=>ST n
 | .io l=>yy l
def PT.isM:PT→Bool
 | .own ..=>true
 | .mv ..=>true
 | .bx ..=>true
 | .agr ..=>true
 | .io _=>true
 | _=>false
def oW:List PT→Bool
 | []=>false
 | p::l=>match p.isM with | true=>true | false=>oW l
def PT.flat:PT→Bool
 | .lf (.int _)=>true
 | .lf .bool=>true
 | .lf .str=>true
 | .lf _=>false
 | .ag i=>stF i
 | _=>false
def aad:(c:CT)→c.den→SV
 | .v t,x=>.d (qC t x)
 | .a i,x=>.ag (A4 (stC i x))
 | .pl t,x=>.fe [qC t x]
 | .ps i,x=>.fe (stC i x)
def Iz:(cs:List CT)→uG cs→List SV
 | [],_=>[]
 | c::cs,x=>aad c x.1::Iz cs x.2
def TC:(p:PT)→p.den→SV
 | .lf t,x=>.d (qC t x)
 | .ag i,x=>.ag (A4 (stC i x))
 | .pl t,x=>.fe [qC t x]
 | .ps i,x=>.fe (stC i x)
 | .fn f a b,x=>.fn f (Iz a x.1) (Iz b x.2)
 | .own ..,_=>.junk
 | .mv ..,_=>.junk
 | .bx ..,_=>.junk
 | .agr ..,_=>.junk
 | .io _,_=>.junk
def Ys (s:SS) (t:Ty) (v:SV) : Option t.den:=match rV s v with | some c=>c.as t | none=>none
def Yv (s:SS) (i:Nat) : SV→Option (ST i)
 | .ag cs=>match Kj s cs with | some cs=>stK i cs | none=>none
 | _=>none
def Sh (t:Ty) : SV→Option t.den
 | .fe [c]=>c.as t
 | _=>none
def Sg (i:Nat) : SV→Option (ST i)
 | .fe cs=>stK i cs
 | _=>none
def aaf (s:SS) : (c:CT)→SV→Option c.den
 | .v t,v=>Ys s t v
 | .a i,v=>Yv s i v
 | .pl t,v=>Sh t v
 | .ps i,v=>Sg i v
def MT (s:SS) : (cs:List CT)→List SV→Option (uG cs)
 | [],[]=>some ()
 | c::cs,v::vs=>Option.bind (aaf s c v) fun x=>Option.bind (MT s cs vs) fun xs=>some (x,xs)
 | _,_=>none
def ZH (s:SS) (f:FuncId) (a b:List CT) : SV→Option (uG a×uG b)
 | .fn f' ps qs=>match Nat.beq f' f with
  | true=>Option.bind (MT s a ps) fun x=>Option.bind (MT s b qs) fun y=>some (x,y)
  | false=>none
 | _=>none
def MY (s:SS) : (p:PT)→SV→Option p.den
 | .lf t,v=>Ys s t v
 | .ag i,v=>Yv s i v
 | .pl t,v=>Sh t v
 | .ps i,v=>Sg i v
 | .fn f a b,v=>ZH s f a b v
 | .own ..,_=>none
 | .mv ..,_=>none
 | .bx ..,_=>none
 | .agr ..,_=>none
 | .io _,_=>none
def ct:List PT→Type
 | []=>Unit
 | p::ps=>p.den×ct ps
def bc:List PT→Type
 | []=>Unit
 | [p]=>p.den
 | p::q::l=>p.den×bc (q::l)
def Co:(ps:List PT)→ct ps→List SV
 | [],_=>[]
 | p::ps,x=>TC p x.1::Co ps x.2
def Si (s:SS) : (ps:List PT)→List SV→Option (ct ps)
 | [],[]=>some ()
 | p::ps,v::vs=>Option.bind (MY s p v) fun x=>Option.bind (Si s ps vs) fun xs=>some (x,xs)
 | _,_=>none
def R9:(rs:List PT)→bc rs→List SV
 | [],_=>[]
 | [p],x=>[TC p x]
 | p::q::l,x=>TC p x.1::R9 (q::l) x.2
def aac (rs:List PT) (x:bc rs) : SV:=match rs,x with
 | [p],x=>TC p x
 | rs,x=>.tup (R9 rs x)
def IJ (s:SS) : (rs:List PT)→List SV→Option (bc rs)
 | [],[]=>some ()
 | [p],[v]=>MY s p v
 | p::q::l,v::vs=>Option.bind (MY s p v) fun x=>Option.bind (IJ s (q::l) vs) fun xs=>some (x,xs)
 | _,_=>none
def qL:List PT→Bool
 | []=>true
 | p::l=>match p.flat with | true=>qL l | false=>false
def aag:CT→Bool
 | .v (.st _)=>false
 | .pl (.st _)=>false
 | _=>true
def Fv:List CT→Bool
 | []=>true
 | c::l=>match aag c with | true=>Fv l | false=>false
def S6:PT→Bool
 | .lf (.st _)=>false
 | .pl (.st _)=>false
 | .fn _ a b=>match Fv a with | true=>Fv b | false=>false
 | .lf _=>true
 | .pl _=>true
 | .ag _=>true
 | .ps _=>true
 | _=>false
def ul:List PT→Bool
 | []=>true
 | p::l=>match S6 p with | true=>ul l | false=>false
def sR:List PT→Bool
 | []=>true
 | p::l=>match p.isM||S6 p with | true=>sR l | false=>false
structure Ent where
 ps:List PT
 rs:List PT
 f:ct ps→Option (bc rs)
def aaG:PT→SV→Bool
 | .fn f _ _,.fn g _ _=>Nat.beq g f
 | .fn _ _ _,_=>false
 | _,_=>true
def Y0:List PT→List SV→Bool
 | [],_=>true
 | _ :: _,[]=>true
 | p::ps,v::vs=>match aaG p v with | true=>Y0 ps vs | false=>false
def lkE:List (Nat×Ent)→Nat→List SV→Option Ent
 | [],_,_=>none
 | (j,v)::l,i,vs=>match Nat.beq i j with
  | true=>(match Y0 v.ps vs with | true=>some v | false=>lkE l i vs)
  | false=>lkE l i vs
mutual
def pw:SV→Bool
 | .row _=>false
 | .ptr _ _=>false
 | .re _ _ _=>false
 | .vw _ _ _=>false
 | .ag cs=>cy cs
 | .tup cs=>cy cs
 | .fn _ ps qs=>match cy ps with | true=>cy qs | false=>false
 | _=>true
def cy:List SV→Bool
 | []=>true
 | c::cs=>match pw c with | true=>cy cs | false=>false
end
def pC:List (Nat×Nat×Nat×Nat×Ty)→Nat→Option (Nat×Nat×Nat×Ty)
 | [],_=>none
 | (j,R,e,k,t)::l,i=>match Nat.beq j i with | true=>some (R,e,k,t) | false=>pC l i
def cellsOf (s:SS) (rows:List (Nat×Nat×Nat×Nat×Ty)) : Nat→List SV→Option (List SD)
 | _,[]=>some []
 | j,c::cs=>match pC rows j with
  | some (R,e,k,t)=>(match c,lkB s.bx R with
   | .row R',some (.rw e' k' t' xs _)=>(match Ty.same t' t with
    | some ⟨h⟩=>chk (Nat.beq R' R) (chk (e' == e) (chk (k' == k) (match cellsOf s rows (j + 1) cs with | some r=>some (.sl t (yV h xs)::r) | none=>none)))
    | none=>none)
   | _,_=>none)
  | none=>(match c,cellsOf s rows (j + 1) cs with
   | .d x,some r=>some (x::r)
   | _,_=>none)
def fL (rows:List (Nat×Nat×Nat×Nat×Ty)) : Nat→List SD→List (Nat×Option a6)→Option (List SV×List (Nat×Option a6))
 | _,[],bx=>some ([],bx)
 | j,c::cs,bx=>match pC rows j with
  | some (R,e,k,t)=>(match c.as (.sl t),fL rows (j + 1) cs bx with
   | some xs,some (vs,bx)=>some (.row R::vs,(R,some (.rw e k t xs []))::bx)
   | _,_=>none)
  | none=>(match fL rows (j + 1) cs bx with
   | some (vs,bx)=>some (.d c::vs,bx)
   | none=>none)
def ml:List (Nat×Nat×Nat×Ty)→List Nat→List (Nat×Nat×Nat×Nat×Ty)
 | (j,e,k,t)::l,R::is=>(j,R,e,k,t)::ml l is
 | _,_=>[]
def PT.nI:PT→Nat
 | .own ..=>1
 | .mv ..=>1
 | .bx _ _ rows=>rows.length + 1
 | .agr _ rows=>rows.length
 | _=>0
def MA (rows:List (Nat×Nat×Nat×Ty)) (is:List Nat) (n:Nat) (x:ST n) : Option (List SV×List (Nat×Option a6)):=fL (ml rows is) 0 (stC n x) []
def MD:(p:PT)→List Nat→p.den→Option (SV×List (Nat×Option a6))
 | .own e k t,is,xs=>(match is with | [i]=>some (.row i,[(i,some (.rw e k t xs []))]) | _=>none)
 | .mv e k t,is,xs=>(match is with | [i]=>some (.row i,[(i,some (.rw e k t xs []))]) | _=>none)
 | .bx ty n rows,is,x=>(match is with | i::is=>(match MA rows is n x with | some (vs,bx)=>some (.ptr i 0,(i,some (.st ty vs))::bx) | none=>none) | _=>none)
 | .agr n rows,is,x=>(match MA rows is n x with | some (vs,bx)=>some (.ag vs,bx) | none=>none)
 | .io _,_,_=>none
 | .lf t,_,x=>some (.d (qC t x),[])
 | .ag i,_,x=>some (.ag (A4 (stC i x)),[])
 | .pl t,_,x=>some (.fe [qC t x],[])
 | .ps i,_,x=>some (.fe (stC i x),[])
 | .fn f a b,_,x=>some (.fn f (Iz a x.1) (Iz b x.2),[])
def MC:(ps:List PT)→List (List Nat)→ct ps→Option (List SV×List (Nat×Option a6))
 | [],[],_=>some ([],[])
 | p::ps,is::iss,x=>(match MD p is x.1,MC ps iss x.2 with | some (v,b),some (vs,bs)=>some (v::vs,b++bs) | _,_=>none)
 | _,_,_=>none
def Dm:List (Nat×Nat×Nat×Ty)→List SV→Option (List Nat)
 | [],_=>some []
 | (j,_)::l,cs=>(match cs[j]?,Dm l cs with | some (.row R),some is=>some (R::is) | _,_=>none)
def MO (s:SS) (rows:List (Nat×Nat×Nat×Ty)) (n:Nat) (cs:List SV) : Option (ST n×List Nat):=match Dm rows cs with
 | some is=>(match cellsOf s (ml rows is) 0 cs with
  | some ds=>(match stK n ds with | some x=>some (x,is) | none=>none)
  | none=>none)
 | none=>none
def te (s:SS) (e k:Nat) (t:Ty) : SV→Option (List t.den×List Nat)
 | .row i=>(match lkB s.bx i with
  | some (.rw e' k' t' xs _)=>(match Ty.same t' t with
   | some ⟨h⟩=>chk (e' == e) (chk (k' == k) (some (yV h xs,[i])))
   | none=>none)
  | _=>none)
 | _=>none
def MW (s:SS) (ty n:Nat) (rows:List (Nat×Nat×Nat×Ty)) : SV→Option (ST n×List Nat)
 | .ptr i 0=>(match lkB s.bx i with
  | some (.st ty' cs)=>chk (ty' == ty) (match MO s rows n cs with | some (x,is)=>some (x,i::is) | none=>none)
  | _=>none)
 | _=>none
def Pj (s:SS) (n:Nat) (rows:List (Nat×Nat×Nat×Ty)) : SV→Option (ST n×List Nat)
 | .ag cs=>MO s rows n cs
 | _=>none
def MQ (s:SS) (p:PT) (v:SV) : Option (p.den×List Nat):=chk (pw v) (match MY s p v with | some x=>some (x,[]) | none=>none)
def Pi (s:SS) : (p:PT)→SV→Option (p.den×List Nat)
 | .own e k t,v=>te s e k t v
 | .mv e k t,v=>te s e k t v
 | .bx ty n rows,v=>MW s ty n rows v
 | .agr n rows,v=>Pj s n rows v
 | .io _,_=>none
 | .lf t,v=>MQ s (.lf t) v
 | .ag i,v=>MQ s (.ag i) v
 | .pl t,v=>MQ s (.pl t) v
 | .ps i,v=>MQ s (.ps i) v
 | .fn f a b,v=>MQ s (.fn f a b) v
def IL (s:SS) : (ps:List PT)→List SV→Option (ct ps×List (List Nat))
 | [],[]=>some ((),[])
 | p::ps,v::vs=>(match Pi s p v,IL s ps vs with | some (x,is),some (xs,iss)=>some ((x,xs),is::iss) | _,_=>none)
 | _,_=>none
structure MU where
 ks:List Nat
 us:List (Nat×Option a6)
 gs:List Nat
mutual
def stV (ks:List Nat) : SV→SV
 | .row t=>match aD ks t with | true=>.junk | false=>.row t
 | .re t p o=>match aD ks t with | true=>.junk | false=>.re t p o
 | .vw t p o=>match aD ks t with | true=>.junk | false=>.vw t p o
 | .ag cs=>.ag (tR ks cs)
 | .tup cs=>.tup (tR ks cs)
 | .fn f ps qs=>.fn f (tR ks ps) (tR ks qs)
 | v=>v
def tR (ks:List Nat) : List SV→List SV
 | []=>[]
 | c::cs=>stV ks c::tR ks cs
end
def SI (ks:List Nat) : List (Nat×SV)→List (Nat×SV)
 | []=>[]
 | (i,v)::l=>(i,stV ks v)::SI ks l
def xc (ks:List Nat) : List (Nat×Option a6)→List (Nat×Option a6)
 | []=>[]
 | (i,some (.st ty cs))::l=>(i,some (.st ty (tR ks cs)))::xc ks l
 | (i,b)::l=>(i,b)::xc ks l
def SS.updM (s:SS) (dst:Option Nat) (v:SV) (m:MU) : SS:=⟨sH (SI m.ks s.sl) dst v,m.us++xc m.ks s.bx,s.pr,s.ro,m.gs++s.oc⟩
def cx:List PT→List IB
 | .io l :: _=>l
 | _=>[]
def eT:List PT→List PT
 | .io _ :: l=>l
 | l=>l
def jN:(rs:List PT)→bc rs→yy (cx rs)
 | [],_=>()
 | [.io _],r=>r
 | .io _ :: _ :: _,r=>r.1
 | .own .. :: _,_=>()
 | .mv .. :: _,_=>()
 | .bx .. :: _,_=>()
 | .agr .. :: _,_=>()
 | .lf _ :: _,_=>()
 | .ag _ :: _,_=>()
 | .pl _ :: _,_=>()
 | .ps _ :: _,_=>()
 | .fn .. :: _,_=>()
def iB:(rs:List PT)→bc rs→bc (eT rs)
 | [],_=>()
 | [.io _],_=>()
 | .io _ :: _ :: _,r=>r.2
 | .own .. :: _,r=>r
 | .mv .. :: _,r=>r
 | .bx .. :: _,r=>r
 | .agr .. :: _,r=>r
 | .lf _ :: _,r=>r
 | .ag _ :: _,r=>r
 | .pl _ :: _,r=>r
 | .ps _ :: _,r=>r
 | .fn .. :: _,r=>r
def JO (s:SS) (i:Nat) : List (Nat×Pin):=match lkB s.bx i with | some (.rw _ _ _ _ pins)=>wE pins | _=>[]
def lr:List Nat→List (Nat×Option a6)
 | []=>[]
 | t::l=>(t,none)::lr l
def ZF (s:SS) : (p:PT)→(b:IB)→List Nat→List Nat→b.den→Option MU
 | .own ..,.own e k t,is,_,xs=>(match is with | [i]=>some ⟨[],[(i,some (.rw e k t xs (JO s i)))],[]⟩ | _=>none)
 | .mv ..,.no,is,_,_=>(match is with | [i]=>some ⟨[i],[],[i]⟩ | _=>none)
 | .bx ..,.bx ty n rows,is,js,x=>(match is with | i::is=>(match MA rows js n x with | some (vs,bx)=>some ⟨is,(i,some (.st ty vs))::bx,is⟩ | none=>none) | _=>none)
 | .lf _,.no,_,_,_=>some ⟨[],[],[]⟩
 | .ag _,.no,_,_,_=>some ⟨[],[],[]⟩
 | .pl _,.no,_,_,_=>some ⟨[],[],[]⟩
 | .ps _,.no,_,_,_=>some ⟨[],[],[]⟩
 | .fn ..,.no,_,_,_=>some ⟨[],[],[]⟩
 | _,_,_,_,_=>none
def MU.app (a b:MU) : MU:=⟨a.ks++b.ks,a.us++b.us,a.gs++b.gs⟩
def Sa (s:SS) : (ps:List PT)→(ls:List IB)→List (List Nat)→List (List Nat)→yy ls→Option MU
 | [],[],[],[],_=>some ⟨[],[],[]⟩
 | p::ps,b::ls,is::iss,js::kss,o=>(match ZF s p b is js o.1,Sa s ps ls iss kss o.2 with | some m,some m'=>some (m.app m') | _,_=>none)
 | _,_,_,_,_=>none
def J9:(rs:List PT)→List (List Nat)→bc rs→Option (List SV×List (Nat×Option a6))
 | [],[],_=>some ([],[])
 | [p],[is],x=>(match MD p is x with | some (v,b)=>some ([v],b) | none=>none)
 | p::q::l,is::iss,x=>(match MD p is x.1,J9 (q::l) iss x.2 with | some (v,b),some (vs,bs)=>some (v::vs,b++bs) | _,_=>none)
 | _,_,_=>none
def VG:List SV→SV
 | [v]=>v
 | vs=>.tup vs
def n7:Nat→List PT→List (List Nat)
 | _,[]=>[]
 | base,p::l=>List.range' base p.nI::n7 (base + p.nI) l
def bm:List (List Nat)→List Nat
 | []=>[]
 | l::ls=>l++bm ls
def sS:List Nat→Bool
 | []=>true
 | a::l=>match aD l a with | true=>false | false=>sS l
def RC (s:SS) : List Nat→Bool
 | []=>true
 | j::l=>match JS s j,lkB s.bx j,Nat.blt j 1000000 with | true,none,true=>RC s l | _,_,_=>false
def RB (s:SS) : List Nat→Bool
 | []=>true
 | i::l=>match aD s.pr i with | true=>false | false=>RB s l
def idU:List (Nat×Option a6)→List Nat
 | []=>[]
 | (i,_)::l=>i::idU l
def Oi:List Nat→List Nat→Bool
 | [],_=>true
 | a::l,m=>match aD m a with | true=>Oi l m | false=>false
def Y6 (ps:List PT) (iss:List (List Nat)) (x:ct ps) : Bool:=match MC ps iss x with | some (_,bi)=>sS (idU bi)&&Oi (bm iss) (idU bi) | none=>false
def RD (s:SS) : List (Nat×Option a6)→Bool
 | []=>true
 | (i,b)::l=>(match lkB s.bx i with
  | some (.st ty cs)=>(match b with | some (.st ty' cs')=>ty==ty' && Nat.beq cs.length cs'.length | _=>false)
  | _=>true)&&RD s l
section
variable {ρ : Type}
def Ti (T:List (Nat×Ent)) (f:Nat) (args:List SV) : Bool:=match lkE T f args with | some en=>oW en.ps||oW en.rs | none=>false
def Sm (T:List (Nat×Ent)) (f:Nat) (s:SS) (args:List SV) (k:SV→Option ρ) : Option ρ :=
 match lkE T f args with
 | none=>none
 | some en=>chk (ul en.rs) (chk (cy args||qL en.rs) (Option.bind (Si s en.ps args) fun x=>Option.bind (en.f x) fun r=>k (aac en.rs r)))
def Sn (T:List (Nat×Ent)) (f:Nat) (s:SS) (dst:Option Nat) (args:List SV) (k:SV→MU→Option ρ) : Option ρ :=
 match s.ro with
 | true=>none
 | false=>match lkE T f args,dst with
  | some en,some d=>(match IL s en.ps args with
   | some (x,iss)=>Option.bind (en.f x) fun r =>
    let kss:=uo (500000 + 64 * d) (cx en.rs)
    let jss:=n7 (500000 + 64 * d + DV (cx en.rs)) (eT en.rs)
    match Sa s en.ps (cx en.rs) iss kss (jN en.rs r),J9 (eT en.rs) jss (iB en.rs r) with
    | some m,some (vs,bs)=>chk (RB s (idU m.us++(m.ks++m.gs))&&(RC s (idU bs++(bm kss++bm jss))&&(sS (bm iss++(bm kss++bm jss))&&(sS (idU (m.us++(bs++lr m.gs)))&&(RD s (m.us++lr m.gs)&&(Oi (bm iss) (idU m.us++m.gs)&&(Oi (idU m.us++m.gs) (bm iss++bm kss)&&(Y6 en.ps iss x&&(Oi (bm kss++bm jss) (idU m.us++idU bs)&&(sR (eT en.rs)&&sR en.ps)))))))))) (k (VG vs) ⟨m.ks,m.us++(bs++lr m.gs),m.gs⟩)
    | _,_=>none
   | none=>none)
  | _,_=>none
def wJ (s:SS) (x:Operand) (b:Bool) : SS:=match x with
 | .tmp i=>⟨(i,.d (.bool b))::s.sl,s.bx,s.pr,s.ro,s.oc⟩
 | _=>s
def Rh (g:Nat) : List Oper→Option (List Oper×Nat×List Oper)
 | []=>none
 | o::l=>match (match o.op,o.dst with | .pick (.tmp g') _ _,some d=>(match Nat.beq g' g with | true=>some d | false=>none) | _,_=>none) with
  | some d=>some ([o],d,l)
  | none=>match Rh g l with
   | some (a,d,b)=>some (o::a,d,b)
   | none=>none
def ci:List Oper→List Nat
 | []=>[]
 | o::l=>match o.dst with | some d=>d::ci l | none=>ci l
def oU:List Nat→List (Nat×SV)→List (Nat×SV)
 | [],l=>l
 | d::ds,l=>(d,.junk)::oU ds l
def Dh (d:Nat) (s:SS) : Option Bool:=match lkV s.sl d with | .d (.bool b)=>some b | _=>none
mutual
def uz (t:Nat) (c:SD) : SV→SV
 | .row t'=>match Nat.beq t' t with | true=>.d c | false=>.row t'
 | .re t' p o=>match Nat.beq t' t with | true=>.junk | false=>.re t' p o
 | .vw t' p o=>match Nat.beq t' t with | true=>.junk | false=>.vw t' p o
 | .ag cs=>.ag (nK t c cs)
 | .tup cs=>.tup (nK t c cs)
 | .fn f ps qs=>.fn f (nK t c ps) (nK t c qs)
 | v=>v
def nK (t:Nat) (c:SD) : List SV→List SV
 | []=>[]
 | v::vs=>uz t c v::nK t c vs
end
def ES (t:Nat) (c:SD) : List (Nat×SV)→List (Nat×SV)
 | []=>[]
 | (i,v)::l=>(i,uz t c v)::ES t c l
def rP (t:Nat) (c:SD) : List (Nat×Option a6)→List (Nat×Option a6)
 | []=>[]
 | (i,some (.st ty cs))::l=>(i,some (.st ty (nK t c cs)))::rP t c l
 | (i,b)::l=>(i,b)::rP t c l
def O2 (t:Nat) (s:SS) : Option SS:=match lkB s.bx t with
 | some (.rw _ _ ty xs _)=>match aD s.pr t with
  | false=>some ⟨ES t (.sl ty xs) s.sl,(t,none)::rP t (.sl ty xs) s.bx,s.pr,s.ro,s.oc⟩
  | true=>some s
 | _=>some s
def lu:List Nat→SS→Option SS
 | [],s=>some s
 | t::l,s=>match O2 t s with | some s=>lu l s | none=>none
mutual
def xx (t:Nat) (ds:List SD) : SV→SV
 | .ptr t' o=>match Nat.beq t' t with | true=>.fe (ds.drop o) | false=>.ptr t' o
 | .ag cs=>.ag (pA t ds cs)
 | .tup cs=>.tup (pA t ds cs)
 | .fn f ps qs=>.fn f (pA t ds ps) (pA t ds qs)
 | v=>v
def pA (t:Nat) (ds:List SD) : List SV→List SV
 | []=>[]
 | v::vs=>xx t ds v::pA t ds vs
end
def ET (t:Nat) (ds:List SD) : List (Nat×SV)→List (Nat×SV)
 | []=>[]
 | (i,v)::l=>(i,xx t ds v)::ET t ds l
def rR (t:Nat) (ds:List SD) : List (Nat×Option a6)→List (Nat×Option a6)
 | []=>[]
 | (i,some (.st ty cs))::l=>(i,some (.st ty (pA t ds cs)))::rR t ds l
 | (i,b)::l=>(i,b)::rR t ds l
def Zw:List SD→Bool
 | []=>true
 | .nl :: _=>false
 | _ :: l=>Zw l
def fbX (sc:List Nat) (t:Nat) (s:SS) : Option SS:=match lkB s.bx t with
 | some (.st _ cs)=>(match tF cs with
  | some ds=>chk (Zw ds&&(!(aD s.pr t) && !(aD sc t))) (some ⟨ET t ds s.sl,(t,none)::rR t ds s.bx,s.pr,s.ro,s.oc⟩)
  | none=>none)
 | _=>none
def It (sc:List Nat) : List Nat→SS→Option SS
 | [],s=>some s
 | t::l,s=>match fbX sc t s with | some s=>It sc l s | none=>none
def R6 (s:SS) : List Nat→Bool
 | []=>true
 | t::l=>match lkB s.bx t with | none=>R6 s l | some _=>false
mutual
def Oz:SV→List Nat
 | .row t=>[t]
 | .fn _ ps qs=>sQ ps++sQ qs
 | .ag cs=>sQ cs
 | _=>[]
def sQ:List SV→List Nat
 | []=>[]
 | c::cs=>Oz c++sQ cs
end
def VB:List (Nat×SV)→List SV
 | []=>[]
 | (_,v)::l=>v::VB l
def AW:List PT→List SV→List SV
 | p::ps,v::vs=>(match p.isM with | true=>AW ps vs | false=>v::AW ps vs)
 | _,_=>[]
def XS (q:Bool) (T:List (Nat×Ent)) (o:Oper) (s:SS) : Option SS:=match q,s.ro,o.guard with
 | true,false,none=>(match o.op,uH o with
  | .buildSlice _ _ ps,_=>lu (sQ (VB (xl s ps.toList))) s
  | _,some (x,xs)=>(match evX s x with
   | .fn f ps qs=>(match lkE T f (ps++we s xs++qs) with
    | some en=>(match oW en.ps||oW en.rs with
     | true=>lu (sQ (AW en.ps (ps++we s xs++qs))) s
     | false=>(match qL en.rs with | true=>some s | false=>lu (sQ (ps++we s xs++qs)) s))
    | none=>some s)
   | _=>some s)
  | _,_=>some s)
 | _,_,_=>some s
mutual
def wG:SV→Option (List Nat)
 | .junk=>none
 | .ptr t _=>some [t]
 | .row t=>some [t]
 | .re t _ _=>some [t]
 | .vw t _ _=>some [t]
 | .ag cs=>qV cs
 | .tup cs=>qV cs
 | .fn _ ps qs=>match qV ps,qV qs with | some a,some b=>some (a++b) | _,_=>none
 | .d _=>some []
 | .fe _=>some []
def qV:List SV→Option (List Nat)
 | []=>some []
 | c::cs=>match wG c,qV cs with | some a,some b=>some (a++b) | _,_=>none
end
def RY (o:Oper) (s:SS) : Option (List Nat):=match o.op with
 | .load _ x=>wG (evX s x)
 | .store _ x _=>wG (evX s x)
 | .indexAddr _ x _=>wG (evX s x)
 | .slice _ x _ _ _=>wG (evX s x)
 | .convert _ _ x=>wG (evX s x)
 | .call c=>(match c.callee with
  | .value f=>(match wG (evX s f),qV (we s c.args.toList) with | some a,some b=>some (a++b) | _,_=>none)
  | _=>qV (we s c.args.toList))
 | _=>some []
def Oj:List Nat→List Nat→Bool
 | [],_=>true
 | a::l,m=>match fj.memL m a with | true=>Oj l m | false=>false
def yB:List Bd→Nat→Bd
 | [],_=>([],[])
 | x :: _,0=>x
 | _ :: l,i + 1=>yB l i
def Ij (q:Bool) (B:List Bd) (i:Nat) (o:Oper) (s:SS) (u:Upd) : Bool:=match q with
 | true=>true
 | false=>match RY o s with
  | some fs=>Oj fs (yB B i).1&&Oj (U9 u) (yB B i).2
  | none=>false
def RZ (q:Bool) (B:List Bd) (i:Nat) (o:Oper) (s:SS) (m:MU) : Bool:=match q with
 | true=>true
 | false=>match RY o s with
  | some fs=>Oj fs (yB B i).1&&Oj (idU m.us) (yB B i).2
  | none=>false
def ud (q:Bool) (P:Program) (T:List (Nat×Ent)) (ops:Array Oper) (B:List Bd) : Nat→Nat→List Nat→List Oper→{ρ : Type} → SS→(SS→Option ρ)→Option ρ
 | _,_,_,[],_,s,k=>k s
 | 0,_,_,_ :: _,_,_,_=>none
 | n + 1,i,kn,o::l,_,s,k =>
  let go:=fun (_:Unit)=>match XS q T o s with
   | none=>none
   | some s=>(match uH o with
    | some (x,xs)=>(match evX s x with
     | .fn f ps qs=>(match Ti T f (ps++we s xs++qs) with
      | false=>chk (Ij q B i o s .no) (Sm T f s (ps++we s xs++qs) fun r=>ud q P T ops B n (i + 1) kn l (s.upd o.dst r .no) k)
      | true=>Sn T f s o.dst (ps++we s xs++qs) fun v m=>chk (RZ q B i o s m) (ud q P T ops B n (i + 1) kn l (s.updM o.dst v m) k))
     | _=>none)
    | none=>Yo P o s fun v u=>chk (Ij q B i o s u) (ud q P T ops B n (i + 1) kn l (s.upd o.dst v u) k))
  let skip:=fun (_:Unit)=>ud q P T ops B n (i + 1) kn l (s.upd o.dst (.tup []) .no) k
  match o.guard with
  | none=>go ()
  | some (j,want)=>match (ops[j]?).bind (·.dst) with
   | none=>none
   | some g=>match lkV s.sl g with
    | .tup []=>skip ()
    | .d (.bool b)=>(match aD kn g with
     | true=>(match b with
      | true=>(match want with | true=>go () | false=>skip ())
      | false=>(match want with | true=>skip () | false=>go ()))
     | false=>(match Rh g (o::l) with
      | none=>none
      | some (l1,d,l2)=>Option.bind (if b=true then ud q P T ops B n i (g::kn) l1 ⟨(g,.d (.bool true))::s.sl,s.bx,s.pr,true,s.oc⟩ (Dh d) else ud q P T ops B n i (g::kn) l1 ⟨(g,.d (.bool false))::s.sl,s.bx,s.pr,true,s.oc⟩ (Dh d)) fun qb =>
       ud q P T ops B n (i + l1.length) kn l2 ⟨(d,.d (.bool qb))::oU (ci l1) s.sl,s.bx,s.pr,s.ro,ci l1++s.oc⟩ k))
    | _=>none
end
def lkN:List (Nat×List Nat)→Nat→Option (List Nat)
 | [],_=>none
 | (j,v)::l,i=>match Nat.beq i j with | true=>some v | false=>lkN l i
def kQ (m:List (Nat×List Nat)) (s:SS) : Operand→List Nat
 | .tmp i=>(match lkN m i with | some l=>l | none=>(match wG (lkV s.sl i) with | some l=>l | none=>[]))
 | _=>[]
def Cc (m:List (Nat×List Nat)) (s:SS) : List Operand→List Nat
 | []=>[]
 | x::l=>kQ m s x++Cc m s l
def ZX (m:List (Nat×List Nat)) (s:SS) : List (Nat×Operand)→List Nat
 | []=>[]
 | (_,x)::l=>kQ m s x++ZX m s l
def aai (mb:List (Nat×List Nat)) (s:SS) (t:Nat) : List Nat:=match lkN mb t with
 | some l=>l
 | none=>(match lkB s.bx t with | some (.st _ cs)=>(match qV cs with | some l=>l | none=>[]) | _=>[])
def WJ (mb:List (Nat×List Nat)) (s:SS) : List Nat→List Nat
 | []=>[]
 | t::l=>aai mb s t++WJ mb s l
def ZO (mb:List (Nat×List Nat)) (s:SS) (x:List Nat) : List Nat→List (Nat×List Nat)
 | []=>mb
 | t::l=>(t,x++aai mb s t)::ZO mb s x l
def Fl:Option Nat→List Nat
 | some d=>[d]
 | none=>[]
def qz (m:List (Nat×List Nat)) (dst:Option Nat) (l:List Nat) : List (Nat×List Nat):=match dst with | some d=>(d,l)::m | none=>m
def Z3:List (Nat×Ent)→Nat→Option Ent
 | [],_=>none
 | (j,v)::l,i=>match Nat.beq i j with | true=>some v | false=>Z3 l i
def aaE (T:List (Nat×Ent)) (o:Oper) (f:Operand) : Option (List Nat):=match f,o.dst with
 | .func g,some d=>(match Z3 T g with
  | some en=>(match oW en.ps||oW en.rs with | true=>some (bm (uo (500000 + 64 * d) (cx en.rs))++bm (n7 (500000 + 64 * d + DV (cx en.rs)) (eT en.rs))) | false=>none)
  | none=>none)
 | _,_=>none
def kR (T:List (Nat×Ent)) (s:SS) : List Oper→List (Nat×List Nat)→List (Nat×List Nat)→List Bd
 | [],_,_=>[]
 | o::l,m,mb=>match o.op with
  | .move x=>([],[])::kR T s l (qz m o.dst (kQ m s x)) mb
  | .assign x=>([],[])::kR T s l (qz m o.dst (kQ m s x)) mb
  | .pick _ x y=>([],[])::kR T s l (qz m o.dst (kQ m s x++kQ m s y)) mb
  | .build _ ps=>([],[])::kR T s l (qz m o.dst (ZX m s ps.toList)) mb
  | .extract x _=>([],[])::kR T s l (qz m o.dst (kQ m s x)) mb
  | .field _ x _=>([],[])::kR T s l (qz m o.dst (kQ m s x)) mb
  | .fieldAddr _ x _=>([],[])::kR T s l (qz m o.dst (kQ m s x)) mb
  | .nilCheck x=>([],[])::kR T s l (qz m o.dst (kQ m s x)) mb
  | .indexAddr _ x _=>(kQ m s x,[])::kR T s l (qz m o.dst (kQ m s x)) mb
  | .load _ x=>(kQ m s x,[])::kR T s l (qz m o.dst (WJ mb s (kQ m s x))) mb
  | .store _ x y=>(kQ m s x,kQ m s x)::kR T s l m (ZO mb s (kQ m s y) (kQ m s x))
  | .alloc _=>([],Fl o.dst)::kR T s l (qz m o.dst (Fl o.dst)) mb
  | .box _ x=>([],Fl o.dst)::kR T s l (qz m o.dst (Fl o.dst)) (ZO mb s (kQ m s x) (Fl o.dst))
  | .buildSlice _ _ _=>([],Fl o.dst)::kR T s l (qz m o.dst (Fl o.dst)) mb
  | .slice _ x _ _ _=>(kQ m s x,[])::kR T s l (qz m o.dst (kQ m s x)) mb
  | .makeSlice _ _ _=>([],Fl o.dst)::kR T s l (qz m o.dst (Fl o.dst)) mb
  | .convert _ _ x=>(kQ m s x,[])::kR T s l (qz m o.dst []) mb
  | .makeFunc _ a b=>([],[])::kR T s l (qz m o.dst (Cc m s a.toList++Cc m s b.toList)) mb
  | .call c=>(match c.callee with
   | .builtin .append=>(match c.args.toList with
    | x::y :: _=>(kQ m s x++kQ m s y,kQ m s x++Fl o.dst)::kR T s l (qz m o.dst (kQ m s x++Fl o.dst)) mb
    | _=>([],[])::kR T s l m mb)
   | .builtin .copy=>(match c.args.toList with
    | x::y :: _=>(kQ m s x++kQ m s y,kQ m s x)::kR T s l (qz m o.dst []) mb
    | _=>([],[])::kR T s l m mb)
   | .value f=>(match aaE T o f with
    | none=>(kQ m s f++Cc m s c.args.toList,[])::kR T s l (qz m o.dst []) mb
    | some js=>(Cc m s c.args.toList,Cc m s c.args.toList++(WJ mb s (Cc m s c.args.toList)++js))::kR T s l (qz m o.dst js) mb)
   | _=>(Cc m s c.args.toList,[])::kR T s l (qz m o.dst []) mb)
  | _=>([],[])::kR T s l m mb
def Ly (m:Nat) (ops:Array Oper) : Bool:=(List.range ops.size).all fun i=>decide (i < m)||(List.range i).all fun k=>yL ops 4 i k
inductive Mod where
 | leaf (i:Nat) (t:Ty)
 | agg (i n:Nat)
 | row (i R e k:Nat) (t:Ty)
 | box (b ty n:Nat) (rows:List (Nat×Nat×Nat×Nat×Ty))
def Mod.den:Mod→Type
 | .leaf _ t=>t.den
 | .agg _ n=>ST n
 | .row _ _ _ _ t=>List t.den
 | .box _ _ n _=>ST n
def jO:List Mod→Type
 | []=>Unit
 | [m]=>m.den
 | m::m' :: l=>m.den×jO (m' :: l)
def ZB:Option a6→Bool
 | some (.rw ..)=>true
 | _=>false
def Bc (s:SS) : (m:Mod)→Option m.den
 | .leaf i t=>match lkV s.sl i with
  | .d c=>c.as t
  | _=>none
 | .agg i n=>match lkV s.sl i with
  | .ag cs=>(match tF cs with | some cs=>stK n cs | none=>none)
  | _=>none
 | .row i R e k t=>match lkV s.sl i,lkB s.bx R with
  | .row R',some (.rw e' k' t' xs _)=>match Ty.same t' t with
   | some ⟨h⟩=>chk (Nat.beq R' R) (chk (e' == e) (chk (k' == k) (some (yV h xs))))
   | none=>none
  | _,_=>none
 | .box b ty n rows=>match lkB s.bx b with
  | some (.st ty' cs)=>chk (ty' == ty) (chk (rows.all fun r=>ZB (lkB s.bx r.2.1)) (match cellsOf s rows 0 cs with | some ds=>stK n ds | none=>none))
  | _=>none
def tG (s:SS) : (l:List Mod)→Option (jO l)
 | []=>some ()
 | [m]=>Bc s m
 | m::m' :: l=>Option.bind (Bc s m) fun x=>Option.bind (tG s (m' :: l)) fun xs=>some (x,xs)
def rI:(m:Mod)→m.den→SS→Option SS
 | .leaf i t,x,s=>some ⟨(i,.d (qC t x))::s.sl,s.bx,s.pr,s.ro,s.oc⟩
 | .agg i n,x,s=>some ⟨(i,.ag (A4 (stC n x)))::s.sl,s.bx,s.pr,s.ro,s.oc⟩
 | .row i R e k t,xs,s=>some ⟨(i,.row R)::s.sl,(R,some (.rw e k t xs []))::s.bx,s.pr,s.ro,s.oc⟩
 | .box b ty n rows,x,s=>match fL rows 0 (stC n x) s.bx with
  | some (vs,bx)=>some ⟨s.sl,(b,some (.st ty vs))::bx,s.pr,s.ro,s.oc⟩
  | none=>none
def jH:(l:List Mod)→jO l→SS→Option SS
 | [],_,s=>some s
 | [m],x,s=>rI m x s
 | m::m' :: l,x,s=>match jH (m' :: l) x.2 s with | some s=>rI m x.1 s | none=>none
def bv:List Mod→List Nat
 | []=>[]
 | .row _ R _ _ _ :: l=>R::bv l
 | .box b _ _ rows::l=>b::(rows.map (·.2.1)++bv l)
 | _ :: l=>bv l
def YX (R:Nat) : SV→Bool
 | .row R'=>Nat.beq R' R
 | _=>false
def px (wr:List Nat) (s:SS) : List Mod→Bool
 | []=>true
 | .leaf i _ :: l=>(match aD wr i with | true=>px wr s l | false=>false)
 | .agg i _ :: l=>(match aD wr i with | true=>px wr s l | false=>false)
 | .row i R _ _ _ :: l=>(match aD s.pr R,aD wr i||YX R (lkV s.sl i) with | false,true=>px wr s l | _,_=>false)
 | .box b _ _ rows::l=>(match aD s.pr b,rows.all fun r=>!(aD s.pr r.2.1) with | false,true=>px wr s l | _,_=>false)
def vC (mb sc:List Nat) : List (Nat×Option a6)→List Nat→Bool
 | [],_=>true
 | (t,b)::l,seen=>match aD seen t with
  | true=>vC mb sc l seen
  | false=>match b with
   | some (.st _ cs)=>(match aD mb t||(aD sc t||cy cs) with | true=>vC mb sc l (t::seen) | false=>false)
   | _=>vC mb sc l (t::seen)
def IE:List Nat→List Nat→Bool
 | [],_=>true
 | a::l,m=>match aD m a with | true=>false | false=>IE l m
mutual
def sU (sc wr:List Nat) (ms:List Mod) (pr:List Nat) (s:SS) : Bool:=px wr s ms&&(IE sc pr&&(IE sc (bv ms)&&vC (bv ms) sc s.bx []))
def GX (pr kb:List Nat) : SV→Bool
 | .row t=>aD pr t
 | .re _ _ _=>false
 | .vw _ _ _=>false
 | .ptr t _=>aD kb t
 | .ag cs=>la pr kb cs
 | .tup cs=>la pr kb cs
 | .fn _ ps qs=>match la pr kb ps with | true=>la pr kb qs | false=>false
 | _=>true
def la (pr kb:List Nat) : List SV→Bool
 | []=>true
 | c::cs=>match GX pr kb c with | true=>la pr kb cs | false=>false
end
def sV (wr pr kb:List Nat) : List (Nat×SV)→List Nat→List (Nat×SV)
 | [],_=>[]
 | (i,v)::l,seen=>match aD seen i with
  | true=>sV wr pr kb l seen
  | false=>match aD wr i with
   | true=>sV wr pr kb l (i::seen)
   | false=>match GX pr kb v with
    | true=>(i,v)::sV wr pr kb l (i::seen)
    | false=>sV wr pr kb l (i::seen)
def yw:a6→Bool
 | .st _ cs=>cy cs
 | .rw ..=>true
def oN (mb:List Nat) : List (Nat×Option a6)→List Nat→List Nat
 | [],_=>[]
 | (t,b)::l,seen=>match aD seen t with
  | true=>oN mb l seen
  | false=>match b with
   | none=>oN mb l (t::seen)
   | some b=>match aD mb t,yw b with
    | false,true=>t::oN mb l (t::seen)
    | _,_=>oN mb l (t::seen)
def Jr:Option a6→Option a6
 | some (.rw e k t xs _)=>some (.rw e k t xs [])
 | b=>b
def sW (pr:List Nat) : List (Nat×Option a6)→List Nat→List (Nat×Option a6)
 | [],_=>[]
 | (t,b)::l,seen=>match aD seen t with
  | true=>sW pr l seen
  | false=>match aD pr t with
   | true=>(t,Jr b)::sW pr l (t::seen)
   | false=>sW pr l (t::seen)
def wK:List SV→List SV
 | []=>[]
 | _ :: l=>.junk::wK l
def sP (bx:List (Nat×Option a6)) : List Nat→List Nat
 | []=>[]
 | b::l=>match lkB bx b with
  | some (.st _ _)=>b::sP bx l
  | _=>sP bx l
def LD (bx:List (Nat×Option a6)) : List Nat→List (Nat×Option a6)→List (Nat×Option a6)
 | [],r=>r
 | b::l,r=>match lkB bx b with
  | some (.st ty cs)=>(b,some (.st ty (wK cs)))::LD bx l r
  | _=>LD bx l r
def cf (sc wr:List Nat) (ms:List Mod) (s:SS) : SS :=
 let pr:=oN (bv ms++sc) s.bx []
 ⟨sV wr pr (bv ms++(sP s.bx sc++pr)) s.sl [],LD s.bx sc (sW pr s.bx []),pr,s.ro,[]⟩
def AO (but:List Nat) : List SV→List Nat
 | []=>[]
 | .row t::l=>match aD but t with | true=>AO but l | false=>t::AO but l
 | _ :: l=>AO but l
def HW (s:SS) : List Mod→List Nat
 | []=>[]
 | .leaf i _ :: l=>AO [] [lkV s.sl i] ++ HW s l
 | .agg i _ :: l=>(match lkV s.sl i with | .ag cs=>AO [] cs | _=>[])++HW s l
 | .row .. :: l=>HW s l
 | .box b _ _ rows::l=>(match lkB s.bx b with | some (.st _ cs)=>AO (rows.map (·.2.1)) cs | _=>[])++HW s l
def clr (s:SS) : SS:=⟨s.sl,s.bx,s.pr,s.ro,[]⟩
def un (s:SS) : List (Nat×Nat×Nat×Nat×Ty)→List SV→List (Nat×Option a6)→Option (List SV×List (Nat×Option a6))
 | [],cs,bx=>some (cs,bx)
 | (j,R,e,k,t)::l,cs,bx=>match cs[j]? with
  | some (.d .nl)=>(match lkB bx R,decide (0 < k∧R < 1000000),aD s.pr R with
   | none,true,false=>un s l (cs.set j (.row R)) ((R,some (.rw e k t [] []))::bx)
   | _,_,_=>none)
  | _=>un s l cs bx
def GZ (wr:List Nat) : List Mod→SS→Option SS
 | [],s=>some s
 | .row i R e k t::l,s=>match lkV s.sl i with
  | .d .nl=>(match Nat.beq i R,lkB s.bx i,decide (0 < k∧i < 1000000),aD wr i,aD s.pr i with
   | true,none,true,true,false=>GZ wr l ⟨(i,.row i)::s.sl,(i,some (.rw e k t [] []))::s.bx,s.pr,s.ro,s.oc⟩
   | _,_,_,_,_=>none)
  | _=>GZ wr l s
 | .box b _ _ [] :: l,s=>GZ wr l s
 | .box b _ _ rows::l,s=>match lkB s.bx b with
  | some (.st ty cs)=>(match aD s.pr b,un s rows cs s.bx with
   | false,some (cs,bx)=>GZ wr l ⟨s.sl,(b,some (.st ty cs))::bx,s.pr,s.ro,s.oc⟩
   | _,_=>none)
  | _=>none
 | _ :: l,s=>GZ wr l s
def Pc (wr:List Nat) (ms:List Mod) (s:SS) : Option SS:=match GZ wr ms s with
 | some s=>lu (HW s ms) s
 | none=>none
def qG (ms:List Mod) (s:SS) : Option (jO ms):=match lu (HW s ms) s with
 | some s=>tG s ms
 | none=>none
inductive tV where
 | n
 | s (a b:tV)
 | lp (ms:List Mod) (id:Nat) (ret:Bool) (b:tV)
 | j (ms:List Mod) (h:tV)
def tV.l:tV→tV
 | .s a _=>a
 | .j _ (.s a _)=>a
 | _=>.n
def tV.r:tV→tV
 | .s _ b=>b
 | .j _ (.s _ b)=>b
 | _=>.n
structure Cx where
 P:Program
 T:List (Nat×Ent)
 n:Nat
 rs:List PT
 vars:List ResultVar
 fz:List (Nat×List Nat)
 sc:List Nat
 fb:List (Nat×List Nat)
def lkF:List (Nat×List Nat)→Nat→List Nat
 | [],_=>[]
 | (j,v)::l,i=>match Nat.beq i j with | true=>v | false=>lkF l i
def wrC:Code→List Nat
 | .region _ ops _=>ci ops.toList
 | .seq a b=>wrC a++wrC b
 | .cond (.tmp i) a b=>i::(wrC a++wrC b)
 | .cond _ a b=>wrC a++wrC b
 | .block _ c=>wrC c
 | .loop c=>wrC c
 | _=>[]
def LJ (P:Program) (s:SS) : List ResultVar→Option (List SV)
 | []=>some []
 | .tmp t::l=>match LJ P s l with | some vs=>some (lkV s.sl t::vs) | none=>none
 | .cell t ty::l=>match RK P s ty (lkV s.sl t),LJ P s l with | some v,some vs=>some (v::vs) | _,_=>none
def Z8:List (Nat×Nat×Nat×Ty)→Nat→Bool
 | [],_=>false
 | (j,_)::l,i=>match Nat.beq i j with | true=>true | false=>Z8 l i
def Dl (rows:List (Nat×Nat×Nat×Ty)) : Nat→List SV→List Nat
 | _,[]=>[]
 | j,c::cs=>match Z8 rows j with | true=>Dl rows (j + 1) cs | false=>Oz c++Dl rows (j + 1) cs
def Zn:PT→SV→List Nat
 | .own ..,_=>[]
 | .agr _ rows,.ag cs=>Dl rows 0 cs
 | .agr ..,_=>[]
 | _,v=>Oz v
def Rq:List PT→List SV→List Nat
 | p::ps,v::vs=>Zn p v++Rq ps vs
 | _,_=>[]
def tS (i:Nat) : Nat:=1000000 + 64 * i
def Z6 (s:SS) (i:Nat) : IB→List Nat
 | .bx _ _ rows=>(match lkB s.bx (tS i) with | some (.st _ cs)=>Dl rows 0 cs | _=>[])
 | _=>[]
def V4 (s:SS) : Nat→List IB→List Nat
 | _,[]=>[]
 | i,b::l=>Z6 s i b++V4 s (i + 1) l
def Yy (s:SS) (i:Nat) : (b:IB)→Option (b.den×List Nat)
 | .no=>some ((),[])
 | .own e k t=>(match te s e k t (.row (tS i)) with | some (xs,_)=>some (xs,[]) | none=>none)
 | .bx ty n rows=>(match lkB s.bx (tS i) with
  | some (.st ty' cs)=>chk (ty' == ty) (MO s rows n cs)
  | _=>none)
def Sf (s:SS) : Nat→(ls:List IB)→Option (yy ls×List (List Nat))
 | _,[]=>some ((),[])
 | i,b::ls=>match Yy s i b,Sf s (i + 1) ls with | some (o,js),some (os,kss)=>some ((o,os),js::kss) | _,_=>none
def Kg (s:SS) : (rs:List PT)→List SV→Option (bc rs×List (List Nat))
 | [],[]=>some ((),[])
 | [p],[v]=>(match Pi s p v with | some (x,is)=>some (x,[is]) | none=>none)
 | p::q::l,v::vs=>(match Pi s p v,Kg s (q::l) vs with | some (x,is),some (xs,iss)=>some ((x,xs),is::iss) | _,_=>none)
 | _,_=>none
def V1:(rs:List PT)→yy (cx rs)→bc (eT rs)→bc rs
 | [],_,_=>()
 | [.io _],o,_=>o
 | .io _ :: _ :: _,o,r=>(o,r)
 | .own .. :: _,_,r=>r
 | .mv .. :: _,_,r=>r
 | .bx .. :: _,_,r=>r
 | .agr .. :: _,_,r=>r
 | .lf _ :: _,_,r=>r
 | .ag _ :: _,_,r=>r
 | .pl _ :: _,_,r=>r
 | .ps _ :: _,_,r=>r
 | .fn .. :: _,_,r=>r
def dm:Nat→List IB→List Nat
 | _,[]=>[]
 | i,.no::l=>dm (i + 1) l
 | i,.own .. :: l=>tS i::dm (i + 1) l
 | i,.bx .. :: l=>tS i::dm (i + 1) l
def YW (C:Cx) (s:SS) : Option (bc C.rs):=match LJ C.P s C.vars with
 | some vs=>(match lu (V4 s 0 (cx C.rs)++Rq (eT C.rs) vs) s with
  | some s1=>(match LJ C.P s1 C.vars with
   | some ws=>(match Sf s1 0 (cx C.rs),Kg s1 (eT C.rs) ws with
    | some (o,kss),some (r,jss)=>chk (sS (dm 0 (cx C.rs)++(bm kss++bm jss))) (some (V1 C.rs o r))
    | _,_=>none)
   | none=>none)
  | none=>none)
 | none=>none
def Cg (C:Cx) (s:SS) : Option (bc C.rs):=match oW C.rs with
 | true=>YW C (clr s)
 | false=>(match LJ C.P (clr s) C.vars with
  | some vs=>IJ (clr s) C.rs vs
  | none=>none)
def Ve:List Oper→Bool
 | []=>true
 | o::l=>match o.op,o.dst with | .store ..,some _=>false | _,_=>Ve l
def V8:List Oper→Bool
 | []=>false
 | o::l=>match o.op with | .buildSlice ..=>true | _=>V8 l
def RQ:List Oper→Bool
 | []=>false
 | o::l=>match uH o with | some _=>true | none=>RQ l
def Vb (ops:Array Oper) : Nat→Nat
 | 0=>0
 | n + 1=>match (List.range n).all fun k=>yL ops 4 n k with | true=>Vb ops n | false=>n + 1
def iP (ops:Array Oper) : Nat:=match V8 ops.toList,RQ ops.toList with
 | true,true=>Vb ops ops.toList.length
 | _,_=>ops.toList.length
def Vq (C:Cx) (id:Nat) (ops:Array Oper) (draw:Bool) (s:SS) {ρ : Type} (k:SS→Option ρ) : Option ρ :=
 match lu (lkF C.fz id) s with
 | none=>none
 | some s0=>let s:SS:=⟨s0.sl,s0.bx,s0.pr,s0.ro,[]⟩; match draw with
  | false=>chk (Ve ops.toList&&IC C.n ops.toList) (ud true C.P C.T ops [] 1000 0 [] ops.toList s k)
  | true=>chk (Ve ops.toList) (chk (Fo (yB (kR C.T s ops.toList [] [])) C.n ops) (match Nat.beq (iP ops) ops.toList.length with
   | true=>ud false C.P C.T ops (kR C.T s ops.toList [] []) 1000 0 [] ops.toList s k
   | false=>chk (Ly (iP ops) ops&&decide (iP ops≤ops.toList.length)) (ud false C.P C.T ops (kR C.T s ops.toList [] []) 1000 0 [] (ops.toList.take (iP ops)) s fun s=>ud true C.P C.T ops [] 1000 0 [] (ops.toList.drop (iP ops)) s k)))
def XM (C:Cx) (id:Nat) (ops:Array Oper) (draw:Bool) (s:SS) {ρ : Type} (k:SS→Option ρ) : Option ρ:=match lkF C.fb id with
 | []=>Vq C id ops draw s k
 | t::l=>chk (R6 s (t::l)) (Vq C id ops draw s fun s=>match It C.sc (t::l) s with | some s=>k s | none=>none)
def Hu (C:Cx) (wr:List Nat) (h:tV) (body:(ρ : Type)→SS→(Exit→SS→Option ρ)→(bc C.rs→Option ρ)→Option ρ) (ρ : Type) (s:SS) (k:Exit→SS→Option ρ) (kr:bc C.rs→Option ρ) : Option ρ :=
 match h with
 | .j ms _=>match GZ wr ms (clr s) with
  | none=>none
  | some s1=>chk (sU C.sc wr ms s.pr s1) (Option.bind (body (jO ms) ⟨s1.sl,s1.bx,(cf C.sc wr ms s1).pr,s1.ro,s1.oc⟩ (fun e s'=>match e with | .normal=>qG ms s' | _=>none) (fun _=>none)) fun st =>
   match jH ms st (cf C.sc wr ms s1) with
   | some s2=>k .normal ⟨s2.sl,s2.bx,s.pr,s.ro,s.oc⟩
   | none=>none)
 | _=>body ρ s k kr
def xz (C:Cx) : Code→tV→(ρ : Type)→SS→(Exit→SS→Option ρ)→(bc C.rs→Option ρ)→Option ρ
 | .skip,_,_,s,k,_=>k .normal s
 | .label _,_,_,s,k,_=>k .normal s
 | .exit id,_,_,s,k,_=>k (.exit id) s
 | .ret,_,_,s,_,kr=>Option.bind (Cg C s) kr
 | .region id ops draw,h,ρ,s,k,kr=>Hu C (ci ops.toList) h (fun _ s k _=>XM C id ops draw s fun s=>k .normal s) ρ s k kr
 | .seq a b,h,ρ,s,k,kr=>Hu C (wrC a++wrC b) h (fun ρ s k kr=>xz C a h.l ρ s (fun e s'=>match e with | .normal=>xz C b h.r ρ s' k kr | e=>k e s') kr) ρ s k kr
 | .cond c a b,h,ρ,s,k,kr=>Hu C (wrC (.cond c a b)) h (fun ρ s k kr=>match evX s c with
   | .d (.bool t)=>if t=true then xz C a h.l ρ (wJ s c true) k kr else xz C b h.r ρ (wJ s c false) k kr
   | _=>none) ρ s k kr
 | .block id c,h,ρ,s,k,kr=>Hu C (wrC c) h (fun ρ s k kr=>xz C c h.l ρ s (fun e s'=>match e with | .exit id'=>(match Nat.beq id' id with | true=>k .normal s' | false=>k (.exit id') s') | e=>k e s') kr) ρ s k kr
 | .loop c,.lp ms id ret hb,_,s,k,kr=>match Pc (wrC c) ms (clr s) with
  | none=>none
  | some s0=>chk (sU C.sc (wrC c) ms s.pr s0) (match tG s0 ms with
   | none=>none
   | some st0=>match ret with
    | false=>Option.bind (ah (fun st=>match jH ms st (cf C.sc (wrC c) ms s0) with
      | none=>none
      | some sh=>xz C c hb (jO ms⊕jO ms) sh (fun e s'=>match e with
       | .normal=>Option.bind (qG ms s') fun st'=>some (.inl st')
       | .exit id'=>(match Nat.beq id' id with | true=>Option.bind (qG ms s') fun st'=>some (.inr st') | false=>none)
       | _=>none) (fun _=>none)) ab st0) fun st=>match jH ms st (cf C.sc (wrC c) ms s0) with
      | some s2=>k (.exit id) ⟨s2.sl,s2.bx,s.pr,s.ro,s.oc⟩
      | none=>none
    | true=>Option.bind (ah (fun st=>match jH ms st (cf C.sc (wrC c) ms s0) with
      | none=>none
      | some sh=>xz C c hb (jO ms⊕(jO ms⊕bc C.rs)) sh (fun e s'=>match e with
       | .normal=>Option.bind (qG ms s') fun st'=>some (.inl st')
       | .exit id'=>(match Nat.beq id' id with | true=>Option.bind (qG ms s') fun st'=>some (.inr (.inl st')) | false=>none)
       | _=>none) (fun r=>some (.inr (.inr r)))) ab st0) fun o=>match o with
      | .inr r=>kr r
      | .inl st=>match jH ms st (cf C.sc (wrC c) ms s0) with
       | some s2=>k (.exit id) ⟨s2.sl,s2.bx,s.pr,s.ro,s.oc⟩
       | none=>none)
 | _,_,_,_,_,_=>none
def Bv:Nat→List SV→List (Nat×SV)
 | _,[]=>[]
 | i,v::vs=>(i,v)::Bv (i + 1) vs
def gz (C:Cx) (c:Code) (h:tV) (ps:List PT) (x:ct ps) : Option (bc C.rs) :=
 xz C c h (bc C.rs) ⟨Bv 0 (Co ps x),[],[],false,[]⟩ (fun e s=>match e with | .normal=>Cg C s | _=>none) (fun r=>some r)
def mz (i:Nat) : PT→List Nat
 | .own ..=>[tS i]
 | .mv ..=>[900000 + 64 * i]
 | .bx _ _ rows=>tS i::List.range' (900000 + 64 * i) rows.length
 | .agr _ rows=>List.range' (900000 + 64 * i) rows.length
 | _=>[]
def bg:Nat→List PT→List (List Nat)
 | _,[]=>[]
 | i,p::ps=>mz i p::bg (i + 1) ps
def ZY:PT→IB→Bool
 | .own ..,.own ..=>true
 | .bx ..,.bx ..=>true
 | .own ..,_=>false
 | .bx ..,_=>false
 | .agr ..,_=>false
 | .io _,_=>false
 | _,.no=>true
 | _,_=>false
def OO:List PT→List IB→Bool
 | [],[]=>true
 | p::ps,b::ls=>match ZY p b with | true=>OO ps ls | false=>false
 | _,_=>false
def Ro (C:Cx) (c:Code) (h:tV) (ps:List PT) (x:ct ps) : Option (bc C.rs):=match MC ps (bg 0 ps) x with
 | some (vs,bx)=>chk (sS (idU bx)) (xz C c h (bc C.rs) ⟨Bv 0 vs,bx,[],false,[]⟩ (fun e s=>match e with | .normal=>Cg C s | _=>none) (fun r=>some r))
 | none=>none
end
section
theorem ao {ρ : Type} {b:Bool} {k:Option ρ} {r : ρ} (h:chk b k=some r) : b=true∧k=some r:=by
 cases b
 ·cases h
 ·exact ⟨rfl,h⟩
theorem cQ (j:Nat) (v:SV) (l:List (Nat×SV)) (i:Nat) : lkV ((j,v)::l) i=if i=j then v else lkV l i:=by
 simp only [lkV]
 by_cases h:i=j
 ·subst h; simp
 ·have:Nat.beq i j=false:=by rw [← Bool.not_eq_true,Nat.beq_eq]; exact h
  rw [this,if_neg h]
theorem ar (j:Nat) (v:Option a6) (l:List (Nat×Option a6)) (i:Nat) : lkB ((j,v)::l) i=if i=j then v else lkB l i:=by
 simp only [lkB]
 by_cases h:i=j
 ·subst h; simp
 ·have:Nat.beq i j=false:=by rw [← Bool.not_eq_true,Nat.beq_eq]; exact h
  rw [this,if_neg h]
theorem rK (j:Nat) (v:Pin) (l:List (Nat×Pin)) (i:Nat) : lkP ((j,v)::l) i=if i=j then some v else lkP l i:=by
 simp only [lkP]
 by_cases h:i=j
 ·subst h; simp
 ·have:Nat.beq i j=false:=by rw [← Bool.not_eq_true,Nat.beq_eq]; exact h
  rw [this,if_neg h]
theorem cR (a b:Nat) : Nat.beq a b=decide (a=b):=by
 by_cases h:a=b
 ·subst h; simp
 ·have:Nat.beq a b=false:=by rw [← Bool.not_eq_true,Nat.beq_eq]; exact h
  simp [this,h]
theorem vA (l:List (Nat×SV)) (dst:Option Nat) (v:SV) (i:Nat) : lkV (sH l dst v) i=if dst=some i then v else lkV l i:=by
 cases dst with
 | none=>simp [sH]
 | some d =>
  simp only [sH,cQ,Option.some.injEq]
  by_cases h:i=d
  ·subst h; simp
  ·rw [if_neg h,if_neg (Ne.symm h)]
theorem JU:∀ cs:List SD,A4 cs=cs.map .d
 | []=>rfl
 | c::cs=>by simp [A4,JU cs]
theorem pG:∀ (t:Ty) (x:t.den),(bR t x).length=tyN t
 | .int _,_=>rfl
 | .bool,_=>rfl
 | .str,_=>rfl
 | .sl _,_=>rfl
 | .st i,x=>XE i x
theorem Dv:∀ (t:Ty) (x:t.den),(Bj t x).map SD.toD=bR t x
 | .int _,_=>rfl
 | .bool,_=>rfl
 | .str,_=>rfl
 | .sl _,_=>rfl
 | .st i,x=>ua i x
theorem R8:∀ (t:Ty) (x:t.den),∀ c∈Bj t x,c≠.nl
 | .int _,_,c,h=>by simp [Bj] at h; subst h; exact fun e=>by cases e
 | .bool,_,c,h=>by simp [Bj] at h; subst h; exact fun e=>by cases e
 | .str,_,c,h=>by simp [Bj] at h; subst h; exact fun e=>by cases e
 | .sl _,_,c,h=>by simp [Bj] at h; subst h; exact fun e=>by cases e
 | .st i,x,c,h=>xa i x c h
theorem dC {α : Type} {x : α} {Q:Prop} (h:(none:Option α)=some x) : Q:=by cases h
theorem Kf:∀ {t:Ty} {cs:List SD} {x:t.den},Yt t cs=some x→cs.map SD.toD=bR t x
 | .st i,cs,x,h=>AK h
 | .int k,[],x,h=>dC (x:=x) h
 | .int k,[c],x,h=>(SD.as_ok (t:=(.int k)) h).symm
 | .int k,_ :: _ :: _,x,h=>dC (x:=x) h
 | .bool,[],x,h=>dC (x:=x) h
 | .bool,[c],x,h=>(SD.as_ok (t:=.bool) h).symm
 | .bool,_ :: _ :: _,x,h=>dC (x:=x) h
 | .str,[],x,h=>dC (x:=x) h
 | .str,[c],x,h=>(SD.as_ok (t:=.str) h).symm
 | .str,_ :: _ :: _,x,h=>dC (x:=x) h
 | .sl t,[],x,h=>dC (x:=x) h
 | .sl t,[c],x,h=>(SD.as_ok (t:=(.sl t)) h).symm
 | .sl t,_ :: _ :: _,x,h=>dC (x:=x) h
def Lk:SD→D→Prop
 | .nl,y=>y = .v (.slice none 0 0)
 | c,y=>nrm y=c.toD
theorem Lk.nrm {c:SD} {y:D} (h:Lk c y) : nrm y=c.toD:=by
 cases c <;> first | exact h | (cases h; rfl)
theorem Lk.of {c:SD} (hc:c≠.nl) : Lk c c.toD:=by
 cases c <;> first | rfl | exact absurd rfl hc
theorem VJ {y:D} {x:Value} (h:nrm y = .v x) : y = .v x:=by
 unfold Go.Proofs.YtchddofjajgopaaGreat.nrm at h
 split at h
 ·cases h
 ·exact h
theorem Zv {y:D} {es:List (List D)} (h:nrm y = .sl es) : y = .sl es∨(es = []∧y = .v (.slice none 0 0)):=by
 unfold Go.Proofs.YtchddofjajgopaaGreat.nrm at h
 split at h
 ·injection h with h; exact .inr ⟨h.symm,rfl⟩
 ·exact .inl h
inductive be (B:List (Nat×Option a6)) : SV→PV→Prop
 | junk (q:PV) : be B .junk q
 | d (c:SD) (y:D) (h:Lk c y) : be B (.d c) (.d y)
 | ag (cs:List SV) (qs:List PV) (hl:cs.length=qs.length) (hr:∀ (j:Nat) c q,cs[j]? = some c→qs[j]? = some q→be B c q) : be B (.ag cs) (.ag qs)
 | tup (cs:List SV) (qs:List PV) (hl:cs.length=qs.length) (hr:∀ (j:Nat) c q,cs[j]? = some c→qs[j]? = some q→be B c q) : be B (.tup cs) (.tup qs)
 | ptr (t o:Nat) (ty:TypeId) (cs:List SV) (hb:lkB B t=some (.st ty cs)) : be B (.ptr t o) (.ptr t o)
 | row (t n e k:Nat) (ty:Ty) (xs:List ty.den) (pins:List (Nat×Pin)) (hb:lkB B t=some (.rw e k ty xs pins)) (hn:xs.length=n) : be B (.row t) (.row t n)
 | re (t p o n i e k:Nat) (ty:Ty) (xs:List ty.den) (pins:List (Nat×Pin)) (pin:Pin) (hb:lkB B t=some (.rw e k ty xs pins)) (hn:xs.length=n) (hp:lkP pins p=some pin) (hi:i=pin.i.toNat) : be B (.re t p o) (.re t n i o)
 | vw (t lo hi n e k:Nat) (ty:Ty) (xs:List ty.den) (pins:List (Nat×Pin)) (hb:lkB B t=some (.rw e k ty xs pins)) (hn:xs.length=n) : be B (.vw t lo hi) (.vw t n lo hi)
 | fe (cs:List SD) (ds:List D) (h:ds=cs.map SD.toD) (hn:∀ c∈cs,c≠.nl) : be B (.fe cs) (.fe ds)
 | fn (f:FuncId) (ps qs:List SV) (ps' qs':List PV) (hl:ps.length=ps'.length) (hr:∀ (j:Nat) c q,ps[j]? = some c→ps'[j]? = some q→be B c q) (hl2:qs.length=qs'.length) (hr2:∀ (j:Nat) c q,qs[j]? = some c→qs'[j]? = some q→be B c q) : be B (.fn f ps qs) (.fn f ps' qs')
structure bZ (B:List (Nat×Option a6)) (cs:List SV) (qs:List PV) : Prop where
 len:cs.length=qs.length
 rep:∀ (j:Nat) c q,cs[j]? = some c→qs[j]? = some q→be B c q
def ZP (ty:Ty) (xs:List ty.den) (pins:List (Nat×Pin)) : Prop:=∀ p pin,lkP pins p=some pin→pin.i.toNat < xs.length∧∀ cs,pin.cs=some cs→∃ x,xs[pin.i.toNat]? = some x∧cs=Bj ty x
def mj (B:List (Nat×Option a6)) (oc:Bool) : Option a6→Option Box→Prop
 | none,q=>oc=false→q=none
 | some (.st ty cs),q=>∃ qs,q=some (.st ty qs)∧bZ B cs qs
 | some (.rw e k ty xs pins),q=>q=some (.rw e k (xs.map (bR ty)))∧ZP ty xs pins
structure Sim (s:SS) (p:PS) : Prop where
 sl:∀ i,be s.bx (lkV s.sl i) (p.t i)
 bx:∀ t,mj s.bx (aD s.oc t) (lkB s.bx t) (p.b t)
structure BLe (B B':List (Nat×Option a6)) : Prop where
 rw:∀ t e k ty xs pins,lkB B t=some (.rw e k ty xs pins)→∃ e' k' ty' xs' pins',lkB B' t=some (.rw e' k' ty' xs' pins')∧xs'.length=xs.length∧∀ p pin,lkP pins p=some pin→∃ pin',lkP pins' p=some pin'∧pin'.i=pin.i
 st:∀ t ty cs,lkB B t=some (.st ty cs)→∃ ty' cs',lkB B' t=some (.st ty' cs')
theorem BLe.refl (B:List (Nat×Option a6)) : BLe B B:=⟨fun _ e k ty xs pins h=>⟨e,k,ty,xs,pins,h,rfl,fun _ pin hp=>⟨pin,hp,rfl⟩⟩,fun _ ty cs h=>⟨ty,cs,h⟩⟩
theorem be.mono {B B':List (Nat×Option a6)} {v:SV} {q:PV} (h:be B v q) (hB:BLe B B') : be B' v q:=by
 induction h with
 | junk q=>exact .junk q
 | d c y h=>exact .d c y h
 | ag cs qs hl hr ih=>exact .ag cs qs hl ih
 | tup cs qs hl hr ih=>exact .tup cs qs hl ih
 | ptr t o ty cs hb=>obtain ⟨ty',cs',h1⟩:=hB.st t ty cs hb; exact .ptr t o ty' cs' h1
 | row t n e k ty xs pins hb hn =>
  obtain ⟨e',k',ty',xs',pins',h1,h2,h3⟩:=hB.rw t e k ty xs pins hb
  exact .row t n e' k' ty' xs' pins' h1 (h2.trans hn)
 | re t p o n i e k ty xs pins pin hb hn hp hi =>
  obtain ⟨e',k',ty',xs',pins',h1,h2,h3⟩:=hB.rw t e k ty xs pins hb
  obtain ⟨pin',h4,h5⟩:=h3 p pin hp
  exact .re t p o n i e' k' ty' xs' pins' pin' h1 (h2.trans hn) h4 (by rw [h5]; exact hi)
 | vw t lo hi n e k ty xs pins hb hn =>
  obtain ⟨e',k',ty',xs',pins',h1,h2,h3⟩:=hB.rw t e k ty xs pins hb
  exact .vw t lo hi n e' k' ty' xs' pins' h1 (h2.trans hn)
 | fe cs ds h hn=>exact .fe cs ds h hn
 | fn f ps qs ps' qs' hl hr hl2 hr2 ih ih2=>exact .fn f ps qs ps' qs' hl ih hl2 ih2
theorem bZ.mono {B B':List (Nat×Option a6)} {cs:List SV} {qs:List PV} (h:bZ B cs qs) (hB:BLe B B') : bZ B' cs qs:=⟨h.len,fun j c q h1 h2=>(h.rep j c q h1 h2).mono hB⟩
theorem mj.mono {B B':List (Nat×Option a6)} {oc:Bool} {b:Option a6} {q:Option Box} (h:mj B oc b q) (hB:BLe B B') : mj B' oc b q:=by
 cases b with
 | none=>exact h
 | some b=>cases b with
  | st ty cs=>obtain ⟨qs,h1,h2⟩:=h; exact ⟨qs,h1,h2.mono hB⟩
  | rw e k ty xs pins=>exact h
variable {B:List (Nat×Option a6)}
theorem bZ.nil:bZ B [] []:=⟨rfl,fun j c q h=>by simp at h⟩
theorem bZ.cons {c:SV} {q:PV} {cs:List SV} {qs:List PV} (h:be B c q) (hs:bZ B cs qs) : bZ B (c::cs) (q::qs) :=
 ⟨by simp [hs.len],fun j c' q' h1 h2=>by
  cases j with
  | zero=>simp at h1 h2; subst h1 h2; exact h
  | succ j=>simp at h1 h2; exact hs.rep j _ _ h1 h2⟩
theorem bZ.head {c:SV} {q:PV} {cs:List SV} {qs:List PV} (h:bZ B (c::cs) (q::qs)) : be B c q:=h.rep 0 c q rfl rfl
theorem bZ.tail {c:SV} {q:PV} {cs:List SV} {qs:List PV} (h:bZ B (c::cs) (q::qs)) : bZ B cs qs :=
 ⟨by have:=h.len; simpa using this,fun j c' q' h1 h2=>h.rep (j + 1) c' q' (by simpa using h1) (by simpa using h2)⟩
theorem bZ.cases {cs:List SV} {qs:List PV} (h:bZ B cs qs) : (cs = []∧qs = [])∨∃ c q cs' qs',cs=c::cs'∧qs=q::qs'∧be B c q∧bZ B cs' qs':=by
 cases cs with
 | nil=>cases qs with
  | nil=>exact .inl ⟨rfl,rfl⟩
  | cons q qs=>have:=h.len; simp at this
 | cons c cs=>cases qs with
  | nil=>have:=h.len; simp at this
  | cons q qs=>exact .inr ⟨c,q,cs,qs,rfl,rfl,h.head,h.tail⟩
theorem bZ.take {cs:List SV} {qs:List PV} (h:bZ B cs qs) (n:Nat) : bZ B (cs.take n) (qs.take n) :=
 ⟨by simp [h.len],fun j c q h1 h2=>by
  rw [List.getElem?_take] at h1 h2
  split at h1
  ·rename_i hj; rw [if_pos hj] at h2; exact h.rep j c q h1 h2
  ·cases h1⟩
theorem bZ.drop {cs:List SV} {qs:List PV} (h:bZ B cs qs) (n:Nat) : bZ B (cs.drop n) (qs.drop n) :=
 ⟨by simp [h.len],fun j c q h1 h2=>by
  rw [List.getElem?_drop] at h1 h2
  exact h.rep _ c q h1 h2⟩
theorem bZ.append {cs ds:List SV} {qs ws:List PV} (h:bZ B cs qs) (h':bZ B ds ws) : bZ B (cs++ds) (qs++ws) :=
 ⟨by simp [h.len,h'.len],fun j c q h1 h2=>by
  rw [List.getElem?_append] at h1 h2
  rw [h.len] at h1
  split at h1
  ·rename_i hj; rw [if_pos hj] at h2; exact h.rep j c q h1 h2
  ·rename_i hj; rw [if_neg hj] at h2; exact h'.rep _ c q h1 h2⟩
theorem mC {α : Type} : ∀ (cs:List α) (o:Nat) (ns:List α),o + ns.length≤cs.length→nh cs o ns=splice cs o ns
 | [],0,[],_=>rfl
 | [],0,n::ns,h=>by simp at h
 | [],o + 1,ns,h=>by simp at h
 | c::cs,0,[],_=>by simp [nh,splice]
 | c::cs,0,n::ns,h=>by
  simp only [nh]
  rw [mC cs 0 ns (by simp at h ⊢; omega)]
  simp [splice]
 | c::cs,o + 1,ns,h=>by
  simp only [nh]
  rw [mC cs o ns (by simp at h ⊢; omega)]
  unfold splice
  rw [show o + 1 + ns.length=(o + ns.length) + 1 by omega]
  simp
theorem bZ.splice {cs ns:List SV} {qs ws:List PV} (h:bZ B cs qs) (h':bZ B ns ws) (o:Nat) : bZ B (Go.Proofs.YtchddofjajgopaaGreat.splice cs o ns) (Go.Proofs.YtchddofjajgopaaGreat.splice qs o ws):=by
 unfold Go.Proofs.YtchddofjajgopaaGreat.splice
 rw [h'.len]
 exact ((h.take o).append h').append (h.drop _)
end
section
variable {B:List (Nat×Option a6)} {s:SS} {p:PS}
theorem k9 (hs:Sim s p) {dst:Option Nat} {v:SV} {q:PV} (hv:be s.bx v q) : Sim (s.upd dst v .no) (p.upd dst q none):=by
 refine ⟨fun i=>?_,fun t=>hs.bx t⟩
 show be s.bx (lkV (sH s.sl dst v) i) (w9 p.t dst q i)
 rw [vA]
 unfold w9
 split
 ·exact hv
 ·exact hs.sl i
theorem AL {sl:List (Nat×SV)} {pr oc:List Nat} {ro:Bool} {dst:Option Nat} {v:SV} {q:PV} {B':List (Nat×Option a6)} {u:Option (Nat×Box)} (h1:∀ i,dst≠some i→be B' (lkV sl i) (p.t i)) (h2:∀ t,mj B' (aD oc t) (lkB B' t) (dj p.b u t)) (hv:be B' v q) :
  Sim ⟨sH sl dst v,B',pr,ro,oc⟩ (p.upd dst q u):=by
 refine ⟨fun i=>?_,h2⟩
 show be B' (lkV (sH sl dst v) i) (w9 p.t dst q i)
 rw [vA]
 unfold w9
 split
 ·exact hv
 ·rename_i h; exact h1 i h
theorem oM (hs:Sim s p) {pr:List Nat} {ro:Bool} {dst:Option Nat} {v:SV} {q:PV} {t:Nat} {b:a6} {b':Box} (hB:BLe s.bx ((t,some b)::s.bx)) (hb:∀ oc,mj ((t,some b)::s.bx) oc (some b) (some b')) (hv:be ((t,some b)::s.bx) v q) :
  Sim ⟨sH s.sl dst v,(t,some b)::s.bx,pr,ro,s.oc⟩ (p.upd dst q (some (t,b'))):=by
 refine AL (fun i _=>(hs.sl i).mono hB) (fun t'=>?_) hv
 rw [ar]
 simp only [dj]
 split
 ·exact hb _
 ·exact (hs.bx t').mono hB
theorem XG (hs:Sim s p) {pr:List Nat} {ro:Bool} {dst:Option Nat} {v:SV} {q:PV} {t:Nat} {b:a6} (hB:BLe s.bx ((t,some b)::s.bx)) (hb:∀ oc,mj ((t,some b)::s.bx) oc (some b) (p.b t)) (hv:be ((t,some b)::s.bx) v q) :
  Sim ⟨sH s.sl dst v,(t,some b)::s.bx,pr,ro,s.oc⟩ (p.upd dst q none):=by
 refine AL (fun i _=>(hs.sl i).mono hB) (fun t'=>?_) hv
 rw [ar]
 simp only [dj]
 split
 ·rename_i h; subst h; exact hb _
 ·exact (hs.bx t').mono hB
theorem qP {b:a6} {t:Nat} (h:lkB B t=none) : BLe B ((t,some b)::B):=by
 refine ⟨fun t' e k ty xs pins h1=>?_,fun t' ty cs h1=>?_⟩
 ·have : ¬ t' = t:=fun e=>by rw [e,h] at h1; cases h1
  exact ⟨e,k,ty,xs,pins,by rw [ar,if_neg this]; exact h1,rfl,fun _ pin hp=>⟨pin,hp,rfl⟩⟩
 ·have : ¬ t' = t:=fun e=>by rw [e,h] at h1; cases h1
  exact ⟨ty,cs,by rw [ar,if_neg this]; exact h1⟩
theorem Po {ty ty':TypeId} {cs cs':List SV} {t:Nat} (h:lkB B t=some (.st ty cs)) : BLe B ((t,some (.st ty' cs'))::B):=by
 refine ⟨fun t' e k ty xs pins h1=>?_,fun t' ty2 cs2 h1=>?_⟩
 ·have : ¬ t' = t:=fun e=>by rw [e,h] at h1; cases h1
  exact ⟨e,k,ty,xs,pins,by rw [ar,if_neg this]; exact h1,rfl,fun _ pin hp=>⟨pin,hp,rfl⟩⟩
 ·rw [ar]
  split
  ·exact ⟨_,_,rfl⟩
  ·exact ⟨_,_,h1⟩
theorem Pp {e k:Nat} {ty:Ty} {xs xs':List ty.den} {pins pins':List (Nat×Pin)} {t:Nat} (h:lkB B t=some (.rw e k ty xs pins)) (hl:xs'.length=xs.length) (hp:∀ p pin,lkP pins p=some pin→∃ pin',lkP pins' p=some pin'∧pin'.i=pin.i) : BLe B ((t,some (.rw e k ty xs' pins'))::B):=by
 refine ⟨fun t' e2 k2 ty2 xs2 pins2 h1=>?_,fun t' ty2 cs2 h1=>?_⟩
 ·rw [ar]
  split
  ·rename_i ht
   subst ht
   rw [h] at h1
   injection h1 with h1
   injection h1 with e1 e2 e3 e4 e5
   subst e3
   have e4:=eq_of_heq e4
   subst e4 e5
   exact ⟨e,k,ty,xs',pins',rfl,hl,hp⟩
  ·exact ⟨e2,k2,ty2,xs2,pins2,h1,rfl,fun _ pin hp=>⟨pin,hp,rfl⟩⟩
 ·have : ¬ t' = t:=fun e=>by rw [e,h] at h1; cases h1
  exact ⟨_,_,by rw [ar,if_neg this]; exact h1⟩
def LA (t:Nat) : a6→a6
 | .st ty cs=>.st ty (iw t cs)
 | b=>b
theorem jl (t:Nat) : ∀ (l:List (Nat×Option a6)) (i:Nat),lkB (n5 t l) i=(lkB l i).map (LA t)
 | [],_=>rfl
 | (j,none)::l,i=>by simp only [n5,ar,jl t l i]; split <;> rfl
 | (j,some (.st ty cs))::l,i=>by simp only [n5,ar,jl t l i]; split <;> rfl
 | (j,some (.rw e k ty xs pins))::l,i=>by simp only [n5,ar,jl t l i]; split <;> rfl
theorem A6 (t:Nat) : ∀ (l:List (Nat×SV)) (i:Nat),lkV (DX t l) i=stale t (lkV l i)
 | [],_=>rfl
 | (j,v)::l,i=>by simp only [DX,cQ,A6 t l i]; split <;> rfl
theorem mA (t:Nat) : ∀ (cs:List SV) (j:Nat),(iw t cs)[j]? = (cs[j]?).map (stale t)
 | [],j=>by simp [iw]
 | c::cs,0=>by simp [iw]
 | c::cs,j + 1=>by simpa [iw] using mA t cs j
theorem kp (t:Nat) : ∀ cs:List SV,(iw t cs).length=cs.length
 | []=>rfl
 | c::cs=>by simp [iw,kp t cs]
structure U0 (t:Nat) (B B':List (Nat×Option a6)) : Prop where
 rw:∀ t',t'≠t→∀ e k ty xs pins,lkB B t' = some (.rw e k ty xs pins)→lkB B' t' = some (.rw e k ty xs pins)
 st:∀ t' ty cs,lkB B t' = some (.st ty cs)→∃ ty' cs',lkB B' t' = some (.st ty' cs')
theorem be.stale {B':List (Nat×Option a6)} {t:Nat} {v:SV} {q:PV} (h:be B v q) (hB:U0 t B B') : be B' (stale t v) q:=by
 induction h with
 | junk q=>exact .junk q
 | d c y h=>exact .d c y h
 | ag cs qs hl hr ih =>
  refine .ag _ qs (by rw [kp]; exact hl) (fun j c q h1 h2=>?_)
  rw [mA,zm] at h1
  obtain ⟨c',h3,rfl⟩:=h1
  exact ih j c' q h3 h2
 | tup cs qs hl hr ih =>
  refine .tup _ qs (by rw [kp]; exact hl) (fun j c q h1 h2=>?_)
  rw [mA,zm] at h1
  obtain ⟨c',h3,rfl⟩:=h1
  exact ih j c' q h3 h2
 | ptr t' o ty cs hb=>obtain ⟨ty',cs',h1⟩:=hB.st t' ty cs hb; exact .ptr t' o ty' cs' h1
 | row t' n e k ty xs pins hb hn =>
  simp only [Go.Proofs.YtchddofjajgopaaGreat.stale,cR]
  by_cases h:t' = t
  ·simp only [h,decide_true]; exact .junk _
  ·simp only [h,decide_false]; exact .row t' n e k ty xs pins (hB.rw t' h _ _ _ _ _ hb) hn
 | re t' p o n i e k ty xs pins pin hb hn hp hi =>
  simp only [Go.Proofs.YtchddofjajgopaaGreat.stale,cR]
  by_cases h:t' = t
  ·simp only [h,decide_true]; exact .junk _
  ·simp only [h,decide_false]; exact .re t' p o n i e k ty xs pins pin (hB.rw t' h _ _ _ _ _ hb) hn hp hi
 | vw t' lo hi n e k ty xs pins hb hn =>
  simp only [Go.Proofs.YtchddofjajgopaaGreat.stale,cR]
  by_cases h:t' = t
  ·simp only [h,decide_true]; exact .junk _
  ·simp only [h,decide_false]; exact .vw t' lo hi n e k ty xs pins (hB.rw t' h _ _ _ _ _ hb) hn
 | fe cs ds h hn=>exact .fe cs ds h hn
 | fn f ps qs ps' qs' hl hr hl2 hr2 ih ih2 =>
  refine .fn f _ _ ps' qs' (by rw [kp]; exact hl) (fun j c q h1 h2=>?_) (by rw [kp]; exact hl2) (fun j c q h1 h2=>?_)
  ·rw [mA,zm] at h1
   obtain ⟨c',h3,rfl⟩:=h1
   exact ih j c' q h3 h2
  ·rw [mA,zm] at h1
   obtain ⟨c',h3,rfl⟩:=h1
   exact ih2 j c' q h3 h2
theorem bZ.stale {B':List (Nat×Option a6)} {t:Nat} {cs:List SV} {qs:List PV} (h:bZ B cs qs) (hB:U0 t B B') : bZ B' (iw t cs) qs :=
 ⟨by rw [kp]; exact h.len,fun j c q h1 h2=>by
  rw [mA,zm] at h1
  obtain ⟨c',h3,rfl⟩:=h1
  exact (h.rep j c' q h3 h2).stale hB⟩
theorem Vf (hs:Sim s p) {dst:Option Nat} {v:SV} {q:PV} {t e k:Nat} {ty:Ty} {zs xs0:List ty.den} {pins0:List (Nat×Pin)} (h0:lkB s.bx t=some (.rw e k ty xs0 pins0)) (hv:be ((t,some (.rw e k ty zs []))::n5 t s.bx) v q) :
  Sim (s.upd dst v (.grow t (.rw e k ty zs []))) (p.upd dst q (some (t,.rw e k (zs.map (bR ty))))):=by
 have hX:U0 t s.bx ((t,some (.rw e k ty zs []))::n5 t s.bx):=by
  refine ⟨fun t' ht e2 k2 ty2 xs2 pins2 h=>?_,fun t' ty2 cs2 h=>?_⟩
  ·rw [ar,if_neg ht,jl,h]
   rfl
  ·have : ¬ t' = t:=fun e=>by rw [e,h0] at h; cases h
   rw [ar,if_neg this,jl,h]
   exact ⟨_,_,rfl⟩
 refine AL (fun i _=>?_) (fun t'=>?_) hv
 ·rw [A6]
  exact (hs.sl i).stale hX
 ·rw [ar]
  simp only [dj]
  split
  ·exact ⟨rfl,fun p pin h=>by cases h⟩
  ·rename_i ht
   rw [jl]
   have h:=hs.bx t'
   cases hb:lkB s.bx t' with
   | none=>rw [hb] at h; exact h
   | some b =>
    rw [hb] at h
    cases b with
    | st ty2 cs=>obtain ⟨qs,h1,h2⟩:=h; exact ⟨qs,h1,h2.stale hX⟩
    | rw e2 k2 ty2 xs2 pins2=>exact h
def kO:Option a6→Option a6→Prop
 | some (.rw e k ty xs _),b=>∃ pins',b=some (.rw e k ty xs pins')
 | a,b=>b=a
theorem kO.refl (a:Option a6) : kO a a:=by
 match a with
 | none=>rfl
 | some (.st _ _)=>rfl
 | some (.rw _ _ _ _ pins)=>exact ⟨pins,rfl⟩
theorem kO.trans {a b c:Option a6} (h:kO a b) (h':kO b c) : kO a c:=by
 match a,h with
 | none,h=>cases h; exact h'
 | some (.st _ _),h=>cases h; exact h'
 | some (.rw _ _ _ _ _),⟨pins,h⟩ =>
  subst h
  obtain ⟨pins',h'⟩:=h'
  exact ⟨pins',h'⟩
mutual
def lb (pr:List Nat) : SV→Bool
 | .row t=>aD pr t
 | .re _ _ _=>false
 | .vw _ _ _=>false
 | .ag cs=>dV pr cs
 | .tup cs=>dV pr cs
 | .fn _ ps qs=>dV pr ps&&dV pr qs
 | _=>true
def dV (pr:List Nat) : List SV→Bool
 | []=>true
 | c::cs=>lb pr c&&dV pr cs
end
structure dA (sc W:List Nat) (s s':SS) : Prop where
 pr:s'.pr=s.pr
 ro:s'.ro=s.ro
 bx:∀ t,aD s.pr t=true→kO (lkB s.bx t) (lkB s'.bx t)
 sl:∀ i,aD W i=false→lb s.pr (lkV s.sl i)=true→lkV s'.sl i=lkV s.sl i
 st:∀ t,aD sc t=true→∀ ty cs,lkB s.bx t=some (.st ty cs)→∃ cs',lkB s'.bx t=some (.st ty cs')∧cs'.length=cs.length
variable {sc:List Nat}
theorem dA.refl (W:List Nat) (s:SS) : dA sc W s s:=⟨rfl,rfl,fun _ _=>.refl _,fun _ _ _=>rfl,fun _ _ _ cs h=>⟨cs,h,rfl⟩⟩
theorem dA.trans {W:List Nat} {s s' s'':SS} (h:dA sc W s s') (h':dA sc W s' s'') : dA sc W s s'' :=
 ⟨h'.pr.trans h.pr,h'.ro.trans h.ro,fun t ht=>(h.bx t ht).trans (h'.bx t (by rw [h.pr]; exact ht)),fun i hi hsf=>by
  have e:=h.sl i hi hsf
  rw [h'.sl i hi (by rw [e,h.pr]; exact hsf),e],fun t ht ty cs h1=>by
  obtain ⟨cs1,h2,h3⟩:=h.st t ht ty cs h1
  obtain ⟨cs2,h4,h5⟩:=h'.st t ht ty cs1 h2
  exact ⟨cs2,h4,h5.trans h3⟩⟩
theorem dA.wide {W W':List Nat} {s s':SS} (h:dA sc W s s') (hW:∀ i,aD W i=true→aD W' i=true) : dA sc W' s s' :=
 ⟨h.pr,h.ro,h.bx,fun i hi hsf=>h.sl i (by cases e:aD W i; rfl; rw [hW i e] at hi; cases hi) hsf,h.st⟩
theorem ye {s:SS} {t:Nat} (h:wrB s t=true) : s.ro=false∧aD s.pr t=false:=by
 unfold wrB at h
 split at h
 ·cases h
 ·rename_i h1; exact ⟨h1,by simpa using h⟩
theorem mH {s:SS} {t:Nat} (h:JS s t=true) : aD s.oc t=false∧aD s.pr t=false:=by
 unfold JS at h
 split at h
 ·cases h
 ·rename_i h1; exact ⟨h1,by simpa using h⟩
def OkU (s:SS) : Upd→Prop
 | .no=>True
 | .new t _=>aD s.pr t=false∧lkB s.bx t=none
 | .set t b=>aD s.pr t=false∧∀ ty cs,lkB s.bx t=some (.st ty cs)→∃ cs',b = .st ty cs'∧cs'.length=cs.length
 | .grow t _=>aD s.pr t=false∧∀ ty cs,lkB s.bx t≠some (.st ty cs)
 | .pin t b=>kO (lkB s.bx t) (some b)
def OkW (s:SS) (dst:Option Nat) (u:Upd) (w:Option (Nat×Box)) : Prop:=∀ t b,w=some (t,b)→((lkB s.bx t=none∧dst=some t)∨s.ro=false)∧fj.memL (U9 u) t=true
theorem dI {s:SS} {dst:Option Nat} {u:Upd} : OkW s dst u none:=fun _ _ h=>by cases h
theorem Es (t:Nat) : fj.memL [t] t=true:=by rw [A1]; simp
theorem yA {s:SS} {dst:Option Nat} {t:Nat} {b:Box} {sb:a6} (h:lkB s.bx t=none) (hd:dst=some t) : OkW s dst (.new t sb) (some (t,b)):=fun t' b' e=>by injection e with e; injection e with e1 e2; subst e1; exact ⟨.inl ⟨h,hd⟩,Es t⟩
theorem ON {s:SS} {dst:Option Nat} {t:Nat} {b:Box} {sb:a6} (h:s.ro=false) : OkW s dst (.set t sb) (some (t,b)):=fun t' b' e=>by injection e with e; injection e with e1 e2; subst e1; exact ⟨.inr h,Es t⟩
theorem Zt {s:SS} {dst:Option Nat} {t:Nat} {b:Box} {sb:a6} (h:s.ro=false) : OkW s dst (.grow t sb) (some (t,b)):=fun t' b' e=>by injection e with e; injection e with e1 e2; subst e1; exact ⟨.inr h,Es t⟩
theorem En {pr:List Nat} {t t':Nat} (ht:aD pr t=false) (h:aD pr t' = true) : ¬ t' = t:=fun e=>by rw [e,ht] at h; cases h
mutual
theorem DW {pr:List Nat} {t:Nat} (ht:aD pr t=false) : ∀ v:SV,lb pr v=true→stale t v=v
 | .junk,_=>rfl
 | .d _,_=>rfl
 | .fe _,_=>rfl
 | .ptr _ _,_=>rfl
 | .row t',h=>by
  have:=En ht (show aD pr t' = true from h)
  simp only [stale,cR,this,decide_false]
 | .re _ _ _,h=>by cases h
 | .vw _ _ _,h=>by cases h
 | .ag cs,h=>by simp only [stale]; rw [nA ht cs h]
 | .tup cs,h=>by simp only [stale]; rw [nA ht cs h]
 | .fn f ps qs,h=>by
  have h:(dV pr ps&&dV pr qs)=true:=h
  rw [Bool.and_eq_true] at h
  simp only [stale]; rw [nA ht ps h.1,nA ht qs h.2]
theorem nA {pr:List Nat} {t:Nat} (ht:aD pr t=false) : ∀ cs:List SV,dV pr cs=true→iw t cs=cs
 | [],_=>rfl
 | c::cs,h=>by
  simp only [dV,Bool.and_eq_true] at h
  simp only [iw]
  rw [DW ht c h.1,nA ht cs h.2]
end
mutual
theorem Lz {t:Nat} : ∀ v:SV,pw v=true→stale t v=v
 | .junk,_=>rfl
 | .d _,_=>rfl
 | .fe _,_=>rfl
 | .ptr _ _,_=>rfl
 | .row _,h=>by cases h
 | .re _ _ _,h=>by cases h
 | .vw _ _ _,h=>by cases h
 | .ag cs,h=>by simp only [stale]; rw [ji cs h]
 | .tup cs,h=>by simp only [stale]; rw [ji cs h]
 | .fn f ps qs,h=>by
  have h:(match cy ps with | true=>cy qs | false=>false)=true:=h
  split at h
  ·rename_i h1; simp only [stale]; rw [ji ps h1,ji qs h]
  ·cases h
theorem ji {t:Nat} : ∀ cs:List SV,cy cs=true→iw t cs=cs
 | [],_=>rfl
 | c::cs,h=>by
  simp only [cy] at h
  split at h
  ·rename_i h1
   simp only [iw]
   rw [Lz c h1,ji cs h]
  ·cases h
end
def mf (s:SS) : Prop:=∀ t,aD s.pr t=true→∃ b,lkB s.bx t=some b∧yw b=true
theorem dA.prOk {W:List Nat} {s s':SS} (h:dA sc W s s') (hp:mf s) : mf s':=by
 intro t ht
 rw [h.pr] at ht
 obtain ⟨b,h1,h2⟩:=hp t ht
 have:=h.bx t ht
 rw [h1] at this
 cases b with
 | st ty cs=>exact ⟨_,this,h2⟩
 | rw e k ty xs pins =>
  obtain ⟨pins',h3⟩:=this
  exact ⟨_,h3,rfl⟩
theorem yK {W:List Nat} {dst:Option Nat} {v:SV} {u:Upd} (hu:OkU s u) (hW:∀ d,dst=some d→aD W d=true) (hpr:mf s) : dA sc W s (s.upd dst v u):=by
 have sl:∀ i,aD W i=false→lkV (sH s.sl dst v) i=lkV s.sl i:=fun i hi=>by
  rw [vA,if_neg (fun e=>by rw [hW i e] at hi; cases hi)]
 have one:∀ t b,aD s.pr t=false→∀ t',aD s.pr t' = true→kO (lkB s.bx t') (lkB ((t,some b)::s.bx) t'):=fun t b ht t' ht'=>by
  rw [ar,if_neg (fun e=>by rw [e,ht] at ht'; cases ht')]
  exact .refl _
 cases u with
 | no=>exact ⟨rfl,rfl,fun _ _=>.refl _,fun i hi _=>sl i hi,fun _ _ _ cs h=>⟨cs,h,rfl⟩⟩
 | new t b =>
  refine ⟨rfl,rfl,one t b hu.1,fun i hi _=>sl i hi,fun t' _ ty cs h=>⟨cs,?_,rfl⟩⟩
  show lkB ((t,some b)::s.bx) t' = _
  rw [ar,if_neg (fun e=>by rw [e,hu.2] at h; cases h)]
  exact h
 | set t b =>
  refine ⟨rfl,rfl,one t b hu.1,fun i hi _=>sl i hi,fun t' _ ty cs h=>?_⟩
  show ∃ cs',lkB ((t,some b)::s.bx) t' = _∧_
  rw [ar]
  by_cases e:t' = t
  ·rw [if_pos e]
   rw [e] at h
   obtain ⟨cs',h1,h2⟩:=hu.2 ty cs h
   exact ⟨cs',by rw [h1],h2⟩
  ·rw [if_neg e]; exact ⟨cs,h,rfl⟩
 | pin t b =>
  refine ⟨rfl,rfl,fun t' _=>?_,fun i hi _=>sl i hi,fun t' _ ty cs h=>?_⟩
  ·show kO _ (lkB ((t,some b)::s.bx) t')
   rw [ar]
   split
   ·rename_i e; subst e; exact hu
   ·exact .refl _
  ·show ∃ cs',lkB ((t,some b)::s.bx) t' = _∧_
   rw [ar]
   by_cases e:t' = t
   ·rw [if_pos e]
    have hu:kO (lkB s.bx t) (some b):=hu
    rw [← e,h] at hu
    exact ⟨cs,hu,rfl⟩
   ·rw [if_neg e]; exact ⟨cs,h,rfl⟩
 | grow t b =>
  refine ⟨rfl,rfl,fun t' ht'=>?_,fun i hi hsf=>?_,fun t' _ ty cs h=>?_⟩
  ·show kO _ (lkB ((t,some b)::n5 t s.bx) t')
   rw [ar,if_neg (fun e=>by rw [e,hu.1] at ht'; cases ht'),jl]
   obtain ⟨b',h1,h2⟩:=hpr t' ht'
   rw [h1]
   cases b' with
   | st ty cs=>simp only [Option.map_some,LA]; rw [ji cs h2]; rfl
   | rw e k ty xs pins=>exact ⟨pins,rfl⟩
  ·show lkV (sH (DX t s.sl) dst v) i = _
   rw [vA,if_neg (fun e=>by rw [hW i e] at hi; cases hi),A6]
   exact DW hu.1 _ hsf
  ·show ∃ cs',lkB ((t,some b)::n5 t s.bx) t' = _∧_
   rw [ar,if_neg (fun e=>hu.2 ty cs (by rw [← e]; exact h)),jl,h]
   exact ⟨_,rfl,kp t cs⟩
end
section
variable {B:List (Nat×Option a6)} {s:SS} {p:PS} {P:Program} {ρ : Type}
theorem IT {v:Value} {c:SD} (h:IU v=some c) : Lk c (.v v)∧v.oneCell' = true:=by
 unfold IU at h
 split at h
 ·injection h with h; subst h; exact ⟨rfl,rfl⟩
 ·injection h with h; subst h; exact ⟨rfl,rfl⟩
 ·injection h with h; subst h; exact ⟨rfl,rfl⟩
 ·injection h with h; subst h; exact ⟨rfl,rfl⟩
 ·cases h
theorem xF {B:List (Nat×Option a6)} : ∀ {l:List Value} {cs:List SV},FF l=some cs→bZ B cs (l.map fun x=>.d (.v x))∧∀ x∈l,x.oneCell' = true
 | [],cs,h=>by injection h with h; subst h; exact ⟨.nil,fun x hx=>by cases hx⟩
 | v::l,cs,h=>by
  simp only [FF] at h
  split at h
  ·rename_i c cs' h1 h2
   injection h with h
   subst h
   obtain ⟨k1,k2⟩:=IT h1
   obtain ⟨k3,k4⟩:=xF h2
   refine ⟨.cons (.d _ _ k1) k3,fun x hx=>?_⟩
   rcases List.mem_cons.1 hx with rfl | hx
   ·exact k2
   ·exact k4 x hx
  ·cases h
theorem XV {v:Value} (e:El v = .d (.v v)) : be B (match IU v with | some c=>.d c | none=>.junk) (El v):=by
 split
 ·rename_i c h
  rw [e]
  exact .d _ _ (IT h).1
 ·exact .junk _
theorem Fw (v:Value) : be B (Km v) (El v):=by
 have key:=XV (B:=B) (v:=v)
 cases v with
 | agg xs =>
  simp only [Km]
  split
  ·rename_i cs h
   obtain ⟨h1,h2⟩:=xF (B:=B) h
   have:xs.all (·.oneCell')=true:=by
    rw [← Array.all_toList,List.all_eq_true]
    exact h2
   simp only [El,this,if_true]
   exact .ag _ _ h1.len h1.rep
  ·exact .junk _
 | tuple xs=>exact .junk _
 | _=>exact key rfl
theorem bW (hs:Sim s p) (x:Operand) : be s.bx (evX s x) (ev p x):=by
 cases x with
 | tmp i=>exact hs.sl i
 | const v=>exact Fw v
 | global g=>exact .junk _
 | func f=>exact .fn f [] [] [] [] rfl (fun j c q h=>by simp at h) rfl (fun j c q h=>by simp at h)
theorem kT {k:IntKind} {x:Int} {q:PV} (h:be B (.d (.int k x)) q) : q = .d (.v (.int k x)):=by
 cases h with
 | d c y h=>rw [VJ (show nrm y = .v _ from h)]
theorem kU {x:Bool} {q:PV} (h:be B (.d (.bool x)) q) : q = .d (.v (.bool x)):=by
 cases h with
 | d c y h=>rw [VJ (show nrm y = .v _ from h)]
theorem qS {x:ByteArray} {q:PV} (h:be B (.d (.str x)) q) : q = .d (.v (.string x)):=by
 cases h with
 | d c y h=>rw [VJ (show nrm y = .v _ from h)]
theorem Rb {q:PV} (h:be B (.d .nl) q) : q = .d (.v (.slice none 0 0)):=by
 cases h with
 | d c y h=>rw [show y = .v (.slice none 0 0) from h]
theorem Ra {ty:Ty} {xs:List ty.den} {q:PV} (h:be B (.d (.sl ty xs)) q) : q = .d (.sl (xs.map (bR ty)))∨(xs = []∧q = .d (.v (.slice none 0 0))):=by
 cases h with
 | d c y h =>
  rcases Zv (show nrm y = .sl _ from h) with h | ⟨h1,h2⟩
  ·rw [h]; exact .inl rfl
  ·rw [h2]; exact .inr ⟨by simpa using h1,rfl⟩
theorem Hv {cs:List SV} {q:PV} (h:be B (.ag cs) q) : ∃ qs,q = .ag qs∧bZ B cs qs:=by
 cases h with
 | ag _ qs hl hr=>exact ⟨qs,rfl,hl,hr⟩
theorem U2 {cs:List SV} {q:PV} (h:be B (.tup cs) q) : ∃ qs,q = .tup qs∧bZ B cs qs:=by
 cases h with
 | tup _ qs hl hr=>exact ⟨qs,rfl,hl,hr⟩
theorem fI (k:IntKind) (x:Int) : be B (.d (.int k x)) (.d (.v (.int k x))):=.d _ _ rfl
theorem eM (x:Bool) : be B (.d (.bool x)) (.d (.v (.bool x))):=.d _ _ rfl
theorem wD (x:ByteArray) : be B (.d (.str x)) (.d (.v (.string x))):=.d _ _ rfl
theorem Od (ty:Ty) (xs:List ty.den) : be B (.d (.sl ty xs)) (.d (.sl (xs.map (bR ty)))):=.d _ _ rfl
theorem JE (hs:Sim s p) {t:Nat} {q:PV} {c:SD} (hv:be s.bx (.row t) q) (h:XI s t=some c) : ∃ e k ty xs pins,lkB s.bx t=some (.rw e k ty xs pins)∧c = .sl ty xs∧q = .row t xs.length∧p.b t=some (.rw e k (xs.map (bR ty))):=by
 unfold XI at h
 split at h
 ·rename_i e k ty xs pins hb
  injection h with h
  have hbx:=hs.bx t
  rw [hb] at hbx
  cases hv with
  | row _ n e2 k2 ty2 xs2 pins2 hb2 hn =>
   rw [hb] at hb2
   injection hb2 with hb2
   injection hb2 with e1 e2 e3 e4 e5
   subst e3
   have e4:=eq_of_heq e4
   subst e4
   exact ⟨e,k,ty,xs,pins,hb,h.symm,by rw [hn],hbx.1⟩
 ·cases h
theorem Kk (hs:Sim s p) {v:SV} {q:PV} {ty:Ty} {xs:List ty.den} (hv:be s.bx v q) (h:rV s v=some (.sl ty xs)) : kS p.b q=some (xs.map (bR ty)):=by
 unfold rV at h
 split at h
 ·injection h with h
  subst h
  rcases Ra hv with rfl | ⟨rfl,rfl⟩
  ·rfl
  ·simp [kS]
 ·obtain ⟨e,k,ty2,xs2,pins,h1,h2,rfl,h4⟩:=JE hs hv h
  injection h2 with e1 e2
  subst e1
  have e2:=eq_of_heq e2
  subst e2
  simp [kS,h4]
 ·cases h
theorem Yz {v:SV} {q:PV} (hv:be s.bx v q) (h:rV s v=some .nl) : q = .d (.v (.slice none 0 0)):=by
 unfold rV at h
 split at h
 ·injection h with h
  subst h
  exact Rb hv
 ·unfold XI at h
  split at h
  ·injection h with h; cases h
  ·cases h
 ·cases h
theorem Ww (hs:Sim s p) {v:SV} {q:PV} {c:SD} (hv:be s.bx v q) (h:rV s v=some c) : asData p.b q = .d c.toD∧(pw v=true→clean q=true∧asData dM q = .d c.toD):=by
 unfold rV at h
 split at h
 ·injection h with h
  subst h
  cases hv with
  | d c y h=>simp only [asData,h.nrm,clean,and_self,implies_true]
 ·obtain ⟨e,k,ty2,xs2,pins,h1,rfl,rfl,h4⟩:=JE hs hv h
  refine ⟨by simp [asData,h4,SD.toD],fun h=>by simp [pw] at h⟩
 ·cases h
theorem Sj (hs:Sim s p) : ∀ {cs:List SV} {qs:List PV} {ds:List SD},bZ s.bx cs qs→Kj s cs=some ds→bM p.b qs=ds.map (fun c=>.d c.toD)∧(cy cs=true→cH qs=true∧bM dM qs=ds.map (fun c=>.d c.toD))
 | [],qs,ds,h,hd=>by
  rcases h.cases with ⟨_,rfl⟩ | ⟨_,_,_,_,h1,_⟩
  ·injection hd with hd; subst hd; simp [bM,cH]
  ·cases h1
 | c::cs,qs,ds,h,hd=>by
  rcases h.cases with ⟨h1,_⟩ | ⟨c',q,cs',qs',h1,rfl,h2,h3⟩
  ·cases h1
  ·injection h1 with e1 e2
   subst e1 e2
   simp only [Kj] at hd
   split at hd
   ·rename_i d ds' k1 k2
    injection hd with hd
    subst hd
    obtain ⟨m1,m2⟩:=Ww hs h2 k1
    obtain ⟨m3,m4⟩:=Sj hs h3 k2
    refine ⟨by simp [bM,m1,m3],fun hn=>?_⟩
    simp only [cy] at hn
    split at hn
    ·rename_i hn1
     obtain ⟨n1,n2⟩:=m2 hn1
     obtain ⟨n3,n4⟩:=m4 hn
     simp [bM,cH,n1,n2,n3,n4]
    ·cases hn
   ·cases hd
theorem Br {v:SV} {q:PV} {cs:List SV} (hv:be B v q) (h:Kv v=some cs) : ∃ qs,Bs q=some qs∧bZ B cs qs:=by
 cases hv with
 | junk q=>cases h
 | tup=>cases h
 | ag cs' qs hl hr=>injection h with h; subst h; exact ⟨qs,rfl,hl,hr⟩
 | d c y hd=>injection h with h; subst h; exact ⟨_,rfl,.cons (.d c y hd) .nil⟩
 | ptr t o ty cs' hb=>injection h with h; subst h; exact ⟨_,rfl,.cons (.ptr t o ty cs' hb) .nil⟩
 | row t n e k ty xs pins hb hn=>injection h with h; subst h; exact ⟨_,rfl,.cons (.row t n e k ty xs pins hb hn) .nil⟩
 | re t p o n i e k ty xs pins pin hb hn hp hi=>injection h with h; subst h; exact ⟨_,rfl,.cons (.re t p o n i e k ty xs pins pin hb hn hp hi) .nil⟩
 | vw t lo hi n e k ty xs pins hb hn=>injection h with h; subst h; exact ⟨_,rfl,.cons (.vw t lo hi n e k ty xs pins hb hn) .nil⟩
 | fe cs' ds hd hn=>injection h with h; subst h; exact ⟨_,rfl,.cons (.fe cs' ds hd hn) .nil⟩
 | fn f ps qs ps' qs' hl hr hl2 hr2=>injection h with h; subst h; exact ⟨_,rfl,.cons (.fn f ps qs ps' qs' hl hr hl2 hr2) .nil⟩
theorem LY {cs:List SV} {qs:List PV} (h:bZ B cs qs) {size:Nat} {agg:Bool} {v:SV} (hp:Rz size agg cs=some v) : ∃ q,HU size agg qs=some q∧be B v q:=by
 unfold Rz at hp
 unfold HU
 split at hp
 ·rename_i ha
  rw [if_pos ha]
  split at hp
  ·rename_i hl
   injection hp with hp
   subst hp
   rw [h.len] at hl
   rw [if_pos hl]
   have:=h.take size
   exact ⟨_,rfl,.ag _ _ this.len this.rep⟩
  ·cases hp
 ·rename_i ha
  rw [if_neg ha]
  rcases h.cases with ⟨rfl,rfl⟩ | ⟨c,q,cs',qs',rfl,rfl,h1,h2⟩
  ·cases hp
  ·injection hp with hp; subst hp; exact ⟨q,rfl,h1⟩
theorem Ev (cs:List SD) (h:∀ c∈cs,c≠.nl) : bZ B (A4 cs) ((cs.map SD.toD).map .d):=by
 induction cs with
 | nil=>exact .nil
 | cons c cs ih=>exact .cons (.d _ _ (Lk.of (h c List.mem_cons_self))) (ih fun c hc=>h c (List.mem_cons_of_mem _ hc))
end
section
variable {B:List (Nat×Option a6)} {s:SS} {p:PS} {P:Program} {ρ : Type}
def yd (s:SS) (k:SV→Option ρ) (res : ρ) (e:Option PV) : Prop:=∃ v q,e=some q∧k v=some res∧be s.bx v q
theorem dh {k:SV→Option ρ} {res : ρ} {e:Option PV} {v:SV} {q:PV} (he:e=some q) (hk:k v=some res) (hv:be s.bx v q) : yd s k res e:=⟨v,q,he,hk,hv⟩
theorem VU {x:Operand} {n:Int} {kd:IntKind} {y:Int} (h:V2 x=some n) (hy:evX s x = .d (.int kd y)) : y=n:=by
 unfold V2 at h
 split at h
 ·injection h with h
  subst h
  simp only [evX,Km,IU] at hy
  injection hy with hy
  injection hy with _ hy
  exact hy.symm
 ·cases h
theorem TS {op:BinOp} {kd:IntKind} {lit:Option Int} {x y:Int} {k:SV→Option ρ} {res : ρ} (hl:∀ n,lit=some n→y=n) (h:Pq op kd lit x y k=some res) : yd s k res (y5 op kd x y):=by
 cases op <;> simp only [Pq] at h
 case add=>exact dh rfl h (fI _ _)
 case sub=>exact dh rfl h (fI _ _)
 case mul=>exact dh rfl h (fI _ _)
 case quo =>
  split at h
  ·rename_i n
   obtain ⟨h1,h2⟩:=ao h
   have hy:=hl n rfl
   subst hy
   have : ¬ y=0:=by simpa using h1
   exact dh (by simp [y5,this]) h2 (fI _ _)
  ·obtain ⟨q,h1,h2⟩:=cM h
   split at h1
   ·cases h1
   ·rename_i hy
    injection h1 with h1
    subst h1
    exact dh (by simp [y5,hy]) h2 (fI _ _)
 case rem =>
  split at h
  ·rename_i n
   obtain ⟨h1,h2⟩:=ao h
   have hy:=hl n rfl
   subst hy
   have : ¬ y=0:=by simpa using h1
   exact dh (by simp [y5,this]) h2 (fI _ _)
  ·obtain ⟨q,h1,h2⟩:=cM h
   unfold CS at h1
   split at h1
   ·cases h1
   ·rename_i hy
    injection h1 with h1
    subst h1
    exact dh (by simp [y5,hy]) h2 (fI _ _)
 case eql=>exact dh rfl h (eM _)
 case neq=>exact dh rfl h (eM _)
 case lss=>exact dh rfl h (eM _)
 case leq=>exact dh rfl h (eM _)
 case gtr=>exact dh rfl h (eM _)
 case geq=>exact dh rfl h (eM _)
 case and=>exact dh rfl h (fI _ _)
 case or=>exact dh rfl h (fI _ _)
 case xor=>exact dh rfl h (fI _ _)
 all_goals cases h
theorem SM {op:BinOp} {kd:IntKind} {lit:Option Int} {x y:Int} {k:SV→Option ρ} {res : ρ} (hl:∀ n,lit=some n→y=n) (h:Oq op kd lit x y k=some res) : yd s k res (sK op kd x y):=by
 unfold Oq at h
 split at h
 ·rename_i n
  obtain ⟨h1,h2⟩:=ao h
  have hy:=hl n rfl
  subst hy
  have : ¬ y < 0:=by have:=zd h1; omega
  split at h2
  ·exact dh (by simp [sK,this]) h2 (fI _ _)
  ·exact dh (by simp [sK,this]) h2 (fI _ _)
  ·cases h2
 ·obtain ⟨u,h1,h2⟩:=cM h
  split at h1
  ·cases h1
  ·rename_i hy
   split at h2
   ·exact dh (by simp [sK,hy]) h2 (fI _ _)
   ·exact dh (by simp [sK,hy]) h2 (fI _ _)
   ·cases h2
theorem SF {op:BinOp} {x y:ByteArray} {k:SV→Option ρ} {res : ρ} (h:Oh op x y k=some res) : yd s k res (Lx op x y):=by
 cases op <;> simp only [Oh] at h
 case add =>
  obtain ⟨z,h1,h2⟩:=cM h
  unfold mq at h1
  split at h1
  ·rename_i hz
   injection h1 with h1
   subst h1
   exact dh (by simp only [Lx,hz,if_true]) h2 (wD _)
  ·cases h1
 case eql=>exact dh rfl h (eM _)
 case neq=>exact dh rfl h (eM _)
 case lss=>exact dh rfl h (eM _)
 case leq=>exact dh rfl h (eM _)
 case gtr=>exact dh rfl h (eM _)
 case geq=>exact dh rfl h (eM _)
 all_goals cases h
theorem Oe {op:BinOp} {x y:Bool} {k:SV→Option ρ} {res : ρ} (h:Js op x y k=some res) : yd s k res (qT op x y):=by
 cases op <;> simp only [Js] at h
 case eql=>exact dh rfl h (eM _)
 case neq=>exact dh rfl h (eM _)
 all_goals cases h
theorem Iv:∀ {l m:List Nat},J7 l m=true→l=m
 | [],[],_=>rfl
 | [],_ :: _,h=>by cases h
 | _ :: _,[],h=>by cases h
 | a::l,b::m,h=>by
  simp only [J7,cR] at h
  by_cases e:a=b
  ·simp only [e,decide_true] at h; rw [e,Iv h]
  ·simp only [e,decide_false] at h; cases h
theorem Iw {c d:SD} {q w:PV} {n:Nat} {r:Bool} (hc:be B (.d c) q) (hd:be B (.d d) w) (hn:OT (.d c)=some n) (h:sX c d=some r) : Bh n q w=some r:=by
 cases c with
 | int k a =>
  cases d <;> simp only [sX] at h <;> try cases h
  rw [kT hc,kT hd]
  injection hn with hn
  subst hn
  exact h
 | bool a =>
  cases d <;> simp only [sX] at h <;> try cases h
  rw [kU hc,kU hd]
  injection hn with hn
  subst hn
  rfl
 | str a =>
  cases d <;> simp only [sX] at h <;> try cases h
  rw [qS hc,qS hd]
  injection hn with hn
  subst hn
  rfl
 | sl t xs=>cases hn
 | nl=>cases hn
theorem Yk:∀ {cs ds:List SV} {qs ws:List PV} {l:List Nat} {r:Bool},bZ B cs qs→bZ B ds ws→Ds cs=some l→Cn cs ds=some r→jQ l qs ws=some r:=by
 intro cs
 induction cs with
 | nil=>intro ds qs ws l r _ _ _ h; cases ds <;> simp [Cn] at h
 | cons c cs ih =>
  intro ds qs ws l r hc hd hl h
  rcases hc.cases with ⟨h1,_⟩ | ⟨c',q,cs',qs',h1,rfl,hcq,hcs⟩
  ·cases h1
  injection h1 with e1 e2
  subst e1 e2
  rcases hd.cases with ⟨rfl,_⟩ | ⟨d,w,ds',ws',rfl,rfl,hdw,hds⟩
  ·cases c <;> cases cs <;> simp [Cn] at h
  simp only [Ds] at hl
  split at hl
  ·rename_i n l' hn hl'
   injection hl with hl
   subst hl
   cases c with
   | d c =>
    cases d with
    | d d =>
     by_cases hlast:cs = []∧ds' = []
     ·obtain ⟨rfl,rfl⟩:=hlast
      simp only [Cn] at h
      have:=Iw hcq hdw hn h
      rcases hcs.cases with ⟨_,rfl⟩ | ⟨_,_,_,_,h1,_⟩
      ·rcases hds.cases with ⟨_,rfl⟩ | ⟨_,_,_,_,h1,_⟩
       ·injection hl' with hl'
        subst hl'
        simp [jQ,this]
       ·cases h1
      ·cases h1
     ·have h:(match sX c d,Cn cs ds' with | some a,some r=>some (a&&r) | _,_=>none)=some r:=by
       cases cs with
       | nil=>cases ds' with
        | nil=>exact absurd ⟨rfl,rfl⟩ hlast
        | cons=>exact h
       | cons=>exact h
      split at h
      ·rename_i a r' k1 k2
       injection h with h
       subst h
       simp [jQ,Iw hcq hdw hn k1,ih hcs hds hl' k2]
      ·cases h
    | _=>cases cs <;> simp [Cn] at h
   | _=>simp [OT] at hn
  ·cases hl
theorem YI {op:BinOp} {t:TypeId} {lit:Option Int} {v w:SV} {q r:PV} {k:SV→Option ρ} {res : ρ} (hv:be s.bx v q) (hw:be s.bx w r) (hl:∀ n kd y,lit=some n→w = .d (.int kd y)→y=n) (h:ZL P op t lit v w k=some res) : yd s k res (tb P op t q r):=by
 unfold ZL at h
 split at h
 ·rename_i kd x kd' y
  obtain rfl:=kT hv
  obtain rfl:=kT hw
  have e:tb P op t (.d (.v (.int kd x))) (.d (.v (.int kd' y)))=if JZ op then sK op kd x y else if kd=kd' then y5 op kd x y else none:=rfl
  rw [e]
  split at h
  ·rename_i hs
   rw [if_pos hs]
   exact SM (fun n hn=>hl n kd' y hn rfl) h
  ·rename_i hs
   rw [if_neg (by simp [hs])]
   split at h
   ·rename_i hk
    rw [if_pos hk]
    exact TS (fun n hn=>hl n kd' y hn rfl) h
   ·cases h
 ·obtain rfl:=qS hv
  obtain rfl:=qS hw
  exact SF h
 ·obtain rfl:=kU hv
  obtain rfl:=kU hw
  split at h
  ·rename_i hu
   rename_i x y _
   have e:tb P op t (.d (.v (.bool x))) (.d (.v (.bool y)))=qT op x y:=by simp [tb,asI,asS,asB,hu]
   rw [e]
   exact Oe h
  ·cases h
 ·rename_i xs ys
  obtain ⟨qs,rfl,hq⟩:=Hv hv
  obtain ⟨ws,rfl,hws⟩:=Hv hw
  split at h
  ·rename_i l l' r h1 h2 h3
   obtain ⟨h4,h5⟩:=ao h
   obtain rfl:=Iv h4
   have h6:=Yk hq hws h2 h3
   have e:tb P op t (.ag qs) (.ag ws)=qT op r true:=by simp [tb,asI,asS,asB,Kd,h1,h6]
   rw [e]
   split at h5
   ·exact dh (by simp [qT]) h5 (eM _)
   ·exact dh (by simp [qT]) h5 (eM _)
   ·cases h5
  ·cases h
 ·cases h
theorem Zh {op:UnOp} {v:SV} {q:PV} {k:SV→Option ρ} {res : ρ} (hv:be s.bx v q) (h:unX op v k=some res) : yd s k res (Sb op q):=by
 unfold unX at h
 split at h
 ·obtain rfl:=kU hv; exact dh rfl h (eM _)
 ·obtain rfl:=kT hv; exact dh rfl h (fI _ _)
 ·cases h
theorem Cq:∀ (xs:List Int) (acc:ByteArray),vG (List.map (bR (.int .u8)) xs) acc=some (xs.foldl (fun r n=>r.push (UInt8.ofNat n.toNat)) acc)
 | [],acc=>rfl
 | x::xs,acc=>Cq xs (acc.push (UInt8.ofNat x.toNat))
theorem Fi {b:Nat→Option Box} {src dst e:TypeId} {q:PV} {x:Int} {xs:List Int} (h1:P.underlying src=some (.slice e)) (h2:P.underlying dst=some .string) (h3:P.underlying e=some (.int .u8)) (h4:kS b q=some (List.map (bR (.int .u8)) (x::xs))) :
  gY P b src dst q=(vG (List.map (bR (.int .u8)) (x::xs)) ByteArray.empty).map fun s=>.d (.v (.string s)):=by
 unfold gY
 rw [h1,h2]
 simp only [h3,h4]
 rfl
theorem Fg {b:Nat→Option Box} {src dst:TypeId} {q:PV} {u:TypeDesc} (h1:P.underlying src=some u) (hne:∀ e,u = .slice e→False) : gY P b src dst q=s9 P src dst q:=by
 unfold gY
 split
 ·rename_i e h3 h4
  rw [h1] at h3
  injection h3 with h3
  exact absurd h3 (hne e)
 ·rfl
theorem WC (hs:Sim s p) {src dst:TypeId} {v:SV} {q:PV} {k:SV→Option ρ} {res : ρ} (hv:be s.bx v q) (h:WD P s src dst v k=some res) : yd s k res (gY P p.b src dst q):=by
 unfold WD at h
 split at h
 ·cases h
 ·rename_i e h1
  split at h
  ·rename_i h2
   split at h
   ·rename_i xs h3 h4
    obtain ⟨z,h5,h6⟩:=cM h
    have h7:=Kk hs hv h4
    unfold XH at h5
    split at h5
    ·cases h5
    ·rename_i hne
     injection h5 with h5
     cases xs with
     | nil=>exact absurd rfl hne
     | cons x xs =>
      refine dh ?_ h6 (wD _)
      rw [Fi h1 h2 h3 h7]
      exact congrArg (Option.map _) ((Cq _ _).trans (congrArg some h5))
   ·cases h
  ·cases h
 ·rename_i u hne h1
  rw [show gY P p.b src dst q=s9 P src dst q from Fg h1 (fun e he=>hne e he)]
  split at h
  ·rename_i h2
   obtain rfl:=kT hv
   exact dh (by simp [s9,h1,h2,asI]) h (fI _ _)
  ·rename_i h2
   obtain rfl:=qS hv
   exact dh (by simp [s9,h1,h2,asS]) h (wD _)
  ·cases h
theorem G3 {t:TypeId} {f:Nat} {v:SV} {q:PV} {k:SV→Option ρ} {res : ρ} (hv:be s.bx v q) (h:xy P t v f k=some res) : yd s k res (gH P t q f):=by
 unfold xy at h
 split at h
 ·rename_i off size agg hf
  obtain ⟨h1,h2⟩:=ao h
  have hsz : ¬ size=0:=by simpa using h1
  split at h2
  ·cases hv with
   | ptr _ _ ty cs hb=>exact dh (by simp [gH,hf,hsz]) h2 (.ptr _ _ ty cs hb)
  ·cases hv with
   | fe cs ds hd hn=>exact dh (q:=.fe (ds.drop off)) (by simp [gH,hf,hsz]) h2 (.fe _ _ (by rw [hd,List.map_drop]) (fun c hc=>hn c (List.mem_of_mem_drop hc)))
  ·cases hv with
   | re _ _ _ n i e k ty xs pins pin hb hn hp hi=>exact dh (q:=.re _ n i (_ + off)) (by simp [gH,hf,hsz]) h2 (.re _ _ _ n i e k ty xs pins pin hb hn hp hi)
  ·cases h2
 ·cases h
theorem XY {v:SV} {q:PV} {k:SV→Option ρ} {res : ρ} (hv:be s.bx v q) (h:Zx v k=some res) : yd s k res (xA q):=by
 unfold Zx at h
 split at h
 ·cases hv with
  | ptr _ _ ty cs hb=>exact dh (by simp [xA]) h (.ptr _ _ ty cs hb)
 ·cases hv with
  | re _ _ _ n i e k ty xs pins pin hb hn hp hi=>exact dh (q:=.re _ n i _) (by simp [xA]) h (.re _ _ _ n i e k ty xs pins pin hb hn hp hi)
 ·cases hv with
  | fe cs ds hd hn=>exact dh (q:=.fe ds) (by simp [xA]) h (.fe _ _ hd hn)
 ·cases h
theorem Tz {t:TypeId} {f:Nat} {v:SV} {q:PV} {k:SV→Option ρ} {res : ρ} (hv:be s.bx v q) (h:O9 P t v f k=some res) : yd s k res (uD P t q f):=by
 unfold O9 at h
 split at h
 ·rename_i off size agg cs hf
  obtain ⟨qs,rfl,hq⟩:=Hv hv
  split at h
  ·rename_i v' h1
   obtain ⟨q',h2,h3⟩:=LY (hq.drop off) h1
   exact dh (by simp [uD,hf,h2]) h h3
  ·cases h
 ·cases h
theorem WW (hs:Sim s p) {v:SV} {q:PV} {cs:List SV} (hv:be s.bx v q) (h:WX s v=some cs) : ∃ qs,uJ p.b q=some qs∧bZ s.bx cs qs:=by
 unfold WX at h
 split at h
 ·rename_i t off
  cases hv
  split at h
  ·rename_i ty cs' hb
   injection h with h
   subst h
   have:=hs.bx t
   rw [hb] at this
   obtain ⟨qs,h1,h2⟩:=this
   exact ⟨qs.drop off,by simp [uJ,h1],h2.drop off⟩
  ·cases h
 ·injection h with h
  subst h
  cases hv with
  | fe _ ds hd hn=>exact ⟨_,rfl,by rw [hd]; exact Ev _ hn⟩
 ·rename_i t pi off
  split at h
  ·rename_i e k ty xs pins hb
   split at h
   ·rename_i j cs' hp
    injection h with h
    subst h
    have hbx:=hs.bx t
    rw [hb] at hbx
    obtain ⟨h1,h2⟩:=hbx
    obtain ⟨h3,h4⟩:=h2 pi _ hp
    obtain ⟨x,h5,h6⟩:=h4 cs' rfl
    cases hv with
    | re _ _ _ n i e2 k2 ty2 xs2 pins2 pin2 hb2 hn2 hp2 hi2 =>
     rw [hb] at hb2
     injection hb2 with hb2
     injection hb2 with e1 e2 e3 e4 e5
     subst e3
     have e4:=eq_of_heq e4
     subst e4 e5
     rw [hp] at hp2
     injection hp2 with hp2
     subst hp2
     refine ⟨((bR ty x).drop off).map .d,by simp [uJ,h1,hn2,hi2,h5],?_⟩
     have:=Ev (B:=s.bx) (cs'.drop off) (fun c hc=>by rw [h6] at hc; exact R8 ty x c (List.mem_of_mem_drop hc))
     rw [h6] at this ⊢
     rw [List.map_drop,Dv] at this
     simpa [List.map_drop] using this
   ·cases h
  ·cases h
 ·cases h
theorem L8 (hs:Sim s p) {t:TypeId} {v w:SV} {q:PV} (hv:be s.bx v q) (h:RK P s t v=some w) : ∃ r,qM P p.b t q=some r∧be s.bx w r:=by
 unfold RK at h
 split at h
 ·rename_i i cl h1 h2
  obtain ⟨qs,h3,h4⟩:=WW hs hv h2
  obtain ⟨r,h5,h6⟩:=LY h4 h
  exact ⟨r,by simp [qM,h1,h3,h5],h6⟩
 ·cases h
theorem Tj {v:SV} {q:PV} {i:Int} (hv:be B v q) (h:Ba v=some i) : ∃ k,q = .d (.v (.int k i)):=by
 unfold Ba at h
 split at h
 ·injection h with h; subst h; exact ⟨_,kT hv⟩
 ·cases h
theorem lj {q:PV} {k:IntKind} {i:Int} {n:Nat} (h:q = .d (.v (.int k i))) (h0 : 0≤i) : wd (some q) n=some i.toNat:=by
 subst h
 simp [wd,asI,h0]
end
section
variable {B:List (Nat×Option a6)} {s:SS} {p:PS} {P:Program} {ρ : Type}
def N9 (s:SS) (p:PS) (dst:Option Nat) (k:SV→Upd→Option ρ) (res : ρ) (e:Option (PV×Option (Nat×Box))) : Prop :=
 ∃ v u q w,e=some (q,w)∧k v u=some res∧Sim (s.upd dst v u) (p.upd dst q w)∧OkU s u∧OkW s dst u w
theorem yd.done (hs:Sim s p) {dst:Option Nat} {k:SV→Upd→Option ρ} {res : ρ} {e:Option PV} (h:yd s (fun v=>k v .no) res e) : N9 s p dst k res (e.map fun r=>(r,none)):=by
 obtain ⟨v,q,rfl,h2,h3⟩:=h
 exact ⟨v,.no,q,none,rfl,h2,k9 hs h3,trivial,dI⟩
theorem Ia {α : Type} {xs:List α} {i:Int} {x : α} (h:au xs i=some x) : 0≤i∧xs[i.toNat]? = some x∧i.toNat < xs.length:=by
 unfold au at h
 split at h
 ·rename_i h0
  exact ⟨h0,h,(zg.1 h).1⟩
 ·cases h
theorem G2 (hs:Sim s p) {dst:Option Nat} {t:TypeId} {v w:SV} {q r:PV} {k:SV→Upd→Option ρ} {res : ρ} (hv:be s.bx v q) (hw:be s.bx w r) (h:xt P s dst t v w k=some res) :
  N9 s p dst k res ((dX P p.b t q r).map fun r=>(r,none)):=by
 unfold xt at h
 split at h
 ·rename_i e kd i d hu
  obtain rfl:=kT hw
  split at h
  ·rename_i ie hie
   split at h
   ·rename_i ty xs
    obtain ⟨h1,h2⟩:=ao h
    obtain ⟨x,h3,h4⟩:=cM h2
    obtain ⟨k0,k1,k2⟩:=Ia h3
    have hl:(bR ty x).length=ie.size:=by rw [pG]; simpa using h1
    rcases Ra hv with rfl | ⟨rfl,_⟩
    ·refine ⟨_,.no,.fe (bR ty x),none,?_,h4,k9 hs (.fe _ _ (Dv ty x).symm (R8 ty x)),trivial,dI⟩
     simp [dX,hu,asI,hie,k0,k1,hl]
    ·simp at k2
   ·rename_i t'
    split at h
    ·rename_i e' kk ty xs pins hb
     obtain ⟨h1,h2⟩:=ao h
     obtain ⟨h2,h3⟩:=ao h2
     obtain ⟨x,h4,h5⟩:=cM h3
     obtain ⟨k0,k1,k2⟩:=Ia h4
     have hbx:=hs.bx t'
     rw [hb] at hbx
     obtain ⟨hbx,hpins⟩:=hbx
     have hkk:kk=ie.size:=by simpa using h1
     have hnp:lkP pins d=none:=by simpa using h2
     cases hv with
     | row _ n e2 k2' ty2 xs2 pins2 hb2 hn2 =>
      rw [hb] at hb2
      injection hb2 with hb2
      injection hb2 with e1 e2 e3 e4 e5
      subst e3
      have e4:=eq_of_heq e4
      subst e4 e5 hn2
      refine ⟨_,_,.re t' xs.length i.toNat 0,none,?_,h5,?_,(show kO (lkB s.bx t') _ from by rw [hb]; exact ⟨_,rfl⟩),dI⟩
      ·simp [dX,hu,asI,hie,k0,hbx,hkk,k2]
      ·have hble:BLe s.bx ((t',some (.rw e' kk ty xs ((d,⟨i,some (Bj ty x)⟩)::pins)))::s.bx):=Pp hb rfl (fun p pin hp=>⟨pin,by
        rw [rK,if_neg (fun e=>by rw [e,hnp] at hp; cases hp)]; exact hp,rfl⟩)
       refine XG hs hble (fun _=>⟨hbx,fun p pin hp=>?_⟩) (.re t' d 0 xs.length i.toNat e' kk ty xs _ ⟨i,some (Bj ty x)⟩ (by rw [ar,if_pos rfl]) rfl (by rw [rK,if_pos rfl]) rfl)
       rw [rK] at hp
       split at hp
       ·injection hp with hp
        subst hp
        exact ⟨k2,fun cs hc=>⟨x,k1,by injection hc with hc; exact hc.symm⟩⟩
       ·exact hpins p pin hp
    ·cases h
   ·cases h
  ·cases h
 ·cases h
theorem vy {cs:List SV} {qs:List PV} {ds:List SD} (h:bZ B cs qs) (hd:tF cs=some ds) : qs.mapM toD=some (ds.map SD.toD):=by
 induction cs generalizing qs ds with
 | nil =>
  rcases h.cases with ⟨_,rfl⟩ | ⟨_,_,_,_,h1,_⟩
  ·injection hd with hd; subst hd; rfl
  ·cases h1
 | cons c cs ih =>
  rcases h.cases with ⟨h1,_⟩ | ⟨c',q,cs',qs',h1,rfl,h2,h3⟩
  ·cases h1
  ·injection h1 with e1 e2
   subst e1 e2
   simp only [tF] at hd
   split at hd
   ·rename_i d ds' k1 k2
    injection hd with hd
    subst hd
    have:=ih h3 k2
    unfold Zm at k1
    split at k1
    ·injection k1 with k1
     subst k1
     cases h2 with
     | d _ y hy=>simp [List.mapM_cons,toD,hy.nrm,this]
    ·cases k1
   ·cases hd
theorem AP:∀ {cs:List SV} {ds:List SD},tF cs=some ds→cs.length=ds.length
 | [],ds,h=>by injection h with h; subst h; rfl
 | c::cs,ds,h=>by
  simp only [tF] at h
  split at h
  ·rename_i d ds' k1 k2
   injection h with h
   subst h
   simp [AP k2]
  ·cases h
theorem mJ:∀ (l:List (Nat×Pin)) (i:Nat),lkP (wE l) i=(lkP l i).map fun pin=>⟨pin.i,none⟩
 | [],_=>rfl
 | (j,⟨n,cs⟩)::l,i=>by simp only [wE,rK,mJ l i]; split <;> rfl
theorem SH (hs:Sim s p) {dst:Option Nat} (hd:dst=none) {t:TypeId} {v w:SV} {q r:PV} {k:SV→Upd→Option ρ} {res : ρ} (hv:be s.bx v q) (hw:be s.bx w r) (h:Ol P s t v w k=some res) :
  N9 s p dst k res ((lw P p.b t q r).map fun u=>(.junk,some u)):=by
 unfold Ol at h
 split at h
 ·rename_i i ns hi hns
  obtain ⟨ws,hws,hcs⟩:=Br hw hns
  split at h
  ·rename_i x off
   cases hv
   split at h
   ·rename_i ty cs hb
    obtain ⟨h1,h2⟩:=ao h
    obtain ⟨h2,h3⟩:=ao h2
    obtain ⟨h3,h4⟩:=ao h3
    have h1:ns.length=i.size:=by simpa using h1
    have h2:=zd h2
    obtain ⟨hro,h3⟩:=ye h3
    have hbx:=hs.bx x
    rw [hb] at hbx
    obtain ⟨qs,hq1,hq2⟩:=hbx
    have l1:=hcs.len
    have l2:=hq2.len
    refine ⟨_,_,.junk,some (x,.st ty (splice qs off ws)),?_,h4,?_,⟨h3,fun ty2 cs2 h=>?_⟩,ON hro⟩
    ·simp only [lw,hi,hws,hq1]
     rw [if_pos ⟨by omega,by omega⟩]
     rfl
    ·refine oM hs (Po hb) (fun _=>⟨_,rfl,?_⟩) (.junk _)
     rw [mC cs off ns h2]
     exact (hq2.splice hcs off).mono (Po hb)
    ·rw [hb] at h
     injection h with h
     injection h with e1 e2
     subst e1 e2
     refine ⟨_,rfl,?_⟩
     rw [mC cs off ns h2]
     unfold splice
     simp
     omega
   ·cases h
  ·rename_i x pi off
   split at h
   ·rename_i e kk ty xs pins ds hb hds
    split at h
    ·rename_i j cs0 hp
     obtain ⟨h1,h2⟩:=ao h
     obtain ⟨h2,h3⟩:=ao h2
     obtain ⟨h3,h4⟩:=ao h3
     have h1:ns.length=i.size:=by simpa using h1
     have h2:=zd h2
     obtain ⟨hro,h3⟩:=ye h3
     split at h4
     ·rename_i cs' hcs'
      split at h4
      ·rename_i y hy
       have hbx:=hs.bx x
       rw [hb] at hbx
       obtain ⟨hbx,hpins⟩:=hbx
       obtain ⟨k1,k2⟩:=hpins pi _ hp
       have hy2:=Kf hy
       cases hv with
       | re _ _ _ n i2 e2 k2' ty2 xs2 pins2 pin2 hb2 hn2 hp2 hi2 =>
        rw [hb] at hb2
        injection hb2 with hb2
        injection hb2 with e1 e2 e3 e4 e5
        subst e3
        have e4:=eq_of_heq e4
        subst e4 e5 hn2
        rw [hp] at hp2
        injection hp2 with hp2
        subst hp2
        simp only at hi2 k1 k2
        subst hi2
        obtain ⟨x0,hx0⟩ : ∃ x0,xs[j.toNat]? = some x0:=⟨xs[j.toNat],by simp [k1]⟩
        have hds':ws.mapM toD=some (ds.map SD.toD):=vy hcs hds
        have hlen0:(bR ty x0).length=tyN ty:=pG ty x0
        have hsp:splice (bR ty x0) off (ds.map SD.toD)=bR ty y:=by
         split at hcs'
         ·rename_i hfull
          injection hcs' with hcs'
          subst hcs'
          have h0:off=0:=by omega
          subst h0
          rw [← hy2]
          have:(ds.map SD.toD).length=(bR ty x0).length:=by simp [hfull,hlen0]
          simp [splice,this]
         ·cases cs0 with
          | none=>cases hcs'
          | some cs0 =>
           injection hcs' with hcs'
           obtain ⟨x1,h7,h8⟩:=k2 cs0 rfl
           rw [hx0] at h7
           injection h7 with h7
           subst h7
           have h9:cs0.length=tyN ty:=by
            have:=Dv ty x0
            rw [← h8] at this
            have:=congrArg List.length this
            simpa [hlen0] using this
           rw [← hy2,← hcs']
           show _ = List.map SD.toD (nh cs0 off ds)
           rw [mC cs0 off ds (by omega),xd,h8,Dv]
        have hble:BLe s.bx ((x,some (.rw e kk ty (xs.set j.toNat y) ((pi,⟨j,some (Bj ty y)⟩)::wE pins)))::s.bx):=Pp hb (by simp) (fun p2 pin2 hp2=>by
         rw [rK]
         by_cases e:p2=pi
         ·subst e
          rw [hp] at hp2
          injection hp2 with hp2
          subst hp2
          exact ⟨_,if_pos rfl,rfl⟩
         ·rw [if_neg e,mJ,hp2]
          exact ⟨_,rfl,rfl⟩)
        refine ⟨_,_,.junk,some (x,.rw e kk ((xs.map (bR ty)).set j.toNat (splice (bR ty x0) off (ds.map SD.toD)))),?_,h4,?_,⟨h3,fun ty2 cs2 h=>by rw [hb] at h; cases h⟩,ON hro⟩
        ·have hl2:(ds.map SD.toD).length=i.size:=by rw [List.length_map,← AP hds]; exact h1
         have hl3:off + (ds.map SD.toD).length≤(bR ty x0).length:=by rw [hlen0,List.length_map]; exact h2
         simp only [lw,hi,hws,hbx,hds',List.getElem?_map,hx0,Option.map_some,List.length_map]
         rw [List.length_map] at hl2 hl3
         rw [if_pos ⟨trivial,hl2,hl3⟩]
         rfl
        ·rw [hsp,← List.map_set]
         refine oM hs hble (fun _=>⟨rfl,fun p2 pin2 hp2=>?_⟩) (.junk _)
         rw [rK] at hp2
         split at hp2
         ·injection hp2 with hp2
          subst hp2
          exact ⟨by simpa using k1,fun cs hc=>⟨y,by simp [k1],by injection hc with hc; exact hc.symm⟩⟩
         ·rw [mJ,zm] at hp2
          obtain ⟨pin3,h7,rfl⟩:=hp2
          exact ⟨by simpa using (hpins p2 pin3 h7).1,fun cs hc=>by cases hc⟩
      ·cases h4
     ·cases h4
    ·cases h
   ·cases h
  ·cases h
 ·cases h
end
section
variable {B:List (Nat×Option a6)} {s:SS} {p:PS} {P:Program} {ρ : Type}
theorem EX (hs:Sim s p) (place:Nat→Option (Nat×Nat)) : ∀ {l:List (Nat×Operand)} {cs cs':List SV} {qs:List PV},bZ s.bx cs qs→Mw place cs (xl s l)=some cs'→∃ qs',EY place qs (l.map fun (i,x)=>(i,ev p x))=some qs'∧bZ s.bx cs' qs'
 | [],cs,cs',qs,h,hf=>by injection hf with hf; subst hf; exact ⟨qs,rfl,h⟩
 | (i,x)::l,cs,cs',qs,h,hf=>by
  simp only [xl,Mw] at hf
  split at hf
  ·rename_i off size ns h1 h2
   obtain ⟨h3,h4⟩:=ao hf
   obtain ⟨h4,h5⟩:=ao h4
   obtain ⟨ws,h6,h7⟩:=Br (bW hs x) h2
   replace h3:ns.length=size:=by simpa using h3
   replace h4:=zd h4
   rw [mC cs off ns h4] at h5
   obtain ⟨qs',h8,h9⟩:=EX hs place (h.splice h7 off) h5
   refine ⟨qs',?_,h9⟩
   have l1:=h7.len
   have l2:=h.len
   simp only [List.map_cons,EY,h1,h6]
   rw [if_pos ⟨by omega,by omega⟩]
   exact h8
  ·cases hf
theorem vu {i:TI} {z:List SV} (h:DH i=some z) : bZ B z (pm i):=(xF h).1
theorem LK {cs:List SV} {qs:List PV} (h:bZ B cs qs) : ∀ n,bZ B (Vo n cs) (List.replicate n qs).flatten
 | 0=>.nil
 | n + 1=>by rw [List.replicate_succ,List.flatten_cons]; exact h.append (LK h n)
theorem IQ (k:Nat) : ∀ (n:Nat) (l:List SD),(Kt k n l).map (List.map SD.toD)=rX k n (l.map SD.toD)
 | 0,_=>rfl
 | n + 1,l=>by simp only [Kt,rX,List.map_cons,List.map_take,IQ k n,List.map_drop]
theorem IM {t:Ty} : ∀ {l:List (List SD)} {xs:List t.den},Ki t l=some xs→l.map (List.map SD.toD)=xs.map (bR t)
 | [],xs,h=>by injection h with h; subst h; rfl
 | c::l,xs,h=>by
  simp only [Ki] at h
  split at h
  ·rename_i x xs' h1 h2
   injection h with h
   subst h
   simp only [List.map_cons,Kf h1,IM h2]
  ·cases h
theorem FI (hs:Sim s p) {dst:Option Nat} {t:TypeId} {n:Nat} {l:List (Nat×Operand)} {k:SV→Upd→Option ρ} {res : ρ} (h:uI P s dst t n (xl s l) k=some res) :
  N9 s p dst k res (ip P p.b dst t n (l.map fun (i,x)=>(i,ev p x))):=by
 unfold uI at h
 split at h
 ·rename_i d e hu
  split at h
  ·rename_i i ty hi hb hty
   split at h
   ·rename_i z hz
    have h1:=(ao h).1
    replace h:=(ao h).2
    have h2:=(ao h).1
    replace h:=(ao h).2
    have h3:=(ao h).1
    replace h:=(ao h).2
    have h4:=(ao h).1
    replace h:=(ao h).2
    replace h1:=zd h1
    replace h2:=zd h2
    replace h3:=zd h3
    obtain ⟨hfr,h4⟩:=mH h4
    split at h
    ·rename_i cs hcs
     split at h
     ·rename_i ds hds
      split at h
      ·rename_i xs hxs
       obtain ⟨h5,h6⟩:=ao h
       obtain ⟨qs,h7,h8⟩:=EX hs _ (LK (vu (B:=s.bx) hz) n) hcs
       have h9:=vy h8 hds
       have hbd:p.b d=none:=by have:=hs.bx d; rw [hb] at this; exact this hfr
       have hch:rX i.size n (ds.map SD.toD)=xs.map (bR ty):=by rw [← IQ,IM hxs]
       have hlen:xs.length=n:=by
        have:=congrArg List.length hch
        rw [Bq,List.length_map] at this
        exact this.symm
       refine ⟨_,_,.row d n,some (d,.rw e i.size (xs.map (bR ty))),?_,h6,?_,⟨h4,hb⟩,yA hb rfl⟩
       ·simp only [ip,hu,hi,hbd]
        rw [if_pos ⟨h1,h2,h3⟩]
        simp only [h7,h9,hch]
       ·exact oM hs (qP hb) (fun _=>⟨rfl,fun p pin hp=>by cases hp⟩) (.row d n e i.size ty xs [] (by rw [ar,if_pos rfl]) hlen)
      ·cases h
     ·cases h
    ·cases h
   ·cases h
  ·cases h
 ·cases h
theorem I0 {α : Type} {l m z:List α} (h:aX l m=some z) : l.length + m.length≤1000000∧z=l++m:=by
 unfold aX at h
 split at h
 ·rename_i hl; injection h with h; exact ⟨hl,h.symm⟩
 ·cases h
theorem IV {t:Ty} (h:t=t) (xs:List t.den) : yV h xs=xs:=rfl
theorem Pr (hs:Sim s p) {dst:Option Nat} {t:TypeId} {v w:SV} {q r:PV} {k:SV→Upd→Option ρ} {res : ρ} (hv:be s.bx v q) (hw:be s.bx w r) (h:KC P s dst t v w k=some res) :
  N9 s p dst k res (jo P p.b dst t q r)∧True:=by
 refine ⟨?_,trivial⟩
 unfold KC at h
 split at h
 ·rename_i e ty ys hu hdw
  have hr:=Kk hs hw hdw
  split at h
  ·rename_i i hi
   have h1:=(ao h).1
   replace h:=(ao h).2
   have h2:=(ao h).1
   replace h:=(ao h).2
   have h3:=(ao h).1
   replace h:=(ao h).2
   have h4:=(ao h).1
   replace h:=(ao h).2
   replace h1:=zd h1
   replace h2:=zd h2
   replace h3:=zd h3
   replace h4:tyN ty=i.size:=by simpa using h4
   have hla:xp i.size (ys.map (bR ty)):=by
    intro x hx
    obtain ⟨y,_,rfl⟩:=List.mem_map.1 hx
    rw [pG,h4]
   have sm:∀ n,n≤1000000→small n i.bytes:=fun n hn=>by
    unfold small
    exact Nat.le_trans (Nat.mul_le_mul hn h3) (by decide)
   split at h
   ·rename_i x
    split at h
    ·rename_i e' kk ty' xs pins hb
     split at h
     ·rename_i hty hsame
      obtain rfl:=hty
      have h5:=(ao h).1
      replace h:=(ao h).2
      have h6:=(ao h).1
      replace h:=(ao h).2
      have h7:=(ao h).1
      replace h:=(ao h).2
      replace h5:e' = e:=by simpa using h5
      replace h6:kk=i.size:=by simpa using h6
      obtain ⟨hfr,h7⟩:=ye h7
      obtain ⟨zs,h8,h9⟩:=cM h
      rw [IV] at h8
      obtain ⟨h10,rfl⟩:=I0 h8
      have hbx:=hs.bx x
      rw [hb] at hbx
      obtain ⟨hbx,_⟩:=hbx
      cases hv with
      | row _ n e2 k2 ty2 xs2 pins2 hb2 hn2 =>
       rw [hb] at hb2
       injection hb2 with hb2
       injection hb2 with q1 q2 q3 q4 q5
       subst q3
       have q4:=eq_of_heq q4
       subst q4 hn2
       refine ⟨_,_,.row x (xs.length + ys.length),some (x,.rw e' kk (xs.map (bR ty)++ys.map (bR ty))),?_,h9,?_,⟨h7,fun ty2 cs2 h=>by rw [hb] at h; cases h⟩,Zt hfr⟩
       ·simp only [jo,hu,hr,hi,hbx]
        rw [if_pos ⟨h1,h2,hla⟩,if_pos ⟨by simp,h5,h6,by simpa using sm _ h10⟩]
        simp [h5]
       ·rw [← List.map_append]
        exact Vf hs hb (.row x _ e' kk ty (xs++ys) [] (by rw [ar,if_pos rfl]) (by simp))
     ·cases h
    ·cases h
   ·obtain rfl:=Rb hv
    split at h
    ·rename_i d
     split at h
     ·rename_i hb
      have h7:=(ao h).1
      replace h:=(ao h).2
      obtain ⟨hfr,h7⟩:=mH h7
      obtain ⟨zs,h8,h9⟩:=cM h
      obtain ⟨h10,rfl⟩:=I0 h8
      have hbd:p.b d=none:=by have:=hs.bx d; rw [hb] at this; exact this hfr
      refine ⟨_,_,.row d zs.length,some (d,.rw e i.size (zs.map (bR ty))),?_,h9,?_,⟨h7,hb⟩,yA hb rfl⟩
      ·simp only [jo,hu,hr,hi,hbd]
       rw [if_pos ⟨h1,h2,hla⟩,if_pos ⟨trivial,trivial⟩,if_pos (by simpa using sm _ (by simpa using h10))]
       simp
      ·exact oM hs (qP hb) (fun _=>⟨rfl,fun p pin hp=>by cases hp⟩) (.row d _ e i.size ty _ [] (by rw [ar,if_pos rfl]) (by simp))
     ·cases h
    ·cases h
   ·cases h
  ·cases h
 ·cases h
theorem SJ (hs:Sim s p) {t:TypeId} {v:SV} {q:PV} {lo hi:Option Operand} {k:SV→Option ρ} {res : ρ} (hv:be s.bx v q) (h:On P s t v (lo.map (evX s)) (hi.map (evX s)) k=some res) : yd s k res (eg P p.b t q (lo.map (ev p)) (hi.map (ev p))):=by
 have int:∀ {x:Operand} {i:Int},Ba (evX s x)=some i→∃ kd,ev p x = .d (.v (.int kd i)):=fun {x i} h=>Tj (bW hs x) h
 unfold On at h
 split at h
 ·rename_i e ty xs hu
  have hq:kS p.b q=some (xs.map (bR ty))∧∃ y,q = .d y:=by
   rcases Ra hv with rfl | ⟨rfl,rfl⟩
   ·exact ⟨rfl,_,rfl⟩
   ·exact ⟨by simp [kS],_,rfl⟩
  obtain ⟨hq,y,rfl⟩:=hq
  split at h
  ·rename_i i hi'
   have h1:=(ao h).1
   replace h:=(ao h).2
   replace h1:tyN ty=i.size:=by simpa using h1
   have hla:xp i.size (xs.map (bR ty)):=by
    intro x hx
    obtain ⟨y,_,rfl⟩:=List.mem_map.1 hx
    rw [pG,h1]
   split at h
   ·rename_i hl hh
    rw [Option.map_eq_none_iff] at hl hh
    subst hl hh
    refine dh ?_ h (Od ty xs)
    simp only [eg,hu,hi',hq,Option.map_none,wd]
    rw [if_pos ⟨Nat.zero_le _,Nat.le_refl _,hla⟩]
    simp [List.take_of_length_le]
   ·rename_i l hl hh
    rw [Option.map_eq_none_iff] at hh
    rw [zm] at hl
    obtain ⟨lo,rfl,rfl⟩:=hl
    subst hh
    split at h
    ·rename_i li hli
     obtain ⟨kd,hkd⟩:=int hli
     obtain ⟨z,h2,h3⟩:=cM h
     unfold loO at h2
     split at h2
     ·rename_i hc
      injection h2 with h2
      subst h2
      refine dh ?_ h3 (Od ty _)
      simp only [eg,hu,hi',hq,Option.map_none,Option.map_some,hkd,lj rfl hc.1]
      simp only [wd,List.length_map]
      rw [if_pos ⟨hc.2,Nat.le_refl _,hla⟩]
      rw [← List.map_drop,← List.map_take,List.take_of_length_le (by simp)]
     ·cases h2
    ·cases h
   ·rename_i l hl hh
    rw [Option.map_eq_none_iff] at hl
    rw [zm] at hh
    obtain ⟨hi2,rfl,rfl⟩:=hh
    subst hl
    split at h
    ·rename_i li hli
     obtain ⟨kd,hkd⟩:=int hli
     obtain ⟨z,h2,h3⟩:=cM h
     unfold hiO at h2
     split at h2
     ·rename_i hc
      injection h2 with h2
      subst h2
      refine dh ?_ h3 (Od ty _)
      simp only [eg,hu,hi',hq,Option.map_none,Option.map_some,hkd,lj rfl hc.1]
      simp only [wd,List.length_map]
      rw [if_pos ⟨Nat.zero_le _,hc.2,hla⟩]
      simp
     ·cases h2
    ·cases h
   ·rename_i l l' hl hh
    rw [zm] at hl hh
    obtain ⟨lo,rfl,rfl⟩:=hl
    obtain ⟨hi2,rfl,rfl⟩:=hh
    split at h
    ·rename_i li hi3 hli hhi
     obtain ⟨kd,hkd⟩:=int hli
     obtain ⟨kd2,hkd2⟩:=int hhi
     obtain ⟨z,h2,h3⟩:=cM h
     unfold lhO at h2
     split at h2
     ·rename_i hc
      injection h2 with h2
      subst h2
      refine dh ?_ h3 (Od ty _)
      simp only [eg,hu,hi',hq,Option.map_some,hkd,hkd2,lj rfl hc.1,lj rfl hc.2.1,List.length_map]
      rw [if_pos ⟨hc.2.2.1,hc.2.2.2,hla⟩]
      simp
     ·cases h2
    ·cases h
  ·cases h
 ·rename_i e x hu
  split at h
  ·rename_i i e' kk ty xs pins hi' hb
   have h1:=(ao h).1
   replace h:=(ao h).2
   replace h1:kk=i.size:=by simpa using h1
   have hbx:=hs.bx x
   rw [hb] at hbx
   obtain ⟨hbx,_⟩:=hbx
   have ox:∀ {o:Option Operand} {n:Nat} {l:Int},Zs (o.map (evX s)) (n:Int)=some l→0≤l→wd (o.map (ev p)) n=some l.toNat:=by
    intro o n l ho h0
    cases o with
    | none=>injection ho with ho; subst ho; rfl
    | some y =>
     obtain ⟨kd,hkd⟩:=int (show Ba (evX s y)=some l from ho)
     rw [Option.map_some,lj hkd h0]
   cases hv with
   | row _ n e2 k2 ty2 xs2 pins2 hb2 hn2 =>
    rw [hb] at hb2
    injection hb2 with hb2
    injection hb2 with q1 q2 q3 q4 q5
    subst q3
    have q4:=eq_of_heq q4
    subst q4 hn2
    split at h
    ·rename_i l h' hl hh
     obtain ⟨_,h2,h3⟩:=cM h
     unfold vwO at h2
     split at h2
     ·rename_i hc
      refine dh (q:=.vw x xs.length l.toNat h'.toNat) ?_ h3 (.vw x _ _ _ e' kk ty xs pins hb rfl)
      have hl':=ox (n:=0) hl hc.1
      have hh':=ox (n:=xs.length) hh hc.2.1
      simp only [eg,hu,hi',hbx,hl',hh',List.length_map]
      rw [if_pos ⟨trivial,h1,hc.2.2.1,hc.2.2.2⟩]
     ·cases h2
    ·cases h
  ·cases h
 ·rename_i x hu
  obtain rfl:=qS hv
  split at h
  ·rename_i l hl hh
   rw [Option.map_eq_none_iff] at hh
   rw [zm] at hl
   obtain ⟨lo,rfl,rfl⟩:=hl
   subst hh
   split at h
   ·rename_i li hli
    obtain ⟨kd,hkd⟩:=int hli
    obtain ⟨z,h2,h3⟩:=cM h
    unfold SN at h2
    split at h2
    ·rename_i hc
     injection h2 with h2
     subst h2
     refine dh ?_ h3 (wD _)
     simp only [eg,hu,asS,Option.map_none,Option.map_some,hkd,lj rfl hc.1]
     simp only [wd]
     rw [if_pos ⟨hc.2,Nat.le_refl _⟩]
    ·cases h2
   ·cases h
  ·rename_i l hl hh
   rw [Option.map_eq_none_iff] at hl
   rw [zm] at hh
   obtain ⟨hi2,rfl,rfl⟩:=hh
   subst hl
   split at h
   ·rename_i li hli
    obtain ⟨kd,hkd⟩:=int hli
    obtain ⟨z,h2,h3⟩:=cM h
    unfold Ox at h2
    split at h2
    ·rename_i hc
     injection h2 with h2
     subst h2
     refine dh ?_ h3 (wD _)
     simp only [eg,hu,asS,Option.map_none,Option.map_some,hkd,lj rfl hc.1]
     simp only [wd]
     rw [if_pos ⟨Nat.zero_le _,hc.2⟩]
    ·cases h2
   ·cases h
  ·rename_i l l' hl hh
   rw [zm] at hl hh
   obtain ⟨lo,rfl,rfl⟩:=hl
   obtain ⟨hi2,rfl,rfl⟩:=hh
   split at h
   ·rename_i li hi3 hli hhi
    obtain ⟨kd,hkd⟩:=int hli
    obtain ⟨kd2,hkd2⟩:=int hhi
    obtain ⟨z,h2,h3⟩:=cM h
    unfold JC at h2
    split at h2
    ·rename_i hc
     injection h2 with h2
     subst h2
     refine dh ?_ h3 (wD _)
     simp only [eg,hu,asS,Option.map_some,hkd,hkd2,lj rfl hc.1,lj rfl hc.2.1]
     rw [if_pos ⟨hc.2.2.1,hc.2.2.2⟩]
    ·cases h2
   ·cases h
  ·cases h
 ·cases h
theorem XF (hs:Sim s p) {v:SV} {q:PV} {ty:Ty} {ys:List ty.den} (hv:be s.bx v q) (h:Zk s v=some (.sl ty ys)) : kS p.b q=some (ys.map (bR ty)):=by
 unfold Zk at h
 split at h
 ·rename_i t lo hi
  split at h
  ·rename_i e kk ty2 xs pins hb
   injection h with h
   injection h with e1 e2
   subst e1
   have e2:=eq_of_heq e2
   subst e2
   have hbx:=hs.bx t
   rw [hb] at hbx
   obtain ⟨hbx,_⟩:=hbx
   cases hv with
   | vw _ _ _ n e2 k2 ty2 xs2 pins2 hb2 hn2 =>
    rw [hb] at hb2
    injection hb2 with hb2
    injection hb2 with q1 q2 q3 q4 q5
    subst q3
    have q4:=eq_of_heq q4
    subst q4 hn2
    simp only [kS,hbx,List.length_map,if_true]
    rw [← List.map_drop,← List.map_take]
  ·cases h
 ·exact Kk hs hv h
theorem Vz (hs:Sim s p) {v:SV} {q:PV} {x lo hi:Nat} {e kk:Nat} {ty:Ty} {xs:List ty.den} {pins:List (Nat×Pin)} (hb:lkB s.bx x=some (.rw e kk ty xs pins)) (hv:be s.bx v q) (h:VA s v=some (x,lo,hi)) : Ry q=some (x,xs.length,lo,hi):=by
 unfold VA at h
 split at h
 ·rename_i t
  split at h
  ·rename_i e2 k2 ty2 xs2 pins2 hb2
   injection h with h
   injection h with q1 q2
   injection q2 with q2 q3
   subst q1 q2 q3
   cases hv with
   | row _ n e3 k3 ty3 xs3 pins3 hb3 hn3 =>
    rw [hb] at hb2 hb3
    injection hb2 with hb2
    injection hb2 with r1 r2 r3 r4 r5
    subst r3
    have r4:=eq_of_heq r4
    subst r4
    injection hb3 with hb3
    injection hb3 with r1 r2 r3 r4 r5
    subst r3
    have r4:=eq_of_heq r4
    subst r4 hn3
    rfl
  ·cases h
 ·injection h with h
  injection h with q1 q2
  injection q2 with q2 q3
  subst q1 q2 q3
  cases hv with
  | vw _ _ _ n e3 k3 ty3 xs3 pins3 hb3 hn3 =>
   rw [hb] at hb3
   injection hb3 with hb3
   injection hb3 with r1 r2 r3 r4 r5
   subst r3
   have r4:=eq_of_heq r4
   subst r4 hn3
   rfl
 ·cases h
theorem Td {α β : Type} (f : α→β) (xs ys:List α) (lo:Nat) : (ld xs lo ys).map f=ld (xs.map f) lo (ys.map f):=by
 simp [ld,List.map_take,List.map_drop]
theorem WA (hs:Sim s p) {dst:Option Nat} {t:TypeId} {v w:SV} {q r:PV} {k:SV→Upd→Option ρ} {res : ρ} (hv:be s.bx v q) (hw:be s.bx w r) (h:WB P s t v w k=some res) :
  N9 s p dst k res ((qN P p.b t q r).map fun r=>(r.1,some r.2)):=by
 unfold WB at h
 split at h
 ·rename_i e ty ys x lo hi hu hsrc hpart
  split at h
  ·rename_i i e' kk ty' xs pins hi' hb
   split at h
   ·rename_i hty hsame
    obtain rfl:=hty
    have h1:=(ao h).1
    replace h:=(ao h).2
    have h2:=(ao h).1
    replace h:=(ao h).2
    have h3:=(ao h).1
    replace h:=(ao h).2
    replace h1:kk=i.size:=by simpa using h1
    replace h2:tyN ty=i.size:=by simpa using h2
    obtain ⟨hro,h3⟩:=ye h3
    obtain ⟨zs,h4,h5⟩:=cM h
    rw [IV] at h4
    unfold yU at h4
    split at h4
    ·rename_i hc
     injection h4 with h4
     subst h4
     have hbx:=hs.bx x
     rw [hb] at hbx
     obtain ⟨hbx,hpins⟩:=hbx
     have hr:=XF hs hw hsrc
     have hp:=Vz hs hb hv hpart
     have hla:xp i.size (ys.map (bR ty)):=by
      intro x hx
      obtain ⟨y,_,rfl⟩:=List.mem_map.1 hx
      rw [pG,h2]
     have hlen:(ld xs lo (ys.take (hi - lo))).length=xs.length:=HM (by rw [List.length_take]; omega)
     have hble:BLe s.bx ((x,some (.rw e' kk ty (ld xs lo (ys.take (hi - lo))) (wE pins)))::s.bx):=Pp hb hlen (fun p2 pin2 hp2=>by
      rw [mJ,hp2]
      exact ⟨_,rfl,rfl⟩)
     refine ⟨_,_,.d (.v (.int .i64 (min ys.length (hi - lo) : Nat))),some (x,.rw e' kk ((ld xs lo (ys.take (hi - lo))).map (bR ty))),?_,h5,?_,⟨h3,fun ty2 cs2 h=>by rw [hb] at h; cases h⟩,ON hro⟩
     ·simp only [qN,hu,hr,hp,hi',hbx,List.length_map]
      rw [if_pos ⟨trivial,h1,hla,hc.1,hc.2⟩,Td,List.map_take]
      rfl
     ·refine oM hs hble (fun _=>⟨rfl,fun p2 pin2 hp2=>?_⟩) (fI _ _)
      rw [mJ,zm] at hp2
      obtain ⟨pin3,h7,rfl⟩:=hp2
      exact ⟨by rw [hlen]; exact (hpins p2 pin3 h7).1,fun cs hc=>by cases hc⟩
    ·cases h4
   ·cases h
  ·cases h
 ·cases h
theorem DI:∀ (l:List Value),(l.map fun z=>PV.d (.v z)).mapM toD=some (l.map fun z=>nrm (.v z))
 | []=>rfl
 | z::l=>by simp only [List.map_cons,List.mapM_cons,DI l,toD]; rfl
theorem VR (hs:Sim s p) {dst:Option Nat} {t:TypeId} {x y:Operand} {k:SV→Upd→Option ρ} {res : ρ} (h:VS P s dst t (Ov x y) (evX s x) k=some res) :
  N9 s p dst k res (vE P p.b dst t (ev p x) (ev p y)):=by
 unfold VS at h
 split at h
 ·rename_i d e kd n hu hx hsame
  have hpx:=bW hs x
  rw [hx] at hpx
  have hpx:=kT hpx
  have hpy:∃ kd',ev p y = .d (.v (.int kd' n)):=by
   unfold Ov at hsame
   split at hsame
   ·rename_i i j hq
    have:i=j:=by simpa using hsame
    subst this
    exact ⟨kd,hpx⟩
   ·rename_i k1 n1 k2 m1 hq
    have:n1=m1:=by simpa using hsame
    subst this
    have:ev p (.const (.int k1 n1)) = .d (.v (.int k1 n1)):=rfl
    rw [this] at hpx
    injection hpx with hpx
    injection hpx with hpx
    injection hpx with q1 q2
    subst q2
    exact ⟨k2,rfl⟩
   ·cases hsame
  obtain ⟨kd',hpy⟩:=hpy
  split at h
  ·rename_i i ty hi hb hty
   split at h
   ·rename_i z hz
    split at h
    ·rename_i ds hds
     split at h
     ·rename_i z0 hz0
      have h1:=(ao h).1
      replace h:=(ao h).2
      have h2:=(ao h).1
      replace h:=(ao h).2
      have h3:=(ao h).1
      replace h:=(ao h).2
      have h4:=(ao h).1
      replace h:=(ao h).2
      replace h1:=zd h1
      replace h2:=zd h2
      obtain ⟨hfr,h4⟩:=mH h4
      obtain ⟨xs,h5,h6⟩:=cM h
      unfold mkO at h5
      split at h5
      ·rename_i hc
       injection h5 with h5
       subst h5
       have hbd:p.b d=none:=by have:=hs.bx d; rw [hb] at this; exact this hfr
       have e1:(i.zero.map fun z=>nrm (.v z))=bR ty z0:=by
        have h7:=vy (vu (B:=s.bx) hz) hds
        rw [show pm i=i.zero.map (fun z=>PV.d (.v z)) from rfl,DI] at h7
        injection h7 with h7
        rw [h7]; exact Kf hz0
       refine ⟨_,_,.row d n.toNat,some (d,.rw e i.size ((List.replicate n.toNat z0).map (bR ty))),?_,h6,?_,⟨h4,hb⟩,yA hb rfl⟩
       ·simp only [vE,hu,hpx,hpy,asI,hi,hbd]
        rw [if_pos ⟨trivial,hc.1,hc.2,h1,h2⟩,List.map_replicate,e1]
       ·exact oM hs (qP hb) (fun _=>⟨rfl,fun p pin hp=>by cases hp⟩) (.row d _ e i.size ty _ [] (by rw [ar,if_pos rfl]) (by simp))
      ·cases h5
     ·cases h
    ·cases h
   ·cases h
  ·cases h
 ·cases h
theorem A0 (mx:Bool) : ∀ (l:List SV) (v w:SV) (q:PV) (qs:List PV),be B v q→bZ B l qs→yD mx v l=some w→∃ r,(match mx with | true=>sZ q qs | false=>sY q qs)=some r∧be B w r
 | [],v,w,q,qs,hv,hl,h=>by
  rcases hl.cases with ⟨_,rfl⟩ | ⟨_,_,_,_,h1,_⟩
  ·have:v=w:=by cases v <;> (injection h)
   subst this
   exact ⟨q,by cases mx <;> rfl,hv⟩
  ·cases h1
 | u::l,v,w,q,qs,hv,hl,h=>by
  rcases hl.cases with ⟨h1,_⟩ | ⟨u',r,l',qs',h1,rfl,h2,h3⟩
  ·cases h1
  ·injection h1 with e1 e2
   subst e1 e2
   unfold yD at h
   split at h
   ·rename_i heq; cases heq
   ·rename_i k x k' y l2 heq
    injection heq with e1 e2
    subst e1 e2
    obtain rfl:=kT hv
    obtain rfl:=kT h2
    obtain ⟨r',h4,h5⟩:=A0 mx l _ w _ qs' (fI _ _) h3 h
    refine ⟨r',?_,h5⟩
    cases mx
    ·simp only [sY,Fb,asI]; exact h4
    ·simp only [sZ,Fd,asI]; exact h4
   ·cases h
theorem X7 (hs:Sim s p) {t:TypeId} {v:SV} {q:PV} {k:SV→Option ρ} {res : ρ} (hv:be s.bx v q) (h:Zy P s t v k=some res) : yd s k res (uC P t q):=by
 unfold Zy at h
 split at h
 ·rename_i e hu
  split at h
  ·rename_i ty xs hd
   refine dh ?_ h (fI _ _)
   have:OS q=some xs.length:=by
    unfold rV at hd
    split at hd
    ·injection hd with hd
     subst hd
     rcases Ra hv with rfl | ⟨rfl,rfl⟩
     ·simp [OS]
     ·rfl
    ·obtain ⟨e,k,ty2,xs2,pins,h1,h2,rfl,h4⟩:=JE hs hv hd
     injection h2 with e1 e2
     subst e1
     have e2:=eq_of_heq e2
     subst e2
     rfl
    ·cases hd
   simp [uC,hu,this]
  ·rename_i hd
   obtain rfl:=Yz hv hd
   exact dh (by simp [uC,hu,OS]) h (fI _ _)
  ·split at h
   ·cases hv
    exact dh (by simp [uC,hu,OS]) h (fI _ _)
   ·cases h
 ·rename_i hu
  split at h
  ·obtain rfl:=qS hv
   exact dh (by simp [uC,hu,asS]) h (fI _ _)
  ·cases h
 ·cases h
end
section
mutual
def qB:PV→PV
 | .d x=>.d (nrm x)
 | .ag cs=>.ag (dJ cs)
 | .tup cs=>.tup (dJ cs)
 | .fn f ps qs=>.fn f (dJ ps) (dJ qs)
 | p=>p
def dJ:List PV→List PV
 | []=>[]
 | c::cs=>qB c::dJ cs
end
def rJ:Box→Box
 | .st ty cs=>.st ty (dJ cs)
 | b=>b
theorem il:∀ cs:List PV,(dJ cs).length=cs.length
 | []=>rfl
 | c::cs=>by simp [dJ,il cs]
theorem kL:∀ (cs:List PV) (j:Nat) (c:PV),(dJ cs)[j]? = some c→∃ d,cs[j]? = some d∧c=qB d
 | [],j,c,h=>by simp [dJ] at h
 | d::cs,0,c,h=>by simp [dJ] at h; exact ⟨d,rfl,h.symm⟩
 | d::cs,j + 1,c,h=>by simp [dJ] at h; simpa using kL cs j c h
section
variable {P:Program} {ρ ρ' ρ2:Nat→Value} {b b' b2:Nat→Option Box} {w w':World} {w0:WM} {F F' F0:Nat→Prop} {n:Nat} {σ τ : Nat→Nat}
theorem aM.nrmd {x:Value} {p:PV} (h:aM ρ b w F x p) : aM ρ b w F x (qB p):=by
 induction h with
 | junk x=>exact .junk x
 | d x d h=>exact .d x _ h.nrm
 | ag xs cs hl h1 hr ih=>exact .ag xs _ (by rw [il]; exact hl) h1 (fun j x c h2 h3=>by obtain ⟨d,h4,rfl⟩:=kL cs j c h3; exact ih j x d h2 h4)
 | tup xs cs hl hr ih=>exact .tup xs _ (by rw [il]; exact hl) (fun j x c h2 h3=>by obtain ⟨d,h4,rfl⟩:=kL cs j c h3; exact ih j x d h2 h4)
 | ptr t off g ty cs hb hρ=>exact .ptr t off g ty cs hb hρ
 | row t n A c e k es hb hn hc hA hρ=>exact .row t n A c e k es hb hn hc hA hρ
 | re t n i off a e k es hb hn hi hρ=>exact .re t n i off a e k es hb hn hi hρ
 | vw t n lo hi A m c e k es hb hn hl hh hm hρ=>exact .vw t n lo hi A m c e k es hb hn hl hh hm hρ
 | fe a cs us hF hcell hrep=>exact .fe a cs us hF hcell hrep
 | fn f xs ys ps qs hl hr hl2 hr2 ih ih2 =>
  exact .fn f xs ys _ _ (by rw [il]; exact hl) (fun j x c h2 h3=>by obtain ⟨d,h4,rfl⟩:=kL ps j c h3; exact ih j x d h2 h4)
   (by rw [il]; exact hl2) (fun j x c h2 h3=>by obtain ⟨d,h4,rfl⟩:=kL qs j c h3; exact ih2 j x d h2 h4)
end
mutual
def mp (σ : Nat→Nat) : PV→PV
 | .ptr t o=>.ptr (σ t) o
 | .row t n=>.row (σ t) n
 | .re t n i o=>.re (σ t) n i o
 | .vw t n i o=>.vw (σ t) n i o
 | .ag cs=>.ag (eU σ cs)
 | .tup cs=>.tup (eU σ cs)
 | .fn f ps qs=>.fn f (eU σ ps) (eU σ qs)
 | p=>p
def eU (σ : Nat→Nat) : List PV→List PV
 | []=>[]
 | c::cs=>mp σ c::eU σ cs
end
def wb (σ : Nat→Nat) : Box→Box
 | .st ty cs=>.st ty (eU σ cs)
 | b=>b
def LO:Box→List Nat
 | .st _ cs=>bJ cs
 | .rw ..=>[]
def mn (σ : Nat→Nat) : BU→BU
 | []=>[]
 | (t,B)::l=>(σ t,wb σ B)::mn σ l
def bU:BU→List Nat
 | []=>[]
 | (t,_)::l=>t::bU l
theorem kK (σ : Nat→Nat) : ∀ cs:List PV,(eU σ cs).length=cs.length
 | []=>rfl
 | c::cs=>by simp [eU,kK σ cs]
theorem mE (σ : Nat→Nat) : ∀ (cs:List PV) (j:Nat) (c:PV),(eU σ cs)[j]? = some c→∃ d,cs[j]? = some d∧c=mp σ d
 | [],j,c,h=>by simp [eU] at h
 | d::cs,0,c,h=>by simp [eU] at h; exact ⟨d,rfl,h.symm⟩
 | d::cs,j + 1,c,h=>by simp [eU] at h; simpa using mE σ cs j c h
theorem dF {t:Nat} : ∀ {cs:List PV} {j:Nat} {c:PV},cs[j]? = some c→t∈bf c→t∈bJ cs
 | [],j,c,h,_=>by simp at h
 | d::cs,0,c,h,ht=>by simp at h; subst h; simp [bJ,ht]
 | d::cs,j + 1,c,h,ht=>by simp [bJ]; exact .inr (dF (by simpa using h) ht)
theorem cL:∀ {l:BU} {t:Nat},t∈bU l↔∃ B,lkU l t=some B
 | [],t=>by simp [bU,lkU]
 | (j,B)::l,t=>by
  simp only [bU,List.mem_cons,lkU]
  by_cases h:t=j
  ·subst h; simp
  ·simp only [h,false_or,if_false]; exact cL
mutual
theorem LM (σ : Nat→Nat) : ∀ p:PV,bf (mp σ p)=(bf p).map σ
 | .junk=>rfl
 | .d _=>rfl
 | .ptr _ _=>rfl
 | .row _ _=>rfl
 | .re _ _ _ _=>rfl
 | .vw _ _ _ _=>rfl
 | .fe _=>rfl
 | .ag cs=>by simp only [mp,bf,o8 σ cs]
 | .tup cs=>by simp only [mp,bf,o8 σ cs]
 | .fn f ps qs=>by simp only [mp,bf,o8 σ ps,o8 σ qs,List.map_append]
theorem o8 (σ : Nat→Nat) : ∀ cs:List PV,bJ (eU σ cs)=(bJ cs).map σ
 | []=>rfl
 | c::cs=>by simp only [eU,bJ,LM σ c,o8 σ cs,List.map_append]
end
mutual
theorem Rs {σ τ : Nat→Nat} : ∀ (p:PV),(∀ t∈bf p,σ (τ t)=t)→mp σ (mp τ p)=p
 | .junk,_=>rfl
 | .d _,_=>rfl
 | .ptr t o,h=>by simp only [mp]; rw [h t (by simp [bf])]
 | .row t o,h=>by simp only [mp]; rw [h t (by simp [bf])]
 | .re t _ _ _,h=>by simp only [mp]; rw [h t (by simp [bf])]
 | .vw t _ _ _,h=>by simp only [mp]; rw [h t (by simp [bf])]
 | .fe _,_=>rfl
 | .ag cs,h=>by simp only [mp]; rw [rH cs h]
 | .tup cs,h=>by simp only [mp]; rw [rH cs h]
 | .fn f ps qs,h=>by simp only [mp]; rw [rH ps (fun t ht=>h t (by simp [bf,ht])),rH qs (fun t ht=>h t (by simp [bf,ht]))]
theorem rH {σ τ : Nat→Nat} : ∀ (cs:List PV),(∀ t∈bJ cs,σ (τ t)=t)→eU σ (eU τ cs)=cs
 | [],_=>rfl
 | c::cs,h=>by simp only [eU]; rw [Rs c (fun t ht=>h t (by simp [bJ,ht])),rH cs (fun t ht=>h t (by simp [bJ,ht]))]
end
theorem Dr {σ : Nat→Nat} : ∀ {l:BU} {t:Nat} {B:Box},(∀ s∈bU l,∀ s'∈bU l,σ s = σ s'→s=s')→lkU l t=some B→lkU (mn σ l) (σ t)=some (wb σ B)
 | [],t,B,_,h=>by cases h
 | (j,C)::l,t,B,hinj,h=>by
  simp only [lkU] at h
  simp only [mn,lkU]
  by_cases ht:t=j
  ·subst ht
   rw [if_pos rfl] at h
   injection h with h
   subst h
   rw [if_pos rfl]
  ·rw [if_neg ht] at h
   have hm:t∈bU l:=cL.2 ⟨B,h⟩
   rw [if_neg (fun e=>ht (hinj t (by simp [bU,hm]) j (by simp [bU]) e))]
   exact Dr (fun s hs s' hs' e=>hinj s (by simp [bU,hs]) s' (by simp [bU,hs']) e) h
theorem uv {σ : Nat→Nat} : ∀ {l:BU} {i:Nat} {B:Box},lkU (mn σ l) i=some B→∃ t∈bU l,i = σ t
 | [],i,B,h=>by cases h
 | (j,C)::l,i,B,h=>by
  simp only [mn,lkU] at h
  by_cases hi:i = σ j
  ·exact ⟨j,by simp [bU],hi⟩
  ·rw [if_neg hi] at h
   obtain ⟨t,h1,h2⟩:=uv h
   exact ⟨t,by simp [bU,h1],h2⟩
section
variable {P:Program} {ρ ρ' ρ2:Nat→Value} {b b' b2:Nat→Option Box} {w w':World} {w0:WM} {F F' F0:Nat→Prop} {n:Nat} {σ τ : Nat→Nat}
theorem aM.ren {x:Value} {p:PV} (h:aM ρ b w F x p) : (∀ t∈bf p,∀ B,b t=some B→b2 (σ t)=some (wb σ B)∧ρ2 (σ t) = ρ t)→aM ρ2 b2 w F x (mp σ p):=by
 induction h with
 | junk x=>exact fun _=>.junk x
 | d x d h=>exact fun _=>.d x d h
 | ag xs cs hl h1 hr ih=>exact fun hc=>.ag xs _ (by rw [kK]; exact hl) h1 (fun j x c h2 h3=>by obtain ⟨d,h4,rfl⟩:=mE σ cs j c h3; exact ih j x d h2 h4 (fun t ht=>hc t (dF h4 ht)))
 | tup xs cs hl hr ih=>exact fun hc=>.tup xs _ (by rw [kK]; exact hl) (fun j x c h2 h3=>by obtain ⟨d,h4,rfl⟩:=mE σ cs j c h3; exact ih j x d h2 h4 (fun t ht=>hc t (dF h4 ht)))
 | ptr t off g ty cs hb hρ =>
  intro hc
  obtain ⟨h1,h2⟩:=hc t (by simp [bf]) _ hb
  exact .ptr _ off g ty _ h1 (h2.trans hρ)
 | row t n A c e k es hb hn hcc hA hρ =>
  intro hc
  obtain ⟨h1,h2⟩:=hc t (by simp [bf]) _ hb
  exact .row _ n A c e k es h1 hn hcc hA (fun h=>h2.trans (hρ h))
 | re t n i off a e k es hb hn hi hρ =>
  intro hc
  obtain ⟨h1,h2⟩:=hc t (by simp [bf]) _ hb
  exact .re _ n i off a e k es h1 hn hi (fun h=>by obtain ⟨g,c,h3,h4⟩:=hρ h; exact ⟨g,c,h2.trans h3,h4⟩)
 | vw t n lo hi A m c e k es hb hn hl hh hm hρ =>
  intro hc
  obtain ⟨h1,h2⟩:=hc t (by simp [bf]) _ hb
  exact .vw _ n lo hi A m c e k es h1 hn hl hh hm (fun h=>by obtain ⟨g,c,h3,h4⟩:=hρ h; exact ⟨g,c,h2.trans h3,h4⟩)
 | fe a cs us hF hcell hrep=>exact fun _=>.fe a cs us hF hcell hrep
 | fn f xs ys ps qs hl hr hl2 hr2 ih ih2 =>
  intro hc
  exact .fn f xs ys _ _ (by rw [kK]; exact hl) (fun j x c h2 h3=>by obtain ⟨d,h4,rfl⟩:=mE σ ps j c h3; exact ih j x d h2 h4 (fun t ht=>hc t (by simp only [bf,List.mem_append]; exact .inl (dF h4 ht))))
   (by rw [kK]; exact hl2) (fun j x c h2 h3=>by obtain ⟨d,h4,rfl⟩:=mE σ qs j c h3; exact ih2 j x d h2 h4 (fun t ht=>hc t (by simp only [bf,List.mem_append]; exact .inr (dF h4 ht))))
theorem jh.ren {own own':Nat→Prop} {t:Nat} {B:Box} (h:jh ρ b own w F t B) (hρ : ρ2 (σ t) = ρ t) (ho:∀ g,blk (ρ t)=some g→own' g) (hc:∀ t∈LO B,∀ B,b t=some B→b2 (σ t)=some (wb σ B)∧ρ2 (σ t) = ρ t) : jh ρ2 b2 own' w F (σ t) (wb σ B):=by
 cases h with
 | st ty cs g xs hr0 hg hF0 hh hl h1 hr =>
  exact .st ty _ g xs (hρ.trans hr0) (ho g (by rw [hr0]; rfl)) hF0 hh (by rw [kK]; exact hl) h1 (fun j x c h2 h3=>by obtain ⟨d,h4,rfl⟩:=mE σ cs j c h3; exact (hr j x d h2 h4).ren (fun t ht=>hc t (dF h4 ht)))
 | rw e k es xs hk0 h1 hF0 hk hl hr hown =>
  exact .rw e k es xs hk0 (by rw [hρ]; exact h1) (by rw [hρ]; exact hF0) hk hl hr (by rw [hρ]; exact ho)
 | gn e k es hr0=>exact .gn e k es (hρ.trans hr0)
theorem aM.nb {x:Value} {p:PV} (h:aM ρ b w F x p) : aM ρ (fun i=>(b i).map rJ) w F x p:=by
 induction h with
 | junk x=>exact .junk x
 | d x d h=>exact .d x d h
 | ag xs cs hl h1 hr ih=>exact .ag xs _ hl h1 ih
 | tup xs cs hl hr ih=>exact .tup xs _ hl ih
 | ptr t off g ty cs hb hρ=>exact .ptr _ off g ty (dJ cs) (by rw [hb]; rfl) hρ
 | row t n A c e k es hb hn hcc hA hρ=>exact .row _ n A c e k es (by rw [hb]; rfl) hn hcc hA hρ
 | re t n i off a e k es hb hn hi hρ=>exact .re _ n i off a e k es (by rw [hb]; rfl) hn hi hρ
 | vw t n lo hi A m c e k es hb hn hl hh hm hρ=>exact .vw _ n lo hi A m c e k es (by rw [hb]; rfl) hn hl hh hm hρ
 | fe a cs us hF hcell hrep=>exact .fe a cs us hF hcell hrep
 | fn f xs ys ps qs hl hr hl2 hr2 ih ih2=>exact .fn f xs ys _ _ hl ih hl2 ih2
theorem jh.nb {own:Nat→Prop} {t:Nat} {B:Box} (h:jh ρ b own w F t B) : jh ρ (fun i=>(b i).map rJ) own w F t (rJ B):=by
 cases h with
 | st ty cs g xs hr0 hg hF0 hh hl h1 hr=>exact .st ty _ g xs hr0 hg hF0 hh (by rw [il]; exact hl) h1 (fun j x c h2 h3=>by obtain ⟨d,h4,rfl⟩:=kL cs j c h3; exact (hr j x d h2 h4).nb.nrmd)
 | rw e k es xs hk0 h1 hF0 hk hl hr hown=>exact .rw e k es xs hk0 h1 hF0 hk hl hr hown
 | gn e k es hr0=>exact .gn e k es hr0
def CZ (ρ : Nat→Value) (b:Nat→Option Box) : Nat→Prop:=fun g=>∃ t B,b t=some B∧blk (ρ t)=some g
def EF (bi:BU) (K:List Nat) : Nat→Option Box:=fun t=>if t∈K then lkU bi t else none
def PCm (P:Program) (f:FuncId) (args:List PV) (bi:BU) (K:List Nat) (Q:PV→BU→Prop) : Prop :=
 eh P f=true∧∀ (w:World) (F:Nat→Prop) (ρ : Nat→Value) (vs:Array Value),Inv ⟨w,CZ ρ (lkU bi),fun _=>none⟩ F ρ (lkU bi) w F→cF ρ (lkU bi) w F vs.toList args →
  Calls P f vs w fun e w'=>∃ v ρ' F' r bo,Q r bo∧e = .returned v∧Inv ⟨w,CZ ρ (lkU bi),fun _=>none⟩ F ρ' (lkU bo) w' F'∧Stp ρ (EF bi K) w F ρ' (lkU bo) w' F'∧aM ρ' (lkU bo) w' F' v r
def Kn (l:BU) : Prop:=∀ t B,lkU l t=some B→∀ s∈LO B,s∈bU l
structure aan (τi τ : Nat→Nat) (bi bo:BU) (K:List Nat) (u:BU) : Prop where
 out:∀ s B,lkU bo s=some B→lkU u (τ s)=some (wb τ B)
 gone:∀ s B,lkU bi s=some B→s ∉ K→∃ e k es es',B = .rw e k es∧lkU u (τi s)=some (.rw e k es')∧es.length < es'.length
 only:∀ i B,lkU u i=some B→(∃ s∈bU bo,i = τ s)∨(∃ s∈bU bi,s ∉ K∧i = τi s)
structure aap (τi τ : Nat→Nat) (bi bo:BU) (K:List Nat) : Prop where
 ii:∀ s∈bU bi,∀ s'∈bU bi,τi s = τi s'→s=s'
 oo:∀ s∈bU bo,∀ s'∈bU bo,τ s = τ s'→s=s'
 io:∀ s∈bU bi,∀ s'∈bU bo,τi s = τ s'→s=s'∧s∈K
 k:∀ s∈K,s∈bU bi∧s∈bU bo∧τi s = τ s
theorem WI {f:FuncId} {τi:Nat→Nat} {args args':List PV} {bi u:BU} {K N:List Nat} {Q:PV→BU→Prop} {r':PV} (h:PCm P f args bi K Q) (hii:∀ s∈bU bi,∀ s'∈bU bi,τi s = τi s'→s=s')
  (hQ:∀ r bo,Q r bo→∃ τ,aap τi τ bi bo K∧aan τi τ bi bo K u∧mp τ r=r'∧∀ s∈bU bo,s ∉ K→τ s∈N) (hnew:∀ t∈N,t < 1000000)
  (ha:∀ s∈bJ args,s∈bU bi) (hargs:dJ args' = eU τi args) (hbi:Kn bi)
  (w0:WM) (F0:Nat→Prop) (ρ : Nat→Value) (b:Nat→Option Box) (w:World) (F:Nat→Prop) (vs:Array Value) (hb:∀ s B,lkU bi s=some B→∃ B',b (τi s)=some B'∧rJ B' = wb τi B) (hbn:∀ t∈N,b t=none)
  (hi:Inv w0 F0 ρ b w F) (hv:cF ρ b w F vs.toList args') :
  Calls P f vs w fun e w'=>∃ v ρ' F',e = .returned v∧Inv w0 F0 ρ' (dD b u) w' F'∧Stp ρ b w F ρ' (dD b u) w' F'∧aM ρ' (dD b u) w' F' v r':=by
 classical
 obtain ⟨_,hcall⟩:=h
 have mkσ : ∀ (τ : Nat→Nat) (dom:Nat→Prop),(∀ s,dom s→∀ s',dom s'→τ s = τ s'→s=s')→∃ σ : Nat→Nat,∀ s,dom s→σ (τ s)=s:=fun τ dom hinj=>by
  refine ⟨fun i=>if h:∃ s,dom s∧τ s=i then h.choose else i,fun s hs=>?_⟩
  have hex:∃ s',dom s'∧τ s' = τ s:=⟨s,hs,rfl⟩
  show (if h:∃ s',dom s'∧τ s' = τ s then h.choose else τ s)=s
  rw [dif_pos hex]
  exact hinj _ hex.choose_spec.1 s hs hex.choose_spec.2
 obtain ⟨σ,hσ⟩:=mkσ τi (fun s=>s∈bU bi) hii
 let ρ0:Nat→Value:=fun s=>ρ (τi s)
 let bn:Nat→Option Box:=fun i=>(b i).map rJ
 have hbt:∀ s B,lkU bi s=some B→bn (τi s)=some (wb τi B):=fun s B hs=>by
  obtain ⟨B',h1,h2⟩:=hb s B hs
  show (b (τi s)).map rJ = _
  rw [h1,← h2]; rfl
 have hdi:∀ {s B},lkU bi s=some B→s∈bU bi:=fun h=>cL.2 ⟨_,h⟩
 have hback:∀ s B,lkU bi s=some B→wb σ (wb τi B)=B:=fun s B hs=>by
  cases B with
  | st ty cs=>simp only [wb]; rw [rH cs (fun t ht=>hσ t (hbi s _ hs t ht))]
  | rw=>rfl
 have hgo:∀ s∈bU bi,∀ B',bn (τi s)=some B'→lkU bi (σ (τi s))=some (wb σ B')∧ρ0 (σ (τi s)) = ρ (τi s):=fun s hs B' hB'=>by
  obtain ⟨B,hB⟩:=cL.1 hs
  rw [hbt s B hB] at hB'
  injection hB' with hB'
  subst hB'
  rw [hσ s hs,hback s B hB]
  exact ⟨hB,rfl⟩
 have hin:∀ {x:Value} {p:PV},(∀ s∈bf p,s∈bU bi)→aM ρ bn w F x (mp τi p)→aM ρ0 (lkU bi) w F x p:=fun {x p} hp hx=>by
  have:=hx.ren (σ:=σ) (b2:=lkU bi) (ρ2:=ρ0) (fun t ht B hB=>by
   rw [LM] at ht
   obtain ⟨s,hs,rfl⟩:=List.mem_map.1 ht
   exact hgo s (hp s hs) B hB)
  rw [Rs p (fun t ht=>hσ t (hp t ht))] at this
  exact this
 have hown:∀ s B g,lkU bi s=some B→blk (ρ0 s)=some g→g < w.heap.size∧w0.own g∧¬ F g:=fun s B g hs hg=>by
  obtain ⟨B',h1,_⟩:=hb s B hs
  exact (hi.box _ _ h1).lt hg
 have hi0:Inv ⟨w,CZ ρ0 (lkU bi),fun _=>none⟩ F ρ0 (lkU bi) w F:=by
  refine ⟨.of w rfl,fun _ h=>h,hi.flt,fun _ h=>.inl h,fun s B hs=>?_,fun s s' B B' g h1 h2 hne hg=>?_,fun t q h=>by cases h⟩
  ·obtain ⟨B1,h1,h2⟩:=hb s B hs
   have hbx:=(hi.box _ _ h1).nb
   rw [h2] at hbx
   have:=hbx.ren (σ:=σ) (ρ2:=ρ0) (b2:=lkU bi) (own':=WM.own ⟨w,CZ ρ0 (lkU bi),fun _=>none⟩) (by show ρ (τi (σ (τi s))) = ρ (τi s); rw [hσ s (hdi hs)]) (fun g hg=>.inr ⟨s,B,hs,hg⟩) (fun t ht B' hB'=>by
    have ht:t∈(LO B).map τi:=by
     cases B with
     | st ty cs=>show t∈(bJ cs).map τi; rw [← o8]; exact ht
     | rw=>exact ht
    obtain ⟨s',hs',rfl⟩:=List.mem_map.1 ht
    exact hgo s' (hbi s B hs s' hs') B' hB')
   rw [hσ s (hdi hs),hback s B hs] at this
   exact this
  ·obtain ⟨B1,m1,_⟩:=hb s B h1
   obtain ⟨B2,m2,_⟩:=hb s' B' h2
   exact hi.dist _ _ _ _ g m1 m2 (fun e=>hne (hii s (hdi h1) s' (hdi h2) e)) hg
 have hv0:cF ρ0 (lkU bi) w F vs.toList args:=by
  have hlen:args'.length=args.length:=by rw [← il args',hargs,kK]
  refine ⟨by rw [hv.len,hlen],fun j x c h1 h2=>hin (fun s hs=>ha s (dF h2 hs)) ?_⟩
  have hlt:j < args.length:=(zg.1 h2).1
  have h3:args'[j]? = some args'[j]:=by simp [hlen,hlt]
  have h4:=(hv.rep j x _ h1 h3).nb.nrmd
  have h5:(dJ args')[j]? = some (qB args'[j]):=by
   have hl2:j < (dJ args').length:=by rw [il,hlen]; exact hlt
   obtain ⟨d,h6,h7⟩:=kL args' j _ (zq hl2)
   rw [h3] at h6
   injection h6 with h6
   rw [zq hl2,h7,h6]
  have h8:(eU τi args)[j]? = some (mp τi c):=by
   have hl2:j < (eU τi args).length:=by rw [kK]; exact hlt
   obtain ⟨d,h6,h7⟩:=mE τi args j _ (zq hl2)
   rw [h2] at h6
   injection h6 with h6
   rw [zq hl2,h7,h6]
  rw [hargs,h8] at h5
  injection h5 with h5
  rw [h5]
  exact h4
 refine (hcall w F ρ0 vs hi0 hv0).mono ?_
 rintro e w' ⟨v,ρ1,F',r,bo,hq,rfl,k1,k2,k3⟩
 obtain ⟨τ,hfit,hu,hr',hN⟩:=hQ r bo hq
 rw [← hr']
 have hnew:∀ s∈bU bo,s ∉ K→τ s < 1000000:=fun s h1 h2=>hnew _ (hN s h1 h2)
 have hbn:∀ s∈bU bo,s ∉ K→b (τ s)=none:=fun s h1 h2=>hbn _ (hN s h1 h2)
 obtain ⟨σo,hσo⟩:=mkσ τ (fun s=>s∈bU bo) hfit.oo
 have hdo:∀ {s B},lkU bo s=some B→s∈bU bo:=fun h=>cL.2 ⟨_,h⟩
 let ρ':Nat→Value:=fun i=>match lkU u i with | none=>ρ i | some _=>if ∃ s,s∈bU bo∧τ s=i then ρ1 (σo i) else .tuple #[]
 have hρin:∀ s B,lkU bo s=some B→ρ' (τ s) = ρ1 s:=fun s B hs=>by
  show (match lkU u (τ s) with | none=>ρ (τ s) | some _=>if ∃ s',s'∈bU bo∧τ s' = τ s then ρ1 (σo (τ s)) else .tuple #[]) = ρ1 s
  rw [hu.out s B hs]
  simp only [hσo s (hdo hs)]
  rw [if_pos ⟨s,hdo hs,rfl⟩]
 have hρgone:∀ s B,lkU bi s=some B→s ∉ K→ρ' (τi s) = .tuple #[]:=fun s B hs hn=>by
  obtain ⟨e,k,es,es',_,h1,_⟩:=hu.gone s B hs hn
  show (match lkU u (τi s) with | none=>ρ (τi s) | some _=>if ∃ s',s'∈bU bo∧τ s' = τi s then ρ1 (σo (τi s)) else .tuple #[]) = .tuple #[]
  rw [h1]
  simp only
  rw [if_neg]
  rintro ⟨s',h2,h3⟩
  exact hn (hfit.io s (hdi hs) s' h2 h3.symm).2
 have hρout:∀ i,lkU u i=none→ρ' i = ρ i:=fun i h=>by
  show (match lkU u i with | none=>ρ i | some _=>if ∃ s,s∈bU bo∧τ s=i then ρ1 (σo i) else .tuple #[]) = ρ i
  rw [h]
 have hbin:∀ s B,lkU bo s=some B→dD b u (τ s)=some (wb τ B):=fun s B hs=>by
  simp only [dD,hu.out s B hs]
 have hbout:∀ i,lkU u i=none→dD b u i=b i:=fun i h=>by simp only [dD,h]
 have hgo':∀ s B,lkU bo s=some B→dD b u (τ s)=some (wb τ B)∧ρ' (τ s) = ρ1 s:=fun s B hs=>⟨hbin s B hs,hρin s B hs⟩
 have huse:∀ s B,lkU bi s=some B→∃ C,lkU u (τi s)=some C:=fun s B hs=>by
  by_cases hk:s∈K
  ·obtain ⟨_,h2,h3⟩:=hfit.k s hk
   obtain ⟨C,hC⟩:=cL.1 h2
   exact ⟨_,by rw [h3]; exact hu.out s C hC⟩
  ·obtain ⟨e,k,es,es',_,h1,_⟩:=hu.gone s B hs hk; exact ⟨_,h1⟩
 have houtside:∀ i B,lkU u i=none→b i=some B→∀ g,blk (ρ i)=some g→g < w.heap.size∧¬ CZ ρ0 (lkU bi) g:=fun i B h hB g hg=>by
  refine ⟨((hi.box i B hB).lt hg).1,?_⟩
  rintro ⟨s,C,hs,hg2⟩
  obtain ⟨B1,m1,_⟩:=hb s C hs
  refine hi.dist i (τi s) B _ g hB m1 (fun e=>?_) hg hg2
  obtain ⟨D,hD⟩:=huse s C hs
  rw [e,hD] at h
  cases h
 have hown':∀ g,WM.own ⟨w,CZ ρ0 (lkU bi),fun _=>none⟩ g→w0.own g:=by
  rintro g (hg | ⟨s,B,hs,hg⟩)
  ·exact .inl (Nat.le_trans hi.ext.size hg)
  ·exact (hown s B g hs hg).2.1
 have hcase:∀ i B,dD b u i=some B→(∃ s C,lkU bo s=some C∧i = τ s∧B=wb τ C)∨(lkU u i=none∧b i=some B)∨(∃ e k es,B = .rw e k es∧ρ' i = .tuple #[]):=fun i B hB=>by
  cases hl:lkU u i with
  | none=>exact .inr (.inl ⟨rfl,by rw [hbout i hl] at hB; exact hB⟩)
  | some C =>
   rcases hu.only i C hl with ⟨s,hs,rfl⟩ | ⟨s,hs,hk,rfl⟩
   ·obtain ⟨C',hC'⟩:=cL.1 hs
    rw [hbin s C' hC'] at hB
    injection hB with hB
    exact .inl ⟨s,C',hC',rfl,hB.symm⟩
   ·obtain ⟨B0,hB0⟩:=cL.1 hs
    obtain ⟨e,k,es,es',_,h1,_⟩:=hu.gone s B0 hB0 hk
    simp only [dD,h1] at hB
    injection hB with hB
    exact .inr (.inr ⟨e,k,es',hB.symm,hρgone s B0 hB0 hk⟩)
 have hold:∀ s∈bU bo,∀ B,b (τ s)=some B→∃ B0,lkU bi s=some B0∧rJ B=wb τi B0∧EF bi K s=some B0∧ρ (τ s) = ρ0 s:=fun s hs B hB=>by
  by_cases hk:s∈K
  ·obtain ⟨h1,h2,h3⟩:=hfit.k s hk
   obtain ⟨B0,hB0⟩:=cL.1 h1
   obtain ⟨B1,m1,m2⟩:=hb s B0 hB0
   rw [h3,hB] at m1
   injection m1 with m1
   subst m1
   exact ⟨B0,hB0,m2,by unfold EF; rw [if_pos hk]; exact hB0,by show ρ (τ s) = ρ (τi s); rw [h3]⟩
  ·rw [hbn s hs hk] at hB
   cases hB
 have hs:Stp ρ b w F ρ' (dD b u) w' F':=by
  refine ⟨k2.hF,k2.hw,fun t ty cs ht=>?_,fun t e k es ht=>?_⟩
  ·cases hl:lkU u t with
   | none=>exact ⟨⟨ty,cs,by rw [hbout t hl]; exact ht⟩,hρout t hl⟩
   | some C =>
    rcases hu.only t C hl with ⟨s,hs,rfl⟩ | ⟨s,hs,hk,rfl⟩
    ·obtain ⟨B0,h1,h2,h3,h4⟩:=hold s hs _ ht
     cases B0 with
     | rw=>cases h2
     | st ty0 cs0 =>
      obtain ⟨⟨ty1,cs1,h5⟩,h6⟩:=k2.hst s ty0 cs0 h3
      exact ⟨⟨ty1,_,hbin s _ h5⟩,by rw [hρin s _ h5,h6,h4]⟩
    ·exfalso
     obtain ⟨B0,hB0⟩:=cL.1 hs
     obtain ⟨e,k,es,es',rfl,_⟩:=hu.gone s B0 hB0 hk
     obtain ⟨B1,m1,m2⟩:=hb s _ hB0
     rw [m1] at ht
     injection ht with ht
     subst ht
     cases m2
  ·cases hl:lkU u t with
   | none=>exact ⟨e,es,by rw [hbout t hl]; exact ht,Nat.le_refl _,fun _=>hρout t hl⟩
   | some C =>
    rcases hu.only t C hl with ⟨s,hs,rfl⟩ | ⟨s,hs,hk,rfl⟩
    ·obtain ⟨B0,h1,h2,h3,h4⟩:=hold s hs _ ht
     cases B0 with
     | st=>cases h2
     | rw e0 k0 es0 =>
      injection h2 with q1 q2 q3
      subst q1 q2 q3
      obtain ⟨e1,es1,h5,h6,h7⟩:=k2.hrw s _ _ _ h3
      exact ⟨e1,es1,hbin s _ h5,h6,fun he=>by rw [hρin s _ h5,h7 he,h4]⟩
    ·obtain ⟨B0,hB0⟩:=cL.1 hs
     obtain ⟨e1,k1',es1,es',rfl,h1,h2⟩:=hu.gone s B0 hB0 hk
     obtain ⟨B1,m1,m2⟩:=hb s _ hB0
     rw [m1] at ht
     injection ht with ht
     subst ht
     injection m2 with q1 q2 q3
     subst q1 q2 q3
     exact ⟨e,es',by simp only [dD,h1],Nat.le_of_lt h2,fun he=>by omega⟩
 refine ⟨v,ρ',F',rfl,⟨?_,fun g hg=>k1.f0 g (hi.f0 g hg),k1.flt,fun g hg=>?_,fun i B hB=>?_,fun i i' B B' g hB hB' hne hg=>?_,hi.reg_stp hs fun t ht hn=>?_⟩,hs,k3.ren fun t ht B hB=>hgo' t B hB⟩
 ·exact hi.ext.step k1.ext.os k1.ext.tape k1.ext.output k1.ext.size fun g hg hM=>k1.ext.block g (Nat.lt_of_lt_of_le hg hi.ext.size) fun ⟨s,B,hs,hg2⟩=>yC hg hM (hown s B g hs hg2).2.1
 ·rcases k1.fnew g hg with h | h
  ·exact hi.fnew g h
  ·exact .inr (hown' g h)
 ·rcases hcase i B hB with ⟨s,C,hC,rfl,rfl⟩ | ⟨hl,hB⟩ | ⟨e,k,es,rfl,hg⟩
  ·exact (k1.box s C hC).ren (hρin s C hC) (fun g hg=>hown' g ((k1.box s C hC).lt hg).2.1) (fun t ht B hB=>hgo' t B hB)
  ·refine (hi.box i B hB).mono hs (hρout i hl) (fun g hg=>?_) (fun g hg hF=>?_)
   ·obtain ⟨h1,h2⟩:=houtside i B hl hB g hg
    exact k1.ext.block g h1 h2
   ·obtain ⟨h1,h2⟩:=houtside i B hl hB g hg
    rcases k1.fnew g hF with h | h | h
    ·exact ((hi.box i B hB).lt hg).2.2 h
    ·exact absurd h1 (Nat.not_lt.2 h)
    ·exact h2 h
  ·exact .gn e k es hg
 ·have mixed:∀ s C i B,lkU bo s=some C→lkU u i=none→b i=some B→blk (ρ1 s)=some g→blk (ρ i)≠some g:=fun s C i B hC hl hB h1 h2=>by
   obtain ⟨m1,m2⟩:=houtside i B hl hB g h2
   rcases ((k1.box s C hC).lt h1).2.1 with h | h
   ·exact absurd m1 (Nat.not_lt.2 h)
   ·exact m2 h
  rcases hcase i B hB with ⟨s,C,hC,rfl,rfl⟩ | ⟨hl,hB⟩ | ⟨e,k,es,rfl,hgo⟩
  ·rw [hρin s C hC] at hg
   rcases hcase i' B' hB' with ⟨s',C',hC',rfl,rfl⟩ | ⟨hl',hB'⟩ | ⟨e,k,es,rfl,hgo⟩
   ·rw [hρin s' C' hC']
    exact k1.dist s s' C C' g hC hC' (fun e=>hne (by rw [e])) hg
   ·rw [hρout i' hl']
    exact mixed s C i' B' hC hl' hB' hg
   ·rw [hgo]; exact fun h=>by cases h
  ·rw [hρout i hl] at hg
   rcases hcase i' B' hB' with ⟨s',C',hC',rfl,rfl⟩ | ⟨hl',hB'⟩ | ⟨e,k,es,rfl,hgo⟩
   ·rw [hρin s' C' hC']
    exact fun h=>mixed s' C' i B hC' hl hB h hg
   ·rw [hρout i' hl']
    exact hi.dist i i' B B' g hB hB' hne hg
   ·rw [hgo]; exact fun h=>by cases h
  ·rw [hgo] at hg; cases hg
 ·cases hl:lkU u t with
  | none=>rw [hbout t hl]; exact hn
  | some C =>
   exfalso
   rcases hu.only t C hl with ⟨s,hs,rfl⟩ | ⟨s,hs,hk,rfl⟩
   ·by_cases hk:s∈K
    ·obtain ⟨h1,h2,h3⟩:=hfit.k s hk
     obtain ⟨B0,hB0⟩:=cL.1 h1
     obtain ⟨B1,m1,_⟩:=hb s B0 hB0
     rw [h3,hn] at m1
     cases m1
    ·have:=hnew s hs hk
     omega
   ·obtain ⟨B0,hB0⟩:=cL.1 hs
    obtain ⟨B1,m1,_⟩:=hb s B0 hB0
    rw [m1] at hn
    cases hn
end
end
section
section
variable {P:Program} {ρ ρ' ρ2:Nat→Value} {b b' b2:Nat→Option Box} {w w':World} {w0:WM} {F F' F0:Nat→Prop} {n:Nat}
theorem aM.to {x:Value} {p:PV} (h:aM ρ b w F x p) : (∀ t∈bf p,(∀ ty cs,b t=some (.st ty cs)→∃ cs',b2 t=some (.st ty cs'))∧∀ e k es,b t=some (.rw e k es)→b2 t=some (.rw e k es))→aM ρ b2 w F x p:=by
 induction h with
 | junk x=>exact fun _=>.junk x
 | d x d h=>exact fun _=>.d x d h
 | ag xs cs hl h1 hr ih=>exact fun hc=>.ag xs _ hl h1 (fun j x c h2 h3=>ih j x c h2 h3 (fun t ht=>hc t (dF h3 ht)))
 | tup xs cs hl hr ih=>exact fun hc=>.tup xs _ hl (fun j x c h2 h3=>ih j x c h2 h3 (fun t ht=>hc t (dF h3 ht)))
 | ptr t off g ty cs hb hρ =>
  intro hc
  obtain ⟨cs',h1⟩:=(hc t (by simp [bf])).1 _ _ hb
  exact .ptr _ off g ty _ h1 hρ
 | row t n A c e k es hb hn hcc hA hρ =>
  intro hc
  exact .row _ n A c e k es ((hc t (by simp [bf])).2 _ _ _ hb) hn hcc hA hρ
 | re t n i off a e k es hb hn hi hρ =>
  intro hc
  exact .re _ n i off a e k es ((hc t (by simp [bf])).2 _ _ _ hb) hn hi hρ
 | vw t n lo hi A m c e k es hb hn hl hh hm hρ =>
  intro hc
  exact .vw _ n lo hi A m c e k es ((hc t (by simp [bf])).2 _ _ _ hb) hn hl hh hm hρ
 | fe a cs us hF hcell hrep=>exact fun _=>.fe a cs us hF hcell hrep
 | fn f xs ys ps qs hl hr hl2 hr2 ih ih2 =>
  intro hc
  exact .fn f xs ys _ _ hl (fun j x c h2 h3=>ih j x c h2 h3 (fun t ht=>hc t (by simp only [bf,List.mem_append]; exact .inl (dF h3 ht))))
   hl2 (fun j x c h2 h3=>ih2 j x c h2 h3 (fun t ht=>hc t (by simp only [bf,List.mem_append]; exact .inr (dF h3 ht))))
mutual
theorem LN:∀ p:PV,bf (qB p)=bf p
 | .junk=>rfl
 | .d _=>rfl
 | .ptr _ _=>rfl
 | .row _ _=>rfl
 | .re _ _ _ _=>rfl
 | .vw _ _ _ _=>rfl
 | .fe _=>rfl
 | .ag cs=>by simp only [qB,bf,o9 cs]
 | .tup cs=>by simp only [qB,bf,o9 cs]
 | .fn f ps qs=>by simp only [qB,bf,o9 ps,o9 qs]
theorem o9:∀ cs:List PV,bJ (dJ cs)=bJ cs
 | []=>rfl
 | c::cs=>by simp only [dJ,bJ,LN c,o9 cs]
end
def yr (ρ : Nat→Value) (bi:BU) (K:List Nat) : Nat→Option (Value×Option (Nat×Nat)):=fun t=>if t∈K then (match lkU bi t with
 | some (.st _ _)=>some (ρ t,none)
 | some (.rw _ k es)=>some (ρ t,some (k,es.length))
 | none=>none) else none
def aal (P:Program) (fn:Func) (K:List Nat) (Q:PV→BU→Prop) (e:Exit) (s:PS) : Prop :=
 (match e with | .normal=>True | .ret=>True | _=>False)∧∃ r bo,Q r bo∧(∀ t∈K,t∈bU bo)∧(∀ s∈bf r,s∈bU bo)∧Kn bo∧(∃ p,qU P fn s=some p∧qB p=r)∧∀ t B,lkU bo t=some B→∃ B',s.b t=some B'∧rJ B' = B
theorem S8 {f:FuncId} {fn:Func} {c:Code} {args:List PV} {bi:BU} {K:List Nat} {Q:PV→BU→Prop} (hf:P.funcs[f]? = some fn) (hb:fn.body=some c) (hcb:eh P f=true) (hlen:args.length≤fn.ntmps)
  (hid:∀ t∈K,1000000≤t) (h:PWP P fn.ntmps c (aal P fn K Q) ⟨mt args,lkU bi⟩) : PCm P f args bi K Q:=by
 refine ⟨hcb,fun w F ρ vs hi0 hv=>?_⟩
 refine calls_of_wp hf hb ?_
 have hl:vs.size=args.length:=by have:=hv.len; simpa using this
 have hi1:Inv ⟨w,CZ ρ (lkU bi),yr ρ bi K⟩ F ρ (lkU bi) w F:=by
  refine ⟨⟨hi0.ext.os,hi0.ext.tape,hi0.ext.output,hi0.ext.size,hi0.ext.block⟩,hi0.f0,hi0.flt,hi0.fnew,hi0.box,hi0.dist,fun t q hq=>?_⟩
  have hq:yr ρ bi K t=some q:=hq
  unfold yr at hq
  split at hq
  ·rename_i hk
   split at hq
   ·rename_i ty cs hB
    injection hq with hq
    subst hq
    exact ⟨hid t hk,.inr ⟨⟨ty,cs,hB⟩,rfl⟩⟩
   ·rename_i e k es hB
    injection hq with hq
    subst hq
    exact ⟨hid t hk,.inr ⟨e,es,hB,Nat.le_refl _,fun _=>rfl⟩⟩
   ·cases hq
  ·cases hq
 have hc:nX fn.ntmps ⟨w,CZ ρ (lkU bi),yr ρ bi K⟩ F ⟨mt args,lkU bi⟩ { tmps:=vs++Array.replicate (fn.ntmps - vs.size) undef,defers:=[] } w:=by
  refine ⟨by simp; omega,rfl,ρ,F,hi1,fun i=>?_⟩
  by_cases hi:i < vs.size
  ·have e1:(vs++Array.replicate (fn.ntmps - vs.size) undef).getD i undef=vs[i]:=by simp [Array.getElem?_append,hi]
   show aM ρ (lkU bi) w F _ (mt args i)
   rw [e1]
   have hia:i < args.length:=by omega
   unfold mt
   rw [zq hia]
   exact hv.rep i _ _ (by simp [hi]) (zq hia)
  ·show aM ρ (lkU bi) w F _ (mt args i)
   unfold mt
   rw [List.getElem?_eq_none (by omega)]
   exact .junk _
 refine wp_mono (h ⟨w,CZ ρ (lkU bi),yr ρ bi K⟩ F _ w hc) fun e a' w' ⟨s',⟨hex,r,bo,hq,hid2,hr,hbo,⟨p,h1,h2⟩,h3⟩,_,hd,ρ',F',hi,hev⟩=>?_
 obtain ⟨v,hv1,hv2⟩:=D6 (P:=P) hi hev h1
 have hto:∀ t∈bU bo,(∀ ty cs,s'.b t=some (.st ty cs)→∃ cs',lkU bo t=some (.st ty cs'))∧∀ e k es,s'.b t=some (.rw e k es)→lkU bo t=some (.rw e k es):=fun t ht=>by
  obtain ⟨B,hB⟩:=cL.1 ht
  obtain ⟨B',hB',hn⟩:=h3 t B hB
  refine ⟨fun ty cs k=>?_,fun e k es k1=>?_⟩
  ·rw [hB'] at k
   injection k with k
   subst k
   exact ⟨_,by rw [hB,← hn]; rfl⟩
  ·rw [hB'] at k1
   injection k1 with k1
   subst k1
   rw [hB,← hn]; rfl
 have hbox:∀ t B,lkU bo t=some B→jh ρ' (lkU bo) (WM.own ⟨w,CZ ρ (lkU bi),fun _=>none⟩) w' F' t B:=fun t B hB=>by
  obtain ⟨B',hB',rfl⟩:=h3 t B hB
  have hbx:=hi.box t B' hB'
  have hcl:=hbo t _ hB
  cases hbx with
  | st ty cs g xs hr0 hg hF0 hh hl h1 hr =>
   refine .st ty _ g xs hr0 hg hF0 hh (by rw [il]; exact hl) h1 (fun j x c k1 k2=>?_)
   obtain ⟨d,k3,rfl⟩:=kL cs j c k2
   refine ((hr j x d k1 k3).to fun s hs=>hto s (hcl s ?_)).nrmd
   show s∈bJ (dJ cs)
   rw [o9]
   exact dF k3 hs
  | rw e k es xs hk0 m1 m2 m3 m4 m5 m6=>exact .rw e k es xs hk0 m1 m2 m3 m4 m5 m6
  | gn e k es m1=>exact .gn e k es m1
 have hstp:Stp ρ (EF bi K) w F ρ' (lkU bo) w' F':=by
  have hk:∀ t B,EF bi K t=some B→lkU bi t=some B∧t∈K∧t∈bU bo:=fun t B ht=>by
   unfold EF at ht
   split at ht
   ·rename_i hk; exact ⟨ht,hk,hid2 t hk⟩
   ·cases ht
  refine ⟨fun g hg=>hi.f0 g hg,fun g hg=>?_,fun t ty cs ht=>?_,fun t e k es ht=>?_⟩
  ·exact hi.ext.block g (hi0.flt g hg) fun ⟨t,B,hB,hg2⟩=>((hi0.box t B hB).lt hg2).2.2 hg
  ·obtain ⟨ht,hkt,m1⟩:=hk t _ ht
   have m2:=(hi.reg t (ρ t,none) (by show yr ρ bi K t = _; unfold yr; rw [if_pos hkt,ht])).2
   rcases m2 with m2 | ⟨⟨ty',cs',m2⟩,m3⟩
   ·obtain ⟨B,hB⟩:=cL.1 m1
    obtain ⟨B',hB',_⟩:=h3 t B hB
    rw [m2] at hB'
    cases hB'
   ·obtain ⟨cs2,h5⟩:=(hto t m1).1 _ _ m2
    exact ⟨⟨_,_,h5⟩,m3⟩
  ·obtain ⟨ht,hkt,m1⟩:=hk t _ ht
   have m2:=(hi.reg t (ρ t,some (k,es.length)) (by show yr ρ bi K t = _; unfold yr; rw [if_pos hkt,ht])).2
   rcases m2 with m2 | ⟨e',es',m2,m3,m4⟩
   ·obtain ⟨B,hB⟩:=cL.1 m1
    obtain ⟨B',hB',_⟩:=h3 t B hB
    rw [m2] at hB'
    cases hB'
   ·exact ⟨e',es',(hto t m1).2 _ _ _ m2,m3,m4⟩
 have hinv:Inv ⟨w,CZ ρ (lkU bi),fun _=>none⟩ F ρ' (lkU bo) w' F':=by
  refine ⟨⟨hi.ext.os,hi.ext.tape,hi.ext.output,hi.ext.size,hi.ext.block⟩,hi.f0,hi.flt,hi.fnew,hbox,fun t t' B B' g k1 k2 hne hg=>?_,fun t q hq=>by cases hq⟩
  obtain ⟨_,m1,_⟩:=h3 t B k1
  obtain ⟨_,m2,_⟩:=h3 t' B' k2
  exact hi.dist t t' _ _ g m1 m2 hne hg
 have hres:aM ρ' (lkU bo) w' F' v r:=by
  rw [← h2]
  exact (hv2.to fun s hs=>hto s (hr s (by rw [← h2,LN]; exact hs))).nrmd
 have fin:a'.defers = []∧∃ v,(results fn a'.tmps).run P w' = .ok v w'∧∃ v' ρ'' F'' r bo,Q r bo∧Ending.returned v = .returned v'∧Inv ⟨w,CZ ρ (lkU bi),fun _=>none⟩ F ρ'' (lkU bo) w' F''∧Stp ρ (EF bi K) w F ρ'' (lkU bo) w' F''∧aM ρ'' (lkU bo) w' F'' v' r :=
  ⟨hd,v,hv1,v,ρ',F',r,bo,hq,rfl,hinv,hstp,hres⟩
 cases e with
 | normal=>exact fin
 | ret=>exact fin
 | exit _=>exact hex.elim
 | goto _=>exact hex.elim
 | panic _=>exact hex.elim
 | outgrown=>exact hex.elim
end
end
section
variable {B:List (Nat×Option a6)} {s:SS} {p:PS} {P:Program} {ρ : Type}
theorem nM (hs:Sim s p) : ∀ l:List Operand,bZ s.bx (we s l) (l.map (ev p))
 | []=>.nil
 | x::l=>.cons (bW hs x) (nM hs l)
theorem Vv {c:Bool} {v w z:SV} {q r:PV} (hv:be B v q) (hw:be B w r) (h:Vx c v w=some z) : be B z (if c then q else r):=by
 unfold Vx at h
 split at h
 ·split at h
  ·rename_i hk
   subst hk
   injection h with h
   subst h
   obtain rfl:=kT hv
   obtain rfl:=kT hw
   cases c
   ·exact fI _ _
   ·exact fI _ _
  ·cases h
 ·injection h with h
  subst h
  obtain rfl:=kU hv
  obtain rfl:=kU hw
  cases c
  ·exact eM _
  ·exact eM _
 ·injection h with h
  subst h
  obtain rfl:=qS hv
  obtain rfl:=qS hw
  cases c
  ·exact wD _
  ·exact wD _
 ·cases c
  ·injection h with h; subst h; exact hw
  ·injection h with h; subst h; exact hv
theorem SO {x:ByteArray} {i z:Int} (h:lc x i=some z) : 0≤i∧∃ c:UInt8,x.data.toList[i.toNat]? = some c∧z=(c.toNat:Int):=by
 unfold lc at h
 split at h
 ·rename_i h0
  rw [zm] at h
  obtain ⟨c,h1,h2⟩:=h
  exact ⟨h0,c,h1,h2.symm⟩
 ·cases h
theorem Yn {o:Oper} (hs:Sim s p) {k:SV→Upd→Option ρ} {res : ρ} (hst:∀ t x y,o.op = .store t x y→o.dst=none) (h:Yo P o s k=some res) : N9 s p o.dst k res (eff P o p):=by
 unfold Yo at h
 unfold eff
 split at h
 all_goals
  rename_i ho
  simp only [ho]
 ·exact ⟨_,.no,_,none,rfl,h,k9 hs (bW hs _),trivial,dI⟩
 ·exact ⟨_,.no,_,none,rfl,h,k9 hs (bW hs _),trivial,dI⟩
 ·rename_i c x y
  split at h
  ·rename_i t hc
   split at h
   ·rename_i v hv
    have hq:=bW hs c
    rw [hc] at hq
    have hb:asB (ev p c)=some t:=by rw [kU hq]; rfl
    simp only [hb]
    exact ⟨_,.no,_,none,rfl,h,k9 hs (Vv (bW hs x) (bW hs y) hv),trivial,dI⟩
   ·cases h
  ·cases h
 ·rename_i e
  split at h
  ·rename_i t i hd hi
   split at h
   ·rename_i z hb hz
    obtain ⟨h1,h2⟩:=ao h
    obtain ⟨hfr,h1⟩:=mH h1
    have hbd:p.b t=none:=by have:=hs.bx t; rw [hb] at this; exact this hfr
    refine ⟨_,_,.ptr t 0,some (t,.st e (pm i)),?_,h2,?_,⟨h1,hb⟩,yA hb hd⟩
    ·simp [uE,hd,hi,hbd]
    ·exact oM hs (qP hb) (fun _=>⟨_,rfl,vu hz⟩) (.ptr t 0 _ _ (by rw [ar,if_pos rfl]))
   ·cases h
  ·cases h
 ·rename_i e x
  split at h
  ·rename_i t cs hd hc
   split at h
   ·rename_i hb
    obtain ⟨h1,h2⟩:=ao h
    obtain ⟨hfr,h1⟩:=mH h1
    have hbd:p.b t=none:=by have:=hs.bx t; rw [hb] at this; exact this hfr
    obtain ⟨qs,h3,h4⟩:=Br (bW hs x) hc
    refine ⟨_,_,.ptr t 0,some (t,.st e qs),?_,h2,?_,⟨h1,hb⟩,yA hb hd⟩
    ·simp [Fj,hd,h3,hbd]
    ·exact oM hs (qP hb) (fun _=>⟨_,rfl,h4.mono (qP hb)⟩) (.ptr t 0 _ _ (by rw [ar,if_pos rfl]))
   ·cases h
  ·cases h
 ·rename_i t ps
  split at h
  ·rename_i i fl hi hf
   split at h
   ·rename_i z hz
    split at h
    ·rename_i cs hcs
     obtain ⟨qs,h1,h2⟩:=EX hs _ (vu hz) hcs
     refine ⟨_,.no,.ag qs,none,?_,h,k9 hs (.ag _ _ h2.len h2.rep),trivial,dI⟩
     simp only [yT,hi,hf,h1]
     rfl
    ·cases h
   ·cases h
  ·cases h
 ·exact FI hs h
 ·rename_i t x
  split at h
  ·rename_i v hv
   obtain ⟨r,h1,h2⟩:=L8 hs (bW hs x) hv
   exact ⟨_,.no,r,none,by simp [h1],h,k9 hs h2,trivial,dI⟩
  ·cases h
 ·rename_i t x y
  exact SH hs (hst _ _ _ ho) (bW hs x) (bW hs y) h
 ·rename_i op t x y yt
  exact (YI (bW hs x) (bW hs y) (fun n kd z hn hz=>VU hn hz) h).done hs
 ·rename_i op t x
  exact (Zh (bW hs x) h).done hs
 ·rename_i src dst x
  exact (WC hs (bW hs x) h).done hs
 ·rename_i t x lo hi
  exact (SJ hs (bW hs x) h).done hs
 ·rename_i t x f
  exact (G3 (bW hs x) h).done hs
 ·rename_i t x f
  exact (Tz (bW hs x) h).done hs
 ·rename_i t x i
  exact G2 hs (bW hs x) (bW hs i) h
 ·rename_i x i
  split at h
  ·rename_i vs hv
   split at h
   ·rename_i v hvi
    have hq:=bW hs x
    rw [hv] at hq
    obtain ⟨qs,h1,h2⟩:=U2 hq
    have hlt:i < qs.length:=by rw [← h2.len]; exact (zg.1 hvi).1
    have hqi:qs[i]? = some qs[i]:=by simp [hlt]
    refine ⟨_,.no,qs[i],none,?_,h,k9 hs (h2.rep i _ _ hvi hqi),trivial,dI⟩
    simp [s8,h1,hqi]
   ·cases h
  ·cases h
 ·rename_i t x i
  split at h
  ·rename_i sx kd ix hu hx hi
   obtain ⟨z,h1,h2⟩:=cM h
   obtain ⟨h3,c,h4,rfl⟩:=SO h1
   have hq:=bW hs x
   rw [hx] at hq
   have hr:=bW hs i
   rw [hi] at hr
   refine ⟨_,.no,_,none,?_,h2,k9 hs (fI .u8 _),trivial,dI⟩
   simp [Kc,hu,qS hq,kT hr,asS,asI,h3,h4]
  ·cases h
 ·rename_i c
  split at h
  ·rename_i f hf
   simp only [hf]
   unfold M4 at h
   unfold ta
   have hargs:=nM hs c.args.toList
   split at h
   ·split at h
    ·rename_i x t hx ht
     rw [hx] at hargs
     rcases hargs.cases with ⟨h1,_⟩ | ⟨v,q,vs,qs,h1,h2,h3,h4⟩
     ·cases h1
     ·injection h1 with e1 e2
      subst e1 e2
      rcases h4.cases with ⟨_,rfl⟩ | ⟨_,_,_,_,h5,_⟩
      ·simp only [h2,ht]
       exact (X7 hs h3 h).done hs
      ·cases h5
    ·cases h
   ·split at h
    ·rename_i x y t t' hx ht
     rw [hx] at hargs
     rcases hargs.cases with ⟨h1,_⟩ | ⟨v,q,vs,qs,h1,h2,h3,h4⟩
     ·cases h1
     ·injection h1 with e1 e2
      subst e1 e2
      rcases h4.cases with ⟨h5,_⟩ | ⟨v2,q2,vs2,qs2,h5,h6,h7,h8⟩
      ·cases h5
      ·injection h5 with e1 e2
       subst e1 e2
       rcases h8.cases with ⟨_,rfl⟩ | ⟨_,_,_,_,h9,_⟩
       ·subst h6
        simp only [h2,ht]
        split at h
        ·rename_i htt
         have htt:t' = t:=by simpa using htt
         rw [if_pos htt]
         exact (Pr hs h3 h7 h).1
        ·cases h
       ·cases h9
    ·cases h
   ·split at h
    ·rename_i x xs hx
     rw [hx] at hargs
     rcases hargs.cases with ⟨h1,_⟩ | ⟨v,q,vs,qs,h1,h2,h3,h4⟩
     ·cases h1
     ·injection h1 with e1 e2
      subst e1 e2
      split at h
      ·rename_i w hw
       obtain ⟨r,h5,h6⟩:=A0 false xs x w q qs h3 h4 hw
       simp only [h2]
       exact ⟨_,.no,r,none,by simp [show sY q qs=some r from h5],h,k9 hs h6,trivial,dI⟩
      ·cases h
    ·cases h
   ·split at h
    ·rename_i x xs hx
     rw [hx] at hargs
     rcases hargs.cases with ⟨h1,_⟩ | ⟨v,q,vs,qs,h1,h2,h3,h4⟩
     ·cases h1
     ·injection h1 with e1 e2
      subst e1 e2
      split at h
      ·rename_i w hw
       obtain ⟨r,h5,h6⟩:=A0 true xs x w q qs h3 h4 hw
       simp only [h2]
       exact ⟨_,.no,r,none,by simp [show sZ q qs=some r from h5],h,k9 hs h6,trivial,dI⟩
      ·cases h
    ·cases h
   ·split at h
    ·rename_i x y t t' hx ht
     rw [hx] at hargs
     rcases hargs.cases with ⟨h1,_⟩ | ⟨v,q,vs,qs,h1,h2,h3,h4⟩
     ·cases h1
     ·injection h1 with e1 e2
      subst e1 e2
      rcases h4.cases with ⟨h5,_⟩ | ⟨v2,q2,vs2,qs2,h5,h6,h7,h8⟩
      ·cases h5
      ·injection h5 with e1 e2
       subst e1 e2
       rcases h8.cases with ⟨_,rfl⟩ | ⟨_,_,_,_,h9,_⟩
       ·subst h6
        simp only [h2,ht]
        exact WA hs h3 h7 h
       ·cases h9
    ·cases h
   ·cases h
  ·cases h
 ·rename_i f ps qs
  have h1:=nM hs ps.toList
  have h2:=nM hs qs.toList
  exact ⟨_,.no,_,none,rfl,h,k9 hs (.fn f _ _ _ _ h1.len h1.rep h2.len h2.rep),trivial,dI⟩
 ·rename_i t x y
  exact VR hs h
 ·rename_i x
  exact (XY (bW hs x) h).done hs
 ·cases h
def toC:(c:CT)→c.den→PV
 | .v t,x=>.d (qC t x).toD
 | .a i,x=>.ag ((stD i x).map .d)
 | .pl t,x=>.fe [(qC t x).toD]
 | .ps i,x=>.fe (stD i x)
def DS:(cs:List CT)→uG cs→List PV
 | [],_=>[]
 | c::cs,x=>toC c x.1::DS cs x.2
def pn:(p:PT)→p.den→PV
 | .lf t,x=>.d (qC t x).toD
 | .ag i,x=>.ag ((stD i x).map .d)
 | .pl t,x=>.fe [(qC t x).toD]
 | .ps i,x=>.fe (stD i x)
 | .fn f a b,x=>.fn f (DS a x.1) (DS b x.2)
 | .own ..,_=>.junk
 | .mv ..,_=>.junk
 | .bx ..,_=>.junk
 | .agr ..,_=>.junk
 | .io _,_=>.junk
def rz:(ps:List PT)→ct ps→List PV
 | [],_=>[]
 | p::ps,x=>pn p x.1::rz ps x.2
def yn:(rs:List PT)→bc rs→List PV
 | [],_=>[]
 | [p],x=>[pn p x]
 | p::q::l,x=>pn p x.1::yn (q::l) x.2
def toR (rs:List PT) (x:bc rs) : PV:=match rs,x with
 | [p],x=>pn p x
 | rs,x=>.tup (yn rs x)
def dW (rows:List (Nat×Nat×Nat×Nat×Ty)) : Nat→List D→List PV
 | _,[]=>[]
 | j,d::ds=>(match pC rows j with
  | some (R,_,_,_)=>(match d with | .sl es=>.row R es.length | .v _=>.junk)
  | none=>.d d)::dW rows (j + 1) ds
def cg (rows:List (Nat×Nat×Nat×Nat×Ty)) : Nat→List D→BU
 | _,[]=>[]
 | j,d::ds=>match pC rows j with
  | some (R,e,k,_)=>(match d with | .sl es=>(R,.rw e k es)::cg rows (j + 1) ds | .v _=>cg rows (j + 1) ds)
  | none=>cg rows (j + 1) ds
def rwU (e k:Nat) (t:Ty) (xs:List t.den) : Box:=.rw e k (xs.map (bR t))
def toI:(p:PT)→List Nat→p.den→PV×BU
 | .own e k t,is,xs=>(match is with | [i]=>(.row i (show List t.den from xs).length,[(i,rwU e k t xs)]) | _=>(.junk,[]))
 | .mv e k t,is,xs=>(match is with | [i]=>(.row i (show List t.den from xs).length,[(i,rwU e k t xs)]) | _=>(.junk,[]))
 | .bx ty n rows,is,x=>(match is with | i::is=>(.ptr i 0,(i,.st ty (dW (ml rows is) 0 (stD n x)))::cg (ml rows is) 0 (stD n x)) | _=>(.junk,[]))
 | .agr n rows,is,x=>(.ag (dW (ml rows is) 0 (stD n x)),cg (ml rows is) 0 (stD n x))
 | .io _,_,_=>(.junk,[])
 | .lf t,_,x=>(pn (.lf t) x,[])
 | .ag i,_,x=>(pn (.ag i) x,[])
 | .pl t,_,x=>(pn (.pl t) x,[])
 | .ps i,_,x=>(pn (.ps i) x,[])
 | .fn f a b,_,x=>(pn (.fn f a b) x,[])
def dU:(ps:List PT)→List (List Nat)→ct ps→List PV×BU
 | [],_,_=>([],[])
 | p::ps,is::iss,x=>((toI p is x.1).1::(dU ps iss x.2).1,(toI p is x.1).2++(dU ps iss x.2).2)
 | _ :: _,[],_=>([],[])
def YY:Box→Box
 | .rw e k es=>.rw e k (es ++ [[]])
 | B=>B
def EM (l:BU) : List Nat→BU
 | []=>[]
 | t::ts=>(t,match lkU l t with | some B=>YY B | none=>.st 0 [])::EM l ts
def toO:(p:PT)→(b:IB)→List Nat→List Nat→p.den→b.den→BU
 | .own ..,.own e k t,is,_,_,xs=>(match is with | [i]=>[(i,rwU e k t xs)] | _=>[])
 | .bx ..,.bx ty n rows,is,js,_,x=>(match is with | i :: _=>(i,.st ty (dW (ml rows js) 0 (stD n x)))::cg (ml rows js) 0 (stD n x) | _=>[])
 | _,_,_,_,_,_=>[]
def Ih:PT→List Nat→List Nat
 | .mv ..,is=>is
 | .bx ..,_ :: is=>is
 | _,_=>[]
def pz:List PT→List (List Nat)→List Nat
 | p::ps,is::iss=>Ih p is++pz ps iss
 | _,_=>[]
def SE:(ps:List PT)→(ls:List IB)→List (List Nat)→List (List Nat)→ct ps→yy ls→BU
 | p::ps,b::ls,is::iss,js::kss,x,o=>toO p b is js x.1 o.1++SE ps ls iss kss x.2 o.2
 | _,_,_,_,_,_=>[]
def cP:(rs:List PT)→List (List Nat)→bc rs→List PV×BU
 | [p],is :: _,x=>([(toI p is x).1],(toI p is x).2)
 | p::q::l,is::iss,x=>((toI p is x.1).1::(cP (q::l) iss x.2).1,(toI p is x.1).2++(cP (q::l) iss x.2).2)
 | _,_,_=>([],[])
def yz:List PV→PV
 | [v]=>v
 | vs=>.tup vs
def Z4:(p:PT)→(b:IB)→p.den→b.den→Prop
 | .own _ _ t,.own _ _ t',x,o=>(show List t'.den from o).length=(show List t.den from x).length
 | _,_,_,_=>True
def Mb:(ps:List PT)→(ls:List IB)→ct ps→yy ls→Prop
 | p::ps,b::ls,x,o=>Z4 p b x.1 o.1∧Mb ps ls x.2 o.2
 | _,_,_,_=>True
def iA:List PT→List (List Nat)→Prop
 | [],[]=>True
 | p::ps,is::iss=>is.length=p.nI∧iA ps iss
 | _,_=>False
def jS:List IB→List (List Nat)→Prop
 | [],[]=>True
 | b::ls,js::kss=>js.length=b.nJ∧jS ls kss
 | _,_=>False
def tH (ps rs:List PT) (iss kss jss:List (List Nat)) (x:ct ps) (r:bc rs) : BU:=SE ps (cx rs) iss kss x (jN rs r)++((cP (eT rs) jss (iB rs r)).2++EM (dU ps iss x).2 (pz ps iss))
def aaq (P:Program) (f:FuncId) (ps rs:List PT) (x:ct ps) (r:bc rs) : Prop :=
 Mb ps (cx rs) x (jN rs r)∧∀ iss kss jss,iA ps iss→jS (cx rs) kss→iA (eT rs) jss→(bm iss++(bm kss++bm jss)).Nodup→(∀ j∈bm kss++bm jss,j < 1000000)→(∀ i∈bm iss,i∈bU (dU ps iss x).2)→eh P f=true ∧
  ∀ (w0:WM) (F0:Nat→Prop) (ρ : Nat→Value) (b:Nat→Option Box) (w:World) (F:Nat→Prop) (vs:Array Value) (args:List PV),dJ args=(dU ps iss x).1→(∀ t B,lkU (dU ps iss x).2 t=some B→∃ B',b t=some B'∧rJ B' = B)→(∀ t∈bm kss++bm jss,b t=none) →
   Inv w0 F0 ρ b w F→cF ρ b w F vs.toList args→Calls P f vs w fun e w'=>∃ v ρ' F',e = .returned v∧Inv w0 F0 ρ' (dD b (tH ps rs iss kss jss x r)) w' F'∧Stp ρ b w F ρ' (dD b (tH ps rs iss kss jss x r)) w' F'∧aM ρ' (dD b (tH ps rs iss kss jss x r)) w' F' v (yz (cP (eT rs) jss (iB rs r)).1)
def bN (P:Program) (f:FuncId) (ps rs:List PT) (F:ct ps→Option (bc rs)) : Prop:=∀ x r,F x=some r→((oW ps||oW rs)=false→PC P f (rz ps x) (toR rs r))∧((oW ps||oW rs)=true→aaq P f ps rs x r)
def qQ (P:Program) (T:List (Nat×Ent)) : Prop:=∀ f vs en,lkE T f vs=some en→bN P f en.ps en.rs en.f
theorem qQ.nil:qQ P []:=fun f vs en h=>by cases h
theorem qQ.cons {T:List (Nat×Ent)} {f:FuncId} {ps rs:List PT} {F:ct ps→Option (bc rs)} (h:bN P f ps rs F) (hT:qQ P T) : qQ P ((f,⟨ps,rs,F⟩)::T):=by
 intro g vs en hg
 simp only [lkE,cR] at hg
 by_cases e:g=f
 ·subst e
  simp only [decide_true] at hg
  split at hg
  ·injection hg with hg
   subst hg
   exact h
  ·exact hT g vs en hg
 ·simp only [e,decide_false] at hg
  exact hT g vs en hg
theorem Dw {t:Ty} {c:SD} {x:t.den} (h:c.as t=some x) : (qC t x).toD=c.toD:=by
 have h1:=SD.as_ok h
 cases t with
 | st i=>simp [SD.as] at h
 | _=>simp only [bR,List.cons.injEq,and_true] at h1; exact h1
theorem Wx (hs:Sim s p) {t:Ty} {v:SV} {q:PV} {x:t.den} (hv:be s.bx v q) (h:Ys s t v=some x) : asData p.b q = .d (qC t x).toD∧(pw v=true→clean q=true∧asData dM q = .d (qC t x).toD):=by
 unfold Ys at h
 split at h
 ·rename_i c hc
  have:=Ww hs hv hc
  simp only [Dw h]
  exact this
 ·cases h
theorem aak (hs:Sim s p) {i:Nat} {v:SV} {q:PV} {x:ST i} (hv:be s.bx v q) (h:Yv s i v=some x) : asData p.b q = .ag ((stD i x).map .d)∧(pw v=true→clean q=true∧asData dM q = .ag ((stD i x).map .d)):=by
 unfold Yv at h
 split at h
 ·rename_i cs
  split at h
  ·rename_i ds hds
   obtain ⟨qs,rfl,hq⟩:=Hv hv
   obtain ⟨h1,h2⟩:=Sj hs hq hds
   have h3:=AK h
   have e:ds.map (fun c=>PV.d c.toD)=(stD i x).map .d:=by rw [← h3,List.map_map]; rfl
   refine ⟨by simp only [asData,h1,e],fun hn=>?_⟩
   obtain ⟨h4,h5⟩:=h2 hn
   exact ⟨by simpa [clean] using h4,by simp only [asData,h5,e]⟩
  ·cases h
 ·cases h
theorem aab {cs:List SD} {q:PV} (b:Nat→Option Box) (hv:be B (.fe cs) q) : asData b q = .fe (cs.map SD.toD)∧clean q=true:=by
 cases hv with
 | fe _ ds h hn=>subst h; exact ⟨rfl,rfl⟩
theorem TA {t:Ty} {v:SV} {q:PV} {x:t.den} (b:Nat→Option Box) (hv:be B v q) (h:Sh t v=some x) : asData b q = .fe [(qC t x).toD]∧clean q=true:=by
 unfold Sh at h
 split at h
 ·rename_i c
  have e:(qC t x).toD=c.toD:=Dw h
  rw [e]
  exact aab b hv
 ·cases h
theorem Tn {i:Nat} {v:SV} {q:PV} {x:ST i} (b:Nat→Option Box) (hv:be B v q) (h:Sg i v=some x) : asData b q = .fe (stD i x)∧clean q=true:=by
 unfold Sg at h
 split at h
 ·rename_i cs
  rw [← AK h]
  exact aab b hv
 ·cases h
theorem Yw (hs:Sim s p) {t:CT} {v:SV} {q:PV} {x:t.den} (hv:be s.bx v q) (h:aaf s t v=some x) : asData p.b q=toC t x∧(pw v=true→clean q=true∧asData dM q=toC t x):=by
 cases t with
 | v t=>exact Wx hs hv h
 | a i=>exact aak hs hv h
 | pl t=>exact ⟨(TA p.b hv h).1,fun _=>⟨(TA p.b hv h).2,(TA dM hv h).1⟩⟩
 | ps i=>exact ⟨(Tn p.b hv h).1,fun _=>⟨(Tn p.b hv h).2,(Tn dM hv h).1⟩⟩
theorem Ft (hs:Sim s p) : ∀ {ps:List CT} {vs:List SV} {qs:List PV} {x:uG ps},bZ s.bx vs qs→MT s ps vs=some x→bM p.b qs=DS ps x∧(cy vs=true→cH qs=true∧bM dM qs=DS ps x)
 | [],[],qs,x,hv,h=>by
  rcases hv.cases with ⟨_,rfl⟩ | ⟨_,_,_,_,h1,_⟩
  ·simp [bM,DS,cH]
  ·cases h1
 | [],_ :: _,_,_,_,h=>by cases h
 | _ :: _,[],_,_,_,h=>by cases h
 | t::ps,v::vs,qs,x,hv,h=>by
  rcases hv.cases with ⟨h1,_⟩ | ⟨v',q,vs',qs',h1,rfl,h2,h3⟩
  ·cases h1
  ·injection h1 with e1 e2
   subst e1 e2
   simp only [MT] at h
   obtain ⟨y,h4,h5⟩:=cM h
   obtain ⟨ys,h6,h7⟩:=cM h5
   injection h7 with h7
   subst h7
   obtain ⟨m1,m2⟩:=Yw hs h2 h4
   obtain ⟨m3,m4⟩:=Ft hs h3 h6
   refine ⟨by simp [bM,DS,m1,m3],fun hn=>?_⟩
   simp only [cy] at hn
   split at hn
   ·rename_i hn1
    obtain ⟨n1,n2⟩:=m2 hn1
    obtain ⟨n3,n4⟩:=m4 hn
    simp [bM,cH,DS,n1,n2,n3,n4]
   ·cases hn
theorem YP {f:FuncId} {ps qs:List SV} {q:PV} (h:be B (.fn f ps qs) q) : ∃ ps' qs',q = .fn f ps' qs'∧bZ B ps ps'∧bZ B qs qs':=by
 cases h with
 | fn _ _ _ ps' qs' hl hr hl2 hr2=>exact ⟨ps',qs',rfl,⟨hl,hr⟩,hl2,hr2⟩
theorem Dx (hs:Sim s p) {t:PT} {v:SV} {q:PV} {x:t.den} (hv:be s.bx v q) (h:MY s t v=some x) : asData p.b q=pn t x∧(pw v=true→clean q=true∧asData dM q=pn t x):=by
 cases t with
 | lf t=>exact Wx hs hv h
 | ag i=>exact aak hs hv h
 | pl t=>exact ⟨(TA p.b hv h).1,fun _=>⟨(TA p.b hv h).2,(TA dM hv h).1⟩⟩
 | ps i=>exact ⟨(Tn p.b hv h).1,fun _=>⟨(Tn p.b hv h).2,(Tn dM hv h).1⟩⟩
 | fn f a b =>
  have h:ZH s f a b v=some x:=h
  unfold ZH at h
  split at h
  ·rename_i f' ps qs
   split at h
   ·rename_i hf
    rw [cR] at hf
    have hf:=zd hf
    subst hf
    obtain ⟨y,h4,h5⟩:=cM h
    obtain ⟨ys,h6,h7⟩:=cM h5
    injection h7 with h7
    subst h7
    obtain ⟨ps',qs',rfl,k1,k2⟩:=YP hv
    obtain ⟨m1,m2⟩:=Ft hs k1 h4
    obtain ⟨m3,m4⟩:=Ft hs k2 h6
    refine ⟨by simp only [asData,pn,m1,m3],fun hn=>?_⟩
    simp only [pw] at hn
    split at hn
    ·rename_i hn1
     obtain ⟨n1,n2⟩:=m2 hn1
     obtain ⟨n3,n4⟩:=m4 hn
     exact ⟨by simp only [clean,n1,n3,Bool.and_self],by simp only [asData,pn,n2,n4]⟩
    ·cases hn
   ·cases h
  ·cases h
 | own=>exact dC (x:=x) h
 | mv=>exact dC (x:=x) h
 | bx=>exact dC (x:=x) h
 | agr=>exact dC (x:=x) h
 | io=>exact dC (x:=x) h
theorem MX (hs:Sim s p) : ∀ {ps:List PT} {vs:List SV} {qs:List PV} {x:ct ps},bZ s.bx vs qs→Si s ps vs=some x→bM p.b qs=rz ps x∧(cy vs=true→cH qs=true∧bM dM qs=rz ps x)
 | [],[],qs,x,hv,h=>by
  rcases hv.cases with ⟨_,rfl⟩ | ⟨_,_,_,_,h1,_⟩
  ·simp [bM,rz,cH]
  ·cases h1
 | [],_ :: _,_,_,_,h=>by cases h
 | _ :: _,[],_,_,_,h=>by cases h
 | t::ps,v::vs,qs,x,hv,h=>by
  rcases hv.cases with ⟨h1,_⟩ | ⟨v',q,vs',qs',h1,rfl,h2,h3⟩
  ·cases h1
  ·injection h1 with e1 e2
   subst e1 e2
   simp only [Si] at h
   obtain ⟨y,h4,h5⟩:=cM h
   obtain ⟨ys,h6,h7⟩:=cM h5
   injection h7 with h7
   subst h7
   obtain ⟨m1,m2⟩:=Dx hs h2 h4
   obtain ⟨m3,m4⟩:=MX hs h3 h6
   refine ⟨by simp [bM,rz,m1,m3],fun hn=>?_⟩
   simp only [cy] at hn
   split at hn
   ·rename_i hn1
    obtain ⟨n1,n2⟩:=m2 hn1
    obtain ⟨n3,n4⟩:=m4 hn
    simp [bM,cH,rz,n1,n2,n3,n4]
   ·cases hn
theorem Jx (i:Nat) (x:ST i) : bZ B (A4 (stC i x)) ((stD i x).map .d):=by
 rw [← ua i x]
 exact Ev _ (xa i x)
theorem R5 {t:Ty} (x:t.den) (h:∀ i,t≠.st i) : be B (.fe [qC t x]) (.fe [(qC t x).toD]):=by
 refine .fe _ _ rfl fun c hc=>?_
 simp only [List.mem_cons,List.not_mem_nil,or_false] at hc
 subst hc
 cases t with
 | st i=>exact absurd rfl (h i)
 | _=>exact fun e=>by cases e
theorem Ws:∀ (t:CT) (x:t.den),aag t=true→be B (aad t x) (toC t x)
 | .v (.int _),x,_=>fI _ _
 | .v .bool,x,_=>eM _
 | .v .str,x,_=>wD _
 | .v (.sl t),x,_=>Od t x
 | .v (.st i),x,h=>by cases h
 | .a i,x,_=>.ag _ _ (Jx (B:=B) i x).len (Jx i x).rep
 | .pl t,x,h=>R5 x fun i e=>by subst e; cases h
 | .ps i,x,_=>.fe _ _ (ua i x).symm (xa i x)
theorem Bm:∀ (ps:List CT) (x:uG ps),Fv ps=true→bZ B (Iz ps x) (DS ps x)
 | [],_,_=>.nil
 | p::ps,x,h=>by
  simp only [Fv] at h
  split at h
  ·rename_i hp; exact .cons (Ws p x.1 hp) (Bm ps x.2 h)
  ·cases h
theorem yR:∀ (t:PT) (x:t.den),S6 t=true→be B (TC t x) (pn t x)
 | .lf (.int _),x,_=>fI _ _
 | .lf .bool,x,_=>eM _
 | .lf .str,x,_=>wD _
 | .lf (.sl t),x,_=>Od t x
 | .lf (.st i),x,h=>by cases h
 | .ag i,x,_=>.ag _ _ (Jx (B:=B) i x).len (Jx i x).rep
 | .pl t,x,h=>R5 x fun i e=>by subst e; cases h
 | .ps i,x,_=>.fe _ _ (ua i x).symm (xa i x)
 | .fn f a b,x,h=>by
  have h:(match Fv a with | true=>Fv b | false=>false)=true:=h
  split at h
  ·rename_i h1
   have k1:=Bm (B:=B) a x.1 h1
   have k2:=Bm (B:=B) b x.2 h
   exact .fn f _ _ _ _ k1.len k1.rep k2.len k2.rep
  ·cases h
 | .own ..,x,h=>by cases h
 | .mv ..,x,h=>by cases h
 | .bx ..,x,h=>by cases h
 | .agr ..,x,h=>by cases h
 | .io _,x,h=>by cases h
theorem IA:∀ (ps:List PT) (x:ct ps),ul ps=true→bZ B (Co ps x) (rz ps x)
 | [],_,_=>.nil
 | p::ps,x,h=>by
  simp only [ul] at h
  split at h
  ·rename_i hp; exact .cons (yR p x.1 hp) (IA ps x.2 h)
  ·cases h
theorem Bl:∀ (rs:List PT) (x:bc rs),ul rs=true→bZ B (R9 rs x) (yn rs x)
 | [],_,_=>.nil
 | [p],x,h=>by
  simp only [ul] at h
  split at h
  ·rename_i hp; exact .cons (yR p x hp) .nil
  ·cases h
 | p::q::l,x,h=>by
  have h':S6 p=true∧ul (q::l)=true:=by
   rw [ul] at h
   split at h
   ·rename_i hp; exact ⟨hp,h⟩
   ·cases h
  exact .cons (yR p x.1 h'.1) (Bl (q::l) x.2 h'.2)
theorem Wr (rs:List PT) (x:bc rs) (h:ul rs=true) : be B (aac rs x) (toR rs x):=by
 match rs,x,h with
 | [],x,h=>exact .tup _ _ rfl (fun j c q h1=>by simp [R9] at h1)
 | [p],x,h =>
  have:=Bl (B:=B) [p] x h
  exact this.head
 | p::q::l,x,h =>
  have:=Bl (B:=B) (p::q::l) x h
  exact .tup _ _ this.len this.rep
theorem EV:∀ {ds:List D},(∀ d∈ds,∃ x,d = .v x)→uB (ds.map .d)=true
 | [],_=>rfl
 | d::ds,h=>by
  obtain ⟨x,rfl⟩:=h d List.mem_cons_self
  simp [uB,flat,EV (fun d hd=>h d (List.mem_cons_of_mem _ hd))]
theorem Im:∀ (t:PT) (x:t.den),t.flat=true→flat (pn t x)=true
 | .lf (.int _),_,_=>rfl
 | .lf .bool,_,_=>rfl
 | .lf .str,_,_=>rfl
 | .lf (.sl _),_,h=>by cases h
 | .lf (.st _),_,h=>by cases h
 | .ag i,x,h=>by
  simp only [pn,flat]
  exact EV (Zj i x h)
 | .pl _,_,h=>by cases h
 | .ps _,_,h=>by cases h
 | .fn _ _ _,_,h=>by cases h
 | .own ..,_,h=>by cases h
 | .mv ..,_,h=>by cases h
 | .bx ..,_,h=>by cases h
 | .agr ..,_,h=>by cases h
 | .io _,_,h=>by cases h
theorem Il:∀ (rs:List PT) (x:bc rs),qL rs=true→uB (yn rs x)=true
 | [],_,_=>rfl
 | [p],x,h=>by
  simp only [qL] at h
  split at h
  ·rename_i hp; simp [yn,uB,Im p x hp]
  ·cases h
 | p::q::l,x,h=>by
  have h':p.flat=true∧qL (q::l)=true:=by
   rw [qL] at h
   split at h
   ·rename_i hp; exact ⟨hp,h⟩
   ·cases h
  simp [yn,uB,Im p x.1 h'.1,Il (q::l) x.2 h'.2]
theorem uF:∀ (ds:List D),cH (ds.map .d)=true
 | []=>rfl
 | d::ds=>by simp [cH,clean,uF ds]
theorem TR:∀ (t:CT) (x:t.den),clean (toC t x)=true
 | .v _,_=>rfl
 | .a i,x=>by simp [toC,clean,uF]
 | .pl _,_=>rfl
 | .ps _,_=>rfl
theorem FB:∀ (cs:List CT) (x:uG cs),cH (DS cs x)=true
 | [],_=>rfl
 | c::cs,x=>by simp only [DS,cH,TR c x.1,FB cs x.2,Bool.and_self]
theorem dG:∀ (t:PT) (x:t.den),clean (pn t x)=true
 | .lf _,_=>rfl
 | .ag i,x=>by simp [pn,clean,uF]
 | .pl _,_=>rfl
 | .ps _,_=>rfl
 | .fn _ a b,x=>by simp only [pn,clean,FB,Bool.and_self]
 | .own ..,_=>rfl
 | .mv ..,_=>rfl
 | .bx ..,_=>rfl
 | .agr ..,_=>rfl
 | .io _,_=>rfl
theorem FA:∀ (rs:List PT) (x:bc rs),cH (yn rs x)=true
 | [],_=>rfl
 | [p],x=>by simp only [yn,cH,Bool.and_true]; exact dG p x
 | p::q::l,x=>by simp only [yn,cH,Bool.and_eq_true]; exact ⟨dG p x.1,FA (q::l) x.2⟩
theorem ry (rs:List PT) (x:bc rs) : (∃ p,yn rs x = [p]∧toR rs x=p)∨toR rs x = .tup (yn rs x):=by
 match rs,x with
 | [],x=>exact .inr rfl
 | [p],x=>exact .inl ⟨_,rfl,rfl⟩
 | p::q::l,x=>exact .inr rfl
theorem Wl (rs:List PT) (x:bc rs) (h:qL rs=true) : flat (toR rs x)=true:=by
 have:=Il rs x h
 rcases ry rs x with ⟨p,h1,h2⟩ | h1
 ·rw [h1] at this
  rw [h2]
  simpa [uB] using this
 ·rw [h1]
  simpa [flat] using this
theorem TQ (rs:List PT) (x:bc rs) : clean (toR rs x)=true:=by
 have:=FA rs x
 rcases ry rs x with ⟨p,h1,h2⟩ | h1
 ·rw [h1] at this
  rw [h2]
  simpa [cH] using this
 ·rw [h1]
  simpa [clean] using this
theorem WF {T:List (Nat×Ent)} (hT:qQ P T) (hs:Sim s p) {f:Nat} {vs:List SV} {qs:List PV} (hM:Ti T f vs=false) (hv:bZ s.bx vs qs) {k:SV→Option ρ} {res : ρ} (h:Sm T f s vs k=some res) : ∃ v r,Ll P f p.b qs r∧k v=some res∧be s.bx v r:=by
 unfold Sm at h
 split at h
 ·cases h
 ·rename_i en hen
  have h0:=(ao h).1
  replace h:=(ao h).2
  have h1:=(ao h).1
  replace h:=(ao h).2
  obtain ⟨x,h2,h⟩:=cM h
  obtain ⟨r,h3,h4⟩:=cM h
  obtain ⟨m1,m2⟩:=MX hs hv h2
  have hc:=(hT f _ en hen x r h3).1 (by unfold Ti at hM; rw [hen] at hM; exact hM)
  refine ⟨_,toR en.rs r,?_,h4,Wr en.rs r h0⟩
  simp only [Bool.or_eq_true] at h1
  rcases h1 with h1 | h1
  ·obtain ⟨n1,n2⟩:=m2 h1
   exact .inl ⟨n1,TQ _ _,by rw [n2]; exact hc⟩
  ·exact .inr ⟨Wl _ _ h1,by rw [m1]; exact hc⟩
end
section
section
variable {P:Program} {n:Nat} {Qs:Exit→PS→Prop} {c:Code}
end
end
end Go.Proofs.YtchddofjajgopaaGreat
