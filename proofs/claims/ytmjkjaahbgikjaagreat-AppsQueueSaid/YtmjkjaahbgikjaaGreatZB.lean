/- My texts, in one. -/
import Derived.Test.YtmjkjaahbgikjaaGreatZA
set_option linter.all false
set_option maxRecDepth 100000
set_option maxHeartbeats 4000000
namespace Go.Proofs.YtmjkjaahbgikjaaGreat
open Go.RowKit
open IntKind (i64)
open Go.Proofs.Tryz (prog)
section
section
variable {α σ τ S:Type}
theorem aL {f : σ→Option (σ⊕τ)} (I : σ→Prop) (μ : σ→Nat) (Q : τ→Prop) (h:∀ s,I s→(∃ s',f s=some (.inl s')∧I s'∧μ s' < μ s)∨(∃ r,f s=some (.inr r)∧Q r)) : ∀ (N:Nat) (s : σ),I s→μ s < N→∃ r,ai f N s=some r∧Q r
 | 0,s,_,hm=>absurd hm (Nat.not_lt_zero _)
 | N + 1,s,hI,hm=>by
  rcases h s hI with ⟨s',h1,h2,h3⟩ | ⟨r,h1,h2⟩
  ·obtain ⟨r,h4,h5⟩:=aL I μ Q h N s' h2 (by omega)
   exact ⟨r,by simp only [ai,h1]; exact h4,h5⟩
  ·exact ⟨r,by simp only [ai,h1],h2⟩
def bh (g : σ→α→Option (σ⊕τ)) (fin : σ→τ) : σ→List α→Option τ
 | a,[]=>some (fin a)
 | a,x::l=>match g a x with
  | none=>none
  | some (.inl a')=>bh g fin a' l
  | some (.inr r)=>some r
def oe (g : σ→Int→α→Option (σ⊕τ)) (fin : σ→τ) : σ→Nat→List α→Option τ
 | a,_,[]=>some (fin a)
 | a,k,x::l=>match g a (k:Int) x with
  | none=>none
  | some (.inl a')=>oe g fin a' (k + 1) l
  | some (.inr r)=>some r
theorem vj (l:List α) (mk : σ→Int→S) (f:S→Option (S⊕τ)) (g : σ→Int→α→Option (σ⊕τ)) (fin : σ→τ)
  (hstep:∀ (k:Nat) (a : σ) (x : α),l[k]? = some x→f (mk a (k:Int))=(g a (k:Int) x).map (fun o=>match o with | .inl a'=>.inl (mk a' ((k + 1:Nat) : Int)) | .inr r=>.inr r))
  (hend:∀ a,f (mk a (l.length:Int))=some (.inr (fin a))) : ∀ (N k:Nat) (a : σ),k≤l.length→l.length - k < N→ai f N (mk a (k:Int))=oe g fin a k (l.drop k)
 | 0,k,a,_,hN=>absurd hN (Nat.not_lt_zero _)
 | N + 1,k,a,hk,hN=>by
  by_cases hlt:k < l.length
  ·have hx:l[k]? = some l[k]:=zq hlt
   have hd:l.drop k=l[k] :: l.drop (k + 1):=(List.getElem_cons_drop hlt).symm
   rw [hd]
   simp only [ai,hstep k a _ hx,oe]
   cases hg:g a (k:Int) l[k] with
   | none=>rfl
   | some o =>
    cases o with
    | inl a'=>exact vj l mk f g fin hstep hend N (k + 1) a' hlt (by omega)
    | inr r=>rfl
  ·have:k=l.length:=by omega
   subst this
   simp only [ai,hend a,List.drop_length,oe]
theorem fo (l:List α) (mk : σ→Int→S) {f:S→Option (S⊕τ)} (g : σ→Int→α→Option (σ⊕τ)) (fin : σ→τ) {N:Nat} (hN:l.length < N)
  (hstep:∀ (k:Nat) (a : σ) (x : α),l[k]? = some x→f (mk a (k:Int))=(g a (k:Int) x).map (fun o=>match o with | .inl a'=>.inl (mk a' ((k + 1:Nat) : Int)) | .inr r=>.inr r))
  (hend:∀ a,f (mk a (l.length:Int))=some (.inr (fin a))) (a : σ) : ai f N (mk a 0)=oe g fin a 0 l:=by
 have:=vj l mk f g fin hstep hend N 0 a (Nat.zero_le _) (by omega)
 rwa [List.drop_zero] at this
theorem Jk {β γ δ : Type} (o:Option β) (k : β→Option γ) (f : γ→δ) : (o.bind k).map f=o.bind fun x=>(k x).map f:=by cases o <;> rfl
theorem Xz {γ δ : Type} {c:Bool} (a b:Option γ) (f : γ→δ) : (if c=true then a else b).map f=if c=true then a.map f else b.map f:=by cases c <;> rfl
theorem ZZ {β γ δ ε : Type} (o : β⊕γ) (a : β→Option δ) (b : γ→Option δ) (f : δ→ε) : (match o with | .inr y=>b y | .inl x=>a x).map f=match o with | .inr y=>(b y).map f | .inl x=>(a x).map f:=by cases o <;> rfl
theorem xo (l:List α) (mk : σ→Int→S) (f:S→Option (S⊕τ)) (g : σ→α→Option (σ⊕τ)) (fin : σ→τ)
  (hstep:∀ (k:Nat) (a : σ) (x : α),l[k]? = some x→f (mk a (k:Int))=(g a x).map (fun o=>match o with | .inl a'=>.inl (mk a' ((k + 1:Nat) : Int)) | .inr r=>.inr r))
  (hend:∀ a,f (mk a (l.length:Int))=some (.inr (fin a))) : ∀ (N k:Nat) (a : σ),k≤l.length→l.length - k < N→ai f N (mk a (k:Int))=bh g fin a (l.drop k)
 | 0,k,a,_,hN=>absurd hN (Nat.not_lt_zero _)
 | N + 1,k,a,hk,hN=>by
  by_cases hlt:k < l.length
  ·have hx:l[k]? = some l[k]:=zq hlt
   have hd:l.drop k=l[k] :: l.drop (k + 1):=(List.getElem_cons_drop hlt).symm
   rw [hd]
   simp only [ai,hstep k a _ hx,bh]
   cases hg:g a l[k] with
   | none=>rfl
   | some o =>
    cases o with
    | inl a'=>exact xo l mk f g fin hstep hend N (k + 1) a' hlt (by omega)
    | inr r=>rfl
  ·have:k=l.length:=by omega
   subst this
   simp only [ai,hend a,List.drop_length,bh]
theorem ay (l:List α) (mk : σ→Int→S) {f:S→Option (S⊕τ)} (g : σ→α→Option (σ⊕τ)) (fin : σ→τ) {N:Nat} (hN:l.length < N)
  (hstep:∀ (k:Nat) (a : σ) (x : α),l[k]? = some x→f (mk a (k:Int))=(g a x).map (fun o=>match o with | .inl a'=>.inl (mk a' ((k + 1:Nat) : Int)) | .inr r=>.inr r))
  (hend:∀ a,f (mk a (l.length:Int))=some (.inr (fin a))) (a : σ) : ai f N (mk a 0)=bh g fin a l:=by
 have:=xo l mk f g fin hstep hend N 0 a (Nat.zero_le _) (by omega)
 rwa [List.drop_zero] at this
theorem xn (l:List α) (p : α→Bool) {f:Int→Option (Int⊕Int)} (hstep:∀ (k:Nat) (x : α),l[k]? = some x→f (k:Int)=if p x=true then some (.inl ((k + 1:Nat) : Int)) else some (.inr (k:Int))) (hend:f (l.length:Int)=some (.inr (l.length:Int))) :
  ∀ (N k:Nat),k≤l.length→l.length - k < N→ai f N (k:Int)=some ((k + ((l.drop k).takeWhile p).length:Nat) : Int)
 | 0,k,_,hN=>absurd hN (Nat.not_lt_zero _)
 | N + 1,k,hk,hN=>by
  by_cases hlt:k < l.length
  ·have hx:l[k]? = some l[k]:=zq hlt
   have hd:l.drop k=l[k] :: l.drop (k + 1):=(List.getElem_cons_drop hlt).symm
   simp only [ai,hstep k _ hx]
   rw [hd,List.takeWhile_cons]
   cases hp:p l[k] with
   | true =>
    simp only [if_true]
    rw [xn l p hstep hend N (k + 1) hlt (by omega)]
    simp only [List.length_cons]
    congr 2
    omega
   | false=>simp
  ·have:k=l.length:=by omega
   subst this
   simp only [ai,hend,List.drop_length,List.takeWhile_nil,List.length_nil,Nat.add_zero]
theorem tR (l:List α) (p : α→Bool) {f:Int→Option (Int⊕Int)} {N:Nat} (hN:l.length < N) (hstep:∀ (k:Nat) (x : α),l[k]? = some x→f (k:Int)=if p x=true then some (.inl ((k + 1:Nat) : Int)) else some (.inr (k:Int))) (hend:f (l.length:Int)=some (.inr (l.length:Int))) :
  ai f N 0=some ((l.takeWhile p).length:Int):=by
 have:=xn l p hstep hend N 0 (Nat.zero_le _) (by omega)
 simpa using this
theorem lA (p : α→Bool) (l:List α) : (l.takeWhile p).length≤l.length:=(List.takeWhile_sublist p).length_le
theorem nn {l:List α} {k:Nat} (h:k≤l.length) : hiO l (k:Int)=some (l.take k):=by
 unfold hiO
 rw [if_pos ⟨Int.natCast_nonneg k,by rw [zt]; exact h⟩,zt]
theorem jX {l:List α} {k:Nat} (h:k≤l.length) : loO l (k:Int)=some (l.drop k):=by
 unfold loO
 rw [if_pos ⟨Int.natCast_nonneg k,by rw [zt]; exact h⟩,zt]
theorem aF {l m:List α} (h:l.length + m.length≤1000000) : aP l m=some (l++m):=by unfold aP; rw [if_pos h]
theorem aV {g : σ→α→Option (σ⊕τ)} {fin : σ→τ} (I:Nat→σ→Prop) (Q : τ→Prop) : ∀ (l:List α) (k:Nat) (a : σ),(∀ (j:Nat) (a : σ) (x : α),l[j]? = some x→I (k + j) a→∃ o,g a x=some o∧(∀ a',o = .inl a'→I (k + j + 1) a')∧∀ r,o = .inr r→Q r)→(∀ a,I (k + l.length) a→Q (fin a))→I k a→∃ r,bh g fin a l=some r∧Q r
 | [],k,a,_,hf,hI=>⟨fin a,rfl,hf a hI⟩
 | x::l,k,a,h,hf,hI=>by
  obtain ⟨o,h1,h2,h3⟩:=h 0 a x rfl hI
  cases o with
  | inl a' =>
   obtain ⟨r,h4,h5⟩:=aV I Q l (k + 1) a' (fun j a x hj hI=>by
    have:=h (j + 1) a x hj (by rw [show k + (j + 1)=k + 1 + j by omega]; exact hI)
    rw [show k + (j + 1) + 1=k + 1 + j + 1 by omega] at this
    exact this) (fun a hI=>hf a (by rw [List.length_cons,show k + (l.length + 1)=k + 1 + l.length by omega]; exact hI)) (h2 a' rfl)
   exact ⟨r,by simp only [bh,h1]; exact h4,h5⟩
  | inr r=>exact ⟨r,by simp only [bh,h1],h3 r rfl⟩
theorem NF {l:List α} {i:Int} (h0 : 0≤i) (h1:i < (l.length:Int)) : ∃ x,ar l i=some x∧x∈l:=by
 unfold ar
 rw [if_pos h0]
 have:i.toNat < l.length:=by omega
 exact ⟨l[i.toNat],zq this,List.getElem_mem this⟩
theorem orB (a b:Bool) : (if a=true then some true else some b)=some (a||b):=by cases a <;> rfl
theorem dy (a b:Bool) : (if a=true then some b else some false)=some (a&&b):=by cases a <;> rfl
theorem bV (p : α→Bool) (q : α→σ) {ρ : Type} (fin:List σ→ρ) : ∀ (l:List α) (acc:List σ),acc.length + l.length≤1000000→bh (fun acc x=>if p x=true then (aP acc [q x]).map (fun a=>(.inl a:List σ⊕ρ)) else some (.inl acc)) fin acc l=some (fin (acc++(l.filter p).map q))
 | [],acc,_=>by simp [bh]
 | x::l,acc,h=>by
  simp only [List.length_cons] at h
  simp only [bh,List.filter_cons]
  cases hp:p x with
  | true =>
   simp only [if_true,aF (show acc.length + [q x].length≤1000000 by simp; omega),Option.map_some]
   rw [bV p q fin l _ (by simp; omega)]
   simp
  | false=>simpa using bV p q fin l acc (by omega)
def cE (key : α→Int) (l:List α) (a : α) : List α :=
 l.take (l.takeWhile fun x=>decide (key x < key a)).length++a::l.drop (match l[(l.takeWhile fun x=>decide (key x < key a)).length]? with | some x=>if (key x==key a)=true then (l.takeWhile fun x=>decide (key x < key a)).length + 1 else (l.takeWhile fun x=>decide (key x < key a)).length | none=>(l.takeWhile fun x=>decide (key x < key a)).length)
theorem aD {l:List α} {k:Nat} {x : α} (h:l[k]? = some x) : ar l (k:Int)=some x:=by
 unfold ar
 rw [if_pos (Int.natCast_nonneg k),zt,h]
theorem bG {l:List α} {k:Nat} {x : α} (h:l[k]? = some x) : decide ((k:Int) < (l.length:Int))=true:=by
 have:=(zg.1 h).1
 simpa using this
theorem bv (l:List α) : decide ((l.length:Int) < (l.length:Int))=false:=by simp
theorem aR {k n:Nat} (h:k < n) (hn:n≤1000000) : i64.wrap ((k:Int) + 1)=((k + 1:Nat) : Int):=abP k (by omega)
theorem an {n:Nat} (h:n≤1000000) : n < ab:=by unfold ab; omega
theorem p7 (h : σ→α→σ) (fin : σ→τ) : ∀ (l:List α) (a : σ),bh (fun a x=>some (.inl (h a x))) fin a l=some (fin (l.foldl h a))
 | [],_=>rfl
 | x::l,a=>p7 h fin l (h a x)
theorem tI (p : α→Bool) (q : α→τ) (d : τ) : ∀ l:List α,bh (fun (_:Unit) x=>if p x=true then some (.inr (q x)) else some (.inl ())) (fun _=>d) () l=some (((l.find? p).map q).getD d)
 | []=>rfl
 | x::l=>by
  simp only [bh,List.find?_cons]
  cases hp:p x with
  | true=>rfl
  | false=>simpa using tI p q d l
end
theorem bN {α : Type} {a b:Option α} (h:a=b:=by (have hk:=(zg.1 hx).1; simp only [bG hx,if_true,aD hx,zb,aR hk hl,Jk,Xz,ZZ,Option.map_some]; all_goals (repeat (first | rfl | (refine congrArg (Option.bind _) (funext fun r_=>?_)) | (refine iteB ?_ ?_) | (cases r_ <;> rfl))))) : a=b:=h
theorem cL {α : Type} {a b:Option α} (h:a=b:=by simp only [bv,zf,if_false]) : a=b:=h
end
inductive Ty where
 | int (k:IntKind)
 | bool
 | str
 | sl (t:Ty)
 | st (i:Nat)
def Ty.same:(a b:Ty)→Option (PLift (a=b))
 | .int j,.int k=>if h:j=k then some ⟨by rw [h]⟩ else none
 | .bool,.bool=>some ⟨rfl⟩
 | .str,.str=>some ⟨rfl⟩
 | .sl a,.sl b=>match Ty.same a b with | some ⟨h⟩=>some ⟨by rw [h]⟩ | none=>none
 | .st i,.st j=>if h:i=j then some ⟨by rw [h]⟩ else none
 | _,_=>none
def lhO {α : Type} (l:List α) (a b:Int) : Option (List α):=if 0≤a∧0≤b∧a.toNat≤b.toNat∧b.toNat≤l.length then some ((l.drop a.toNat).take (b.toNat - a.toNat)) else none
def ST:Nat→Type
 | 0=>az
 | 1=>aM
 | 2=>ak
 | 3=>eB
 | 4=>av
 | 5=>ax
 | 6=>ao
 | 7=>aZ
 | 8=>a8
 | 9=>aK
 | 10=>bz
 | 11=>bA
 | 12=>aa
 | 15=>aQ
 | 16=>aA
 | 17=>bc
 | 18=>aj
 | _=>Unit
def Ty.den:Ty→Type
 | .int _=>Int
 | .bool=>Bool
 | .str=>ByteArray
 | .sl t=>List (Ty.den t)
 | .st i=>ST i
inductive SD where
 | int (k:IntKind) (x:Int)
 | bool (b:Bool)
 | str (s:ByteArray)
 | sl (t:Ty) (xs:List t.den)
 | nl
def stD:(i:Nat)→ST i→List D
 | 0,x=>az.d x
 | 1,x=>aM.d x
 | 2,x=>ak.d x
 | 3,x=>eB.d x
 | 4,x=>av.d x
 | 5,x=>ax.d x
 | 6,x=>ao.d x
 | 7,x=>aZ.d x
 | 8,x=>a8.d x
 | 9,x=>aK.d x
 | 10,x=>bz.d x
 | 11,x=>bA.d x
 | 12,x=>aa.d x
 | 15,x=>aQ.d x
 | 16,x=>aA.d x
 | 17,x=>bc.d x
 | 18,x=>aj.d x
 | 13,_=>[]
 | 14,_=>[]
 | _ + 19,_=>[]
def bK:(t:Ty)→t.den→List D
 | .int k,x=>[.v (.int k x)]
 | .bool,x=>[.v (.bool x)]
 | .str,x=>[.v (.string x)]
 | .sl t,xs=>[.sl (List.map (bK t) xs)]
 | .st i,x=>stD i x
def zG {t u:Ty} (h:t=u) (xs:List t.den) : List u.den:=h ▸ xs
def SD.toD:SD→D
 | .int k x=>.v (.int k x)
 | .bool x=>.v (.bool x)
 | .str x=>.v (.string x)
 | .sl t xs=>.sl (List.map (bK t) xs)
 | .nl=>.sl []
def SD.as:(t:Ty)→SD→Option t.den
 | .int k,.int k' x=>if k' = k then some x else none
 | .bool,.bool x=>some x
 | .str,.str x=>some x
 | .sl t,.sl t' xs=>match Ty.same t' t with | some ⟨h⟩=>some (zG h xs) | none=>none
 | .sl t,.nl=>some ([] : List t.den)
 | _,_=>none
def ru:(t:Ty)→t.den→SD
 | .int k,x=>.int k x
 | .bool,x=>.bool x
 | .str,x=>.str x
 | .sl t,xs=>.sl t xs
 | .st _,_=>.nl
def stN:Nat→Nat
 | 0=>2
 | 1=>8
 | 2=>14
 | 3=>2
 | 4=>3
 | 5=>2
 | 6=>9
 | 7=>8
 | 8=>6
 | 9=>35
 | 10=>5
 | 11=>3
 | 12=>10
 | 15=>5
 | 16=>3
 | 17=>2
 | 18=>2
 | _=>0
def acx:TypeId→Option Nat
 | 27=>some 0
 | 123=>some 1
 | 30=>some 2
 | 98=>some 3
 | 63=>some 4
 | 36=>some 5
 | 91=>some 6
 | 72=>some 7
 | 74=>some 8
 | 76=>some 9
 | 66=>some 10
 | 93=>some 11
 | 43=>some 12
 | 78=>some 15
 | 25=>some 16
 | 243=>some 17
 | 199=>some 18
 | _=>none
def stF:Nat→Bool
 | 0=>true
 | 1=>true
 | 2=>false
 | 3=>true
 | 4=>false
 | 5=>false
 | 6=>true
 | 7=>true
 | 8=>true
 | 9=>false
 | 10=>false
 | 11=>true
 | 12=>false
 | 15=>true
 | 16=>false
 | 17=>true
 | 18=>true
 | _=>true
def stC:(i:Nat)→ST i→List SD
 | 0,(x:az)=>[.int .i64 x.bH,.int .i64 x.be]
 | 1,(x:aM)=>[.int .i64 x.bq,.int .i64 x.a6,.int .i64 x.cJ.bH,.int .i64 x.cJ.be,.int .i64 x.gg,.int .i64 x.bM,.int .i64 x.eZ,.int .i64 x.g6]
 | 2,(x:ak)=>[.int .i64 x.fId,.int .i64 x.cC,.str x.bD,.int .i64 x.cD,.int .i64 x.bq,.int .i64 x.bb.bH,.int .i64 x.bb.be,.sl (.st 1) x.bL,.int .i64 x.bQ,.int .i64 x.ci,.sl (.int .i64) x.bP,.sl (.int .i64) x.dr,.sl (.int .i64) x.ji,.sl (.int .i64) x.jU]
 | 3,(x:eB)=>[.int .i64 x.kN,.int .i64 x.sW]
 | 4,(x:av)=>[.str x.aB,.sl (.st 3) x.bu,.int .i64 x.cD]
 | 5,(x:ax)=>[.sl (.str) x.al,.sl (.st 4) x.ae]
 | 6,(x:ao)=>[.int .i64 x.fId,.int .i64 x.bE,.int .i64 x.bM,.int .i64 x.cJ.bH,.int .i64 x.cJ.be,.int .i64 x.bq,.int .i64 x.a6,.bool x.bb,.int .i64 x.jB]
 | 7,(x:aZ)=>[.int .i64 x.fId,.int .i64 x.a6,.int .i64 x.eZ,.int .i64 x.lj.bH,.int .i64 x.lj.be,.int .i64 x.bQ,.int .i64 x.ci,.bool x.fUp]
 | 8,(x:a8)=>[.int .i64 x.fId,.int .i64 x.a6,.int .i64 x.ou,.int .i64 x.jY,.int .i64 x.iX.bH,.int .i64 x.iX.be]
 | 9,(x:aK)=>[.int .i64 x.il,.int .i64 x.fId,.int .i64 x.ci,.int .i64 x.fN,.str x.NV,.int .i64 x.bM.fId,.int .i64 x.bM.a6,.int .i64 x.bM.eZ,.int .i64 x.bM.lj.bH,.int .i64 x.bM.lj.be,.int .i64 x.bM.bQ,.int .i64 x.bM.ci,.bool x.bM.fUp,.int .i64 x.bE.fId,.int .i64 x.bE.cC,.str x.bE.bD,.int .i64 x.bE.cD,.int .i64 x.bE.bq,.int .i64 x.bE.bb.bH,.int .i64 x.bE.bb.be,.sl (.st 1) x.bE.bL,.int .i64 x.bE.bQ,.int .i64 x.bE.ci,.sl (.int .i64) x.bE.bP,.sl (.int .i64) x.bE.dr,.sl (.int .i64) x.bE.ji,.sl (.int .i64) x.bE.jU,.sl (.st 1) x.bL,.sl (.int .i64) x.gf,.int .i64 x.ql.fId,.int .i64 x.ql.a6,.int .i64 x.ql.ou,.int .i64 x.ql.jY,.int .i64 x.ql.iX.bH,.int .i64 x.ql.iX.be]
 | 10,(x:bz)=>[.int .i64 x.abu,.sl (.st 6) x.ac,.sl (.int .i64) x.gf,.sl (.int .i64) x.aaV,.int .i64 x.fN]
 | 11,(x:bA)=>[.int .i64 x.bM,.int .i64 x.bE,.int .i64 x.bq]
 | 12,(x:aa)=>[.sl (.str) x.bB.al,.sl (.st 4) x.bB.ae,.sl (.st 7) x.aE,.sl (.st 2) x.ah,.sl (.st 6) x.ac,.sl (.st 11) x.aU,.sl (.st 8) x.bl,.int .i64 x.bZ,.int .i64 x.qm,.int .i64 x.sV]
 | 15,(x:aQ)=>[.int .i64 x.il,.int .i64 x.fA,.int .i64 x.fB,.int .i64 x.fC,.int .i64 x.fD]
 | 16,(x:aA)=>[.int .i64 x.Lg,.sl (.int .i64) x.fNs,.sl (.st 15) x.jV]
 | 17,(x:bc)=>[.int .i64 x.fA,.int .i64 x.fP]
 | 18,(x:aj)=>[.str x.aB,.int .i64 x.bH]
 | 13,_=>[]
 | 14,_=>[]
 | _ + 19,_=>[]
def az.k:List SD→Option az
 | c0::c1 :: []=>Option.bind (c0.as (.int .i64)) fun x0=>Option.bind (c1.as (.int .i64)) fun x1=>some (⟨x0,x1⟩ : az)
 | _=>none
def aM.k:List SD→Option aM
 | c0::c1::c2::c3::c4::c5::c6::c7 :: []=>Option.bind (c0.as (.int .i64)) fun x0=>Option.bind (c1.as (.int .i64)) fun x1=>Option.bind (c2.as (.int .i64)) fun x2=>Option.bind (c3.as (.int .i64)) fun x3=>Option.bind (c4.as (.int .i64)) fun x4=>Option.bind (c5.as (.int .i64)) fun x5=>Option.bind (c6.as (.int .i64)) fun x6=>Option.bind (c7.as (.int .i64)) fun x7=>some (⟨x0,x1,⟨x2,x3⟩,x4,x5,x6,x7⟩ : aM)
 | _=>none
def ak.k:List SD→Option ak
 | c0::c1::c2::c3::c4::c5::c6::c7::c8::c9::c10::c11::c12::c13 :: []=>Option.bind (c0.as (.int .i64)) fun x0=>Option.bind (c1.as (.int .i64)) fun x1=>Option.bind (c2.as (.str)) fun x2=>Option.bind (c3.as (.int .i64)) fun x3=>Option.bind (c4.as (.int .i64)) fun x4=>Option.bind (c5.as (.int .i64)) fun x5=>Option.bind (c6.as (.int .i64)) fun x6=>Option.bind (c7.as (.sl (.st 1))) fun x7=>Option.bind (c8.as (.int .i64)) fun x8=>Option.bind (c9.as (.int .i64)) fun x9=>Option.bind (c10.as (.sl (.int .i64))) fun x10=>Option.bind (c11.as (.sl (.int .i64))) fun x11=>Option.bind (c12.as (.sl (.int .i64))) fun x12=>Option.bind (c13.as (.sl (.int .i64))) fun x13=>some (⟨x0,x1,x2,x3,x4,⟨x5,x6⟩,x7,x8,x9,x10,x11,x12,x13⟩ : ak)
 | _=>none
def eB.k:List SD→Option eB
 | c0::c1 :: []=>Option.bind (c0.as (.int .i64)) fun x0=>Option.bind (c1.as (.int .i64)) fun x1=>some (⟨x0,x1⟩ : eB)
 | _=>none
def av.k:List SD→Option av
 | c0::c1::c2 :: []=>Option.bind (c0.as (.str)) fun x0=>Option.bind (c1.as (.sl (.st 3))) fun x1=>Option.bind (c2.as (.int .i64)) fun x2=>some (⟨x0,x1,x2⟩ : av)
 | _=>none
def ax.k:List SD→Option ax
 | c0::c1 :: []=>Option.bind (c0.as (.sl (.str))) fun x0=>Option.bind (c1.as (.sl (.st 4))) fun x1=>some (⟨x0,x1⟩ : ax)
 | _=>none
def ao.k:List SD→Option ao
 | c0::c1::c2::c3::c4::c5::c6::c7::c8 :: []=>Option.bind (c0.as (.int .i64)) fun x0=>Option.bind (c1.as (.int .i64)) fun x1=>Option.bind (c2.as (.int .i64)) fun x2=>Option.bind (c3.as (.int .i64)) fun x3=>Option.bind (c4.as (.int .i64)) fun x4=>Option.bind (c5.as (.int .i64)) fun x5=>Option.bind (c6.as (.int .i64)) fun x6=>Option.bind (c7.as (.bool)) fun x7=>Option.bind (c8.as (.int .i64)) fun x8=>some (⟨x0,x1,x2,⟨x3,x4⟩,x5,x6,x7,x8⟩ : ao)
 | _=>none
def aZ.k:List SD→Option aZ
 | c0::c1::c2::c3::c4::c5::c6::c7 :: []=>Option.bind (c0.as (.int .i64)) fun x0=>Option.bind (c1.as (.int .i64)) fun x1=>Option.bind (c2.as (.int .i64)) fun x2=>Option.bind (c3.as (.int .i64)) fun x3=>Option.bind (c4.as (.int .i64)) fun x4=>Option.bind (c5.as (.int .i64)) fun x5=>Option.bind (c6.as (.int .i64)) fun x6=>Option.bind (c7.as (.bool)) fun x7=>some (⟨x0,x1,x2,⟨x3,x4⟩,x5,x6,x7⟩ : aZ)
 | _=>none
def a8.k:List SD→Option a8
 | c0::c1::c2::c3::c4::c5 :: []=>Option.bind (c0.as (.int .i64)) fun x0=>Option.bind (c1.as (.int .i64)) fun x1=>Option.bind (c2.as (.int .i64)) fun x2=>Option.bind (c3.as (.int .i64)) fun x3=>Option.bind (c4.as (.int .i64)) fun x4=>Option.bind (c5.as (.int .i64)) fun x5=>some (⟨x0,x1,x2,x3,⟨x4,x5⟩⟩ : a8)
 | _=>none
def aK.k:List SD→Option aK
 | c0::c1::c2::c3::c4::c5::c6::c7::c8::c9::c10::c11::c12::c13::c14::c15::c16::c17::c18::c19::c20::c21::c22::c23::c24::c25::c26::c27::c28::c29::c30::c31::c32::c33::c34 :: []=>Option.bind (c0.as (.int .i64)) fun x0=>Option.bind (c1.as (.int .i64)) fun x1=>Option.bind (c2.as (.int .i64)) fun x2=>Option.bind (c3.as (.int .i64)) fun x3=>Option.bind (c4.as (.str)) fun x4=>Option.bind (c5.as (.int .i64)) fun x5=>Option.bind (c6.as (.int .i64)) fun x6=>Option.bind (c7.as (.int .i64)) fun x7=>Option.bind (c8.as (.int .i64)) fun x8=>Option.bind (c9.as (.int .i64)) fun x9=>Option.bind (c10.as (.int .i64)) fun x10=>Option.bind (c11.as (.int .i64)) fun x11=>Option.bind (c12.as (.bool)) fun x12=>Option.bind (c13.as (.int .i64)) fun x13=>Option.bind (c14.as (.int .i64)) fun x14=>Option.bind (c15.as (.str)) fun x15=>Option.bind (c16.as (.int .i64)) fun x16=>Option.bind (c17.as (.int .i64)) fun x17=>Option.bind (c18.as (.int .i64)) fun x18=>Option.bind (c19.as (.int .i64)) fun x19=>Option.bind (c20.as (.sl (.st 1))) fun x20=>Option.bind (c21.as (.int .i64)) fun x21=>Option.bind (c22.as (.int .i64)) fun x22=>Option.bind (c23.as (.sl (.int .i64))) fun x23=>Option.bind (c24.as (.sl (.int .i64))) fun x24=>Option.bind (c25.as (.sl (.int .i64))) fun x25=>Option.bind (c26.as (.sl (.int .i64))) fun x26=>Option.bind (c27.as (.sl (.st 1))) fun x27=>Option.bind (c28.as (.sl (.int .i64))) fun x28=>Option.bind (c29.as (.int .i64)) fun x29=>Option.bind (c30.as (.int .i64)) fun x30=>Option.bind (c31.as (.int .i64)) fun x31=>Option.bind (c32.as (.int .i64)) fun x32=>Option.bind (c33.as (.int .i64)) fun x33=>Option.bind (c34.as (.int .i64)) fun x34=>some (⟨x0,x1,x2,x3,x4,⟨x5,x6,x7,⟨x8,x9⟩,x10,x11,x12⟩,⟨x13,x14,x15,x16,x17,⟨x18,x19⟩,x20,x21,x22,x23,x24,x25,x26⟩,x27,x28,⟨x29,x30,x31,x32,⟨x33,x34⟩⟩⟩ : aK)
 | _=>none
def bz.k:List SD→Option bz
 | c0::c1::c2::c3::c4 :: []=>Option.bind (c0.as (.int .i64)) fun x0=>Option.bind (c1.as (.sl (.st 6))) fun x1=>Option.bind (c2.as (.sl (.int .i64))) fun x2=>Option.bind (c3.as (.sl (.int .i64))) fun x3=>Option.bind (c4.as (.int .i64)) fun x4=>some (⟨x0,x1,x2,x3,x4⟩ : bz)
 | _=>none
def bA.k:List SD→Option bA
 | c0::c1::c2 :: []=>Option.bind (c0.as (.int .i64)) fun x0=>Option.bind (c1.as (.int .i64)) fun x1=>Option.bind (c2.as (.int .i64)) fun x2=>some (⟨x0,x1,x2⟩ : bA)
 | _=>none
def aa.k:List SD→Option aa
 | c0::c1::c2::c3::c4::c5::c6::c7::c8::c9 :: []=>Option.bind (c0.as (.sl (.str))) fun x0=>Option.bind (c1.as (.sl (.st 4))) fun x1=>Option.bind (c2.as (.sl (.st 7))) fun x2=>Option.bind (c3.as (.sl (.st 2))) fun x3=>Option.bind (c4.as (.sl (.st 6))) fun x4=>Option.bind (c5.as (.sl (.st 11))) fun x5=>Option.bind (c6.as (.sl (.st 8))) fun x6=>Option.bind (c7.as (.int .i64)) fun x7=>Option.bind (c8.as (.int .i64)) fun x8=>Option.bind (c9.as (.int .i64)) fun x9=>some (⟨⟨x0,x1⟩,x2,x3,x4,x5,x6,x7,x8,x9⟩ : aa)
 | _=>none
def aQ.k:List SD→Option aQ
 | c0::c1::c2::c3::c4 :: []=>Option.bind (c0.as (.int .i64)) fun x0=>Option.bind (c1.as (.int .i64)) fun x1=>Option.bind (c2.as (.int .i64)) fun x2=>Option.bind (c3.as (.int .i64)) fun x3=>Option.bind (c4.as (.int .i64)) fun x4=>some (⟨x0,x1,x2,x3,x4⟩ : aQ)
 | _=>none
def aA.k:List SD→Option aA
 | c0::c1::c2 :: []=>Option.bind (c0.as (.int .i64)) fun x0=>Option.bind (c1.as (.sl (.int .i64))) fun x1=>Option.bind (c2.as (.sl (.st 15))) fun x2=>some (⟨x0,x1,x2⟩ : aA)
 | _=>none
def bc.k:List SD→Option bc
 | c0::c1 :: []=>Option.bind (c0.as (.int .i64)) fun x0=>Option.bind (c1.as (.int .i64)) fun x1=>some (⟨x0,x1⟩ : bc)
 | _=>none
def aj.k:List SD→Option aj
 | c0::c1 :: []=>Option.bind (c0.as (.str)) fun x0=>Option.bind (c1.as (.int .i64)) fun x1=>some (⟨x0,x1⟩ : aj)
 | _=>none
def stK:(i:Nat)→List SD→Option (ST i)
 | 0,cs=>az.k cs
 | 1,cs=>aM.k cs
 | 2,cs=>ak.k cs
 | 3,cs=>eB.k cs
 | 4,cs=>av.k cs
 | 5,cs=>ax.k cs
 | 6,cs=>ao.k cs
 | 7,cs=>aZ.k cs
 | 8,cs=>a8.k cs
 | 9,cs=>aK.k cs
 | 10,cs=>bz.k cs
 | 11,cs=>bA.k cs
 | 12,cs=>aa.k cs
 | 15,cs=>aQ.k cs
 | 16,cs=>aA.k cs
 | 17,cs=>bc.k cs
 | 18,cs=>aj.k cs
 | 13,_=>none
 | 14,_=>none
 | _ + 19,_=>none
theorem SD.as_ok {t:Ty} {c:SD} {x:t.den} (h:c.as t=some x) : bK t x = [c.toD]:=by
 unfold SD.as at h
 split at h
 ·split at h
  ·rename_i hk
   subst hk
   injection h with h
   subst h
   rfl
  ·cases h
 ·injection h with h
  subst h
  rfl
 ·injection h with h
  subst h
  rfl
 ·split at h
  ·rename_i hk _
   subst hk
   injection h with h
   subst h
   rfl
  ·cases h
 ·injection h with h
  subst h
  rfl
 ·cases h
theorem uX:∀ (i:Nat) (x:ST i),(stC i x).map SD.toD=stD i x
 | 0,(x:az)=>rfl
 | 1,(x:aM)=>rfl
 | 2,(x:ak)=>rfl
 | 3,(x:eB)=>rfl
 | 4,(x:av)=>rfl
 | 5,(x:ax)=>rfl
 | 6,(x:ao)=>rfl
 | 7,(x:aZ)=>rfl
 | 8,(x:a8)=>rfl
 | 9,(x:aK)=>rfl
 | 10,(x:bz)=>rfl
 | 11,(x:bA)=>rfl
 | 12,(x:aa)=>rfl
 | 15,(x:aQ)=>rfl
 | 16,(x:aA)=>rfl
 | 17,(x:bc)=>rfl
 | 18,(x:aj)=>rfl
 | 13,_=>rfl
 | 14,_=>rfl
 | _ + 19,_=>rfl
theorem xN:∀ (i:Nat) (x:ST i) (c:SD),c∈stC i x→c≠.nl
 | 0,(x:az),c,h=>by
  simp only [stC,List.mem_cons,List.not_mem_nil,or_false] at h
  rcases h with rfl | rfl <;> (intro e; cases e)
 | 1,(x:aM),c,h=>by
  simp only [stC,List.mem_cons,List.not_mem_nil,or_false] at h
  rcases h with rfl | rfl | rfl | rfl | rfl | rfl | rfl | rfl <;> (intro e; cases e)
 | 2,(x:ak),c,h=>by
  simp only [stC,List.mem_cons,List.not_mem_nil,or_false] at h
  rcases h with rfl | rfl | rfl | rfl | rfl | rfl | rfl | rfl | rfl | rfl | rfl | rfl | rfl | rfl <;> (intro e; cases e)
 | 3,(x:eB),c,h=>by
  simp only [stC,List.mem_cons,List.not_mem_nil,or_false] at h
  rcases h with rfl | rfl <;> (intro e; cases e)
 | 4,(x:av),c,h=>by
  simp only [stC,List.mem_cons,List.not_mem_nil,or_false] at h
  rcases h with rfl | rfl | rfl <;> (intro e; cases e)
 | 5,(x:ax),c,h=>by
  simp only [stC,List.mem_cons,List.not_mem_nil,or_false] at h
  rcases h with rfl | rfl <;> (intro e; cases e)
 | 6,(x:ao),c,h=>by
  simp only [stC,List.mem_cons,List.not_mem_nil,or_false] at h
  rcases h with rfl | rfl | rfl | rfl | rfl | rfl | rfl | rfl | rfl <;> (intro e; cases e)
 | 7,(x:aZ),c,h=>by
  simp only [stC,List.mem_cons,List.not_mem_nil,or_false] at h
  rcases h with rfl | rfl | rfl | rfl | rfl | rfl | rfl | rfl <;> (intro e; cases e)
 | 8,(x:a8),c,h=>by
  simp only [stC,List.mem_cons,List.not_mem_nil,or_false] at h
  rcases h with rfl | rfl | rfl | rfl | rfl | rfl <;> (intro e; cases e)
 | 9,(x:aK),c,h=>by
  simp only [stC,List.mem_cons,List.not_mem_nil,or_false] at h
  rcases h with rfl | rfl | rfl | rfl | rfl | rfl | rfl | rfl | rfl | rfl | rfl | rfl | rfl | rfl | rfl | rfl | rfl | rfl | rfl | rfl | rfl | rfl | rfl | rfl | rfl | rfl | rfl | rfl | rfl | rfl | rfl | rfl | rfl | rfl | rfl <;> (intro e; cases e)
 | 10,(x:bz),c,h=>by
  simp only [stC,List.mem_cons,List.not_mem_nil,or_false] at h
  rcases h with rfl | rfl | rfl | rfl | rfl <;> (intro e; cases e)
 | 11,(x:bA),c,h=>by
  simp only [stC,List.mem_cons,List.not_mem_nil,or_false] at h
  rcases h with rfl | rfl | rfl <;> (intro e; cases e)
 | 12,(x:aa),c,h=>by
  simp only [stC,List.mem_cons,List.not_mem_nil,or_false] at h
  rcases h with rfl | rfl | rfl | rfl | rfl | rfl | rfl | rfl | rfl | rfl <;> (intro e; cases e)
 | 15,(x:aQ),c,h=>by
  simp only [stC,List.mem_cons,List.not_mem_nil,or_false] at h
  rcases h with rfl | rfl | rfl | rfl | rfl <;> (intro e; cases e)
 | 16,(x:aA),c,h=>by
  simp only [stC,List.mem_cons,List.not_mem_nil,or_false] at h
  rcases h with rfl | rfl | rfl <;> (intro e; cases e)
 | 17,(x:bc),c,h=>by
  simp only [stC,List.mem_cons,List.not_mem_nil,or_false] at h
  rcases h with rfl | rfl <;> (intro e; cases e)
 | 18,(x:aj),c,h=>by
  simp only [stC,List.mem_cons,List.not_mem_nil,or_false] at h
  rcases h with rfl | rfl <;> (intro e; cases e)
 | 13,_,c,h=>by cases h
 | 14,_,c,h=>by cases h
 | _ + 19,_,c,h=>by cases h
theorem Zz:∀ (i:Nat) (x:ST i),(stD i x).length=stN i
 | 0,(x:az)=>rfl
 | 1,(x:aM)=>rfl
 | 2,(x:ak)=>rfl
 | 3,(x:eB)=>rfl
 | 4,(x:av)=>rfl
 | 5,(x:ax)=>rfl
 | 6,(x:ao)=>rfl
 | 7,(x:aZ)=>rfl
 | 8,(x:a8)=>rfl
 | 9,(x:aK)=>rfl
 | 10,(x:bz)=>rfl
 | 11,(x:bA)=>rfl
 | 12,(x:aa)=>rfl
 | 15,(x:aQ)=>rfl
 | 16,(x:aA)=>rfl
 | 17,(x:bc)=>rfl
 | 18,(x:aj)=>rfl
 | 13,_=>rfl
 | 14,_=>rfl
 | _ + 19,_=>rfl
theorem abb:∀ (i:Nat) (x:ST i),stF i=true→∀ d∈stD i x,∃ y,d = .v y
 | 0,(x:az),_,d,h=>by
  simp only [stD,az.d,List.mem_cons,List.not_mem_nil,or_false] at h
  rcases h with rfl | rfl <;> exact ⟨_,rfl⟩
 | 1,(x:aM),_,d,h=>by
  simp only [stD,aM.d,List.mem_cons,List.not_mem_nil,or_false] at h
  rcases h with rfl | rfl | rfl | rfl | rfl | rfl | rfl | rfl <;> exact ⟨_,rfl⟩
 | 2,(x:ak),h,_,_=>by cases h
 | 3,(x:eB),_,d,h=>by
  simp only [stD,eB.d,List.mem_cons,List.not_mem_nil,or_false] at h
  rcases h with rfl | rfl <;> exact ⟨_,rfl⟩
 | 4,(x:av),h,_,_=>by cases h
 | 5,(x:ax),h,_,_=>by cases h
 | 6,(x:ao),_,d,h=>by
  simp only [stD,ao.d,List.mem_cons,List.not_mem_nil,or_false] at h
  rcases h with rfl | rfl | rfl | rfl | rfl | rfl | rfl | rfl | rfl <;> exact ⟨_,rfl⟩
 | 7,(x:aZ),_,d,h=>by
  simp only [stD,aZ.d,List.mem_cons,List.not_mem_nil,or_false] at h
  rcases h with rfl | rfl | rfl | rfl | rfl | rfl | rfl | rfl <;> exact ⟨_,rfl⟩
 | 8,(x:a8),_,d,h=>by
  simp only [stD,a8.d,List.mem_cons,List.not_mem_nil,or_false] at h
  rcases h with rfl | rfl | rfl | rfl | rfl | rfl <;> exact ⟨_,rfl⟩
 | 9,(x:aK),h,_,_=>by cases h
 | 10,(x:bz),h,_,_=>by cases h
 | 11,(x:bA),_,d,h=>by
  simp only [stD,bA.d,List.mem_cons,List.not_mem_nil,or_false] at h
  rcases h with rfl | rfl | rfl <;> exact ⟨_,rfl⟩
 | 12,(x:aa),h,_,_=>by cases h
 | 15,(x:aQ),_,d,h=>by
  simp only [stD,aQ.d,List.mem_cons,List.not_mem_nil,or_false] at h
  rcases h with rfl | rfl | rfl | rfl | rfl <;> exact ⟨_,rfl⟩
 | 16,(x:aA),h,_,_=>by cases h
 | 17,(x:bc),_,d,h=>by
  simp only [stD,bc.d,List.mem_cons,List.not_mem_nil,or_false] at h
  rcases h with rfl | rfl <;> exact ⟨_,rfl⟩
 | 18,(x:aj),_,d,h=>by
  simp only [stD,aj.d,List.mem_cons,List.not_mem_nil,or_false] at h
  rcases h with rfl | rfl <;> exact ⟨_,rfl⟩
 | 13,_,_,_,h=>by cases h
 | 14,_,_,_,h=>by cases h
 | _ + 19,_,_,_,h=>by cases h
theorem cQ {α β : Type} {o:Option α} {k : α→Option β} {r : β} (h:o.bind k=some r) : ∃ x,o=some x∧k x=some r:=by
 cases o with
 | none=>cases h
 | some x=>exact ⟨x,rfl,h⟩
theorem aN {t:Ty} {c:SD} {β : Type} {k:t.den→Option β} {r : β} (h:(c.as t).bind k=some r) : ∃ x,bK t x = [c.toD]∧k x=some r:=by
 obtain ⟨x,h1,h2⟩:=cQ h
 exact ⟨x,SD.as_ok h1,h2⟩
theorem az.k_ok {cs:List SD} {x:az} (h:az.k cs=some x) : cs.map SD.toD=az.d x:=by
 unfold az.k at h
 split at h
 ·rename_i c0 c1
  obtain ⟨x0,q0,h⟩:=aN h
  obtain ⟨x1,q1,h⟩:=aN h
  injection h with h
  subst h
  simp only [bK,List.cons.injEq,and_true] at q0 q1
  simp only [List.map_cons,List.map_nil,az.d,← q0,← q1]
  try rfl
 ·cases h
theorem aM.k_ok {cs:List SD} {x:aM} (h:aM.k cs=some x) : cs.map SD.toD=aM.d x:=by
 unfold aM.k at h
 split at h
 ·rename_i c0 c1 c2 c3 c4 c5 c6 c7
  obtain ⟨x0,q0,h⟩:=aN h
  obtain ⟨x1,q1,h⟩:=aN h
  obtain ⟨x2,q2,h⟩:=aN h
  obtain ⟨x3,q3,h⟩:=aN h
  obtain ⟨x4,q4,h⟩:=aN h
  obtain ⟨x5,q5,h⟩:=aN h
  obtain ⟨x6,q6,h⟩:=aN h
  obtain ⟨x7,q7,h⟩:=aN h
  injection h with h
  subst h
  simp only [bK,List.cons.injEq,and_true] at q0 q1 q2 q3 q4 q5 q6 q7
  simp only [List.map_cons,List.map_nil,aM.d,← q0,← q1,← q2,← q3,← q4,← q5,← q6,← q7]
  try rfl
 ·cases h
theorem ak.k_ok {cs:List SD} {x:ak} (h:ak.k cs=some x) : cs.map SD.toD=ak.d x:=by
 unfold ak.k at h
 split at h
 ·rename_i c0 c1 c2 c3 c4 c5 c6 c7 c8 c9 c10 c11 c12 c13
  obtain ⟨x0,q0,h⟩:=aN h
  obtain ⟨x1,q1,h⟩:=aN h
  obtain ⟨x2,q2,h⟩:=aN h
  obtain ⟨x3,q3,h⟩:=aN h
  obtain ⟨x4,q4,h⟩:=aN h
  obtain ⟨x5,q5,h⟩:=aN h
  obtain ⟨x6,q6,h⟩:=aN h
  obtain ⟨x7,q7,h⟩:=aN h
  obtain ⟨x8,q8,h⟩:=aN h
  obtain ⟨x9,q9,h⟩:=aN h
  obtain ⟨x10,q10,h⟩:=aN h
  obtain ⟨x11,q11,h⟩:=aN h
  obtain ⟨x12,q12,h⟩:=aN h
  obtain ⟨x13,q13,h⟩:=aN h
  injection h with h
  subst h
  simp only [bK,List.cons.injEq,and_true] at q0 q1 q2 q3 q4 q5 q6 q7 q8 q9 q10 q11 q12 q13
  simp only [List.map_cons,List.map_nil,ak.d,← q0,← q1,← q2,← q3,← q4,← q5,← q6,← q7,← q8,← q9,← q10,← q11,← q12,← q13]
  try rfl
 ·cases h
theorem eB.k_ok {cs:List SD} {x:eB} (h:eB.k cs=some x) : cs.map SD.toD=eB.d x:=by
 unfold eB.k at h
 split at h
 ·rename_i c0 c1
  obtain ⟨x0,q0,h⟩:=aN h
  obtain ⟨x1,q1,h⟩:=aN h
  injection h with h
  subst h
  simp only [bK,List.cons.injEq,and_true] at q0 q1
  simp only [List.map_cons,List.map_nil,eB.d,← q0,← q1]
  try rfl
 ·cases h
theorem av.k_ok {cs:List SD} {x:av} (h:av.k cs=some x) : cs.map SD.toD=av.d x:=by
 unfold av.k at h
 split at h
 ·rename_i c0 c1 c2
  obtain ⟨x0,q0,h⟩:=aN h
  obtain ⟨x1,q1,h⟩:=aN h
  obtain ⟨x2,q2,h⟩:=aN h
  injection h with h
  subst h
  simp only [bK,List.cons.injEq,and_true] at q0 q1 q2
  simp only [List.map_cons,List.map_nil,av.d,← q0,← q1,← q2]
  try rfl
 ·cases h
theorem ax.k_ok {cs:List SD} {x:ax} (h:ax.k cs=some x) : cs.map SD.toD=ax.d x:=by
 unfold ax.k at h
 split at h
 ·rename_i c0 c1
  obtain ⟨x0,q0,h⟩:=aN h
  obtain ⟨x1,q1,h⟩:=aN h
  injection h with h
  subst h
  simp only [bK,List.cons.injEq,and_true] at q0 q1
  simp only [List.map_cons,List.map_nil,ax.d,← q0,← q1]
  try rfl
 ·cases h
theorem ao.k_ok {cs:List SD} {x:ao} (h:ao.k cs=some x) : cs.map SD.toD=ao.d x:=by
 unfold ao.k at h
 split at h
 ·rename_i c0 c1 c2 c3 c4 c5 c6 c7 c8
  obtain ⟨x0,q0,h⟩:=aN h
  obtain ⟨x1,q1,h⟩:=aN h
  obtain ⟨x2,q2,h⟩:=aN h
  obtain ⟨x3,q3,h⟩:=aN h
  obtain ⟨x4,q4,h⟩:=aN h
  obtain ⟨x5,q5,h⟩:=aN h
  obtain ⟨x6,q6,h⟩:=aN h
  obtain ⟨x7,q7,h⟩:=aN h
  obtain ⟨x8,q8,h⟩:=aN h
  injection h with h
  subst h
  simp only [bK,List.cons.injEq,and_true] at q0 q1 q2 q3 q4 q5 q6 q7 q8
  simp only [List.map_cons,List.map_nil,ao.d,← q0,← q1,← q2,← q3,← q4,← q5,← q6,← q7,← q8]
  try rfl
 ·cases h
theorem aZ.k_ok {cs:List SD} {x:aZ} (h:aZ.k cs=some x) : cs.map SD.toD=aZ.d x:=by
 unfold aZ.k at h
 split at h
 ·rename_i c0 c1 c2 c3 c4 c5 c6 c7
  obtain ⟨x0,q0,h⟩:=aN h
  obtain ⟨x1,q1,h⟩:=aN h
  obtain ⟨x2,q2,h⟩:=aN h
  obtain ⟨x3,q3,h⟩:=aN h
  obtain ⟨x4,q4,h⟩:=aN h
  obtain ⟨x5,q5,h⟩:=aN h
  obtain ⟨x6,q6,h⟩:=aN h
  obtain ⟨x7,q7,h⟩:=aN h
  injection h with h
  subst h
  simp only [bK,List.cons.injEq,and_true] at q0 q1 q2 q3 q4 q5 q6 q7
  simp only [List.map_cons,List.map_nil,aZ.d,← q0,← q1,← q2,← q3,← q4,← q5,← q6,← q7]
  try rfl
 ·cases h
theorem a8.k_ok {cs:List SD} {x:a8} (h:a8.k cs=some x) : cs.map SD.toD=a8.d x:=by
 unfold a8.k at h
 split at h
 ·rename_i c0 c1 c2 c3 c4 c5
  obtain ⟨x0,q0,h⟩:=aN h
  obtain ⟨x1,q1,h⟩:=aN h
  obtain ⟨x2,q2,h⟩:=aN h
  obtain ⟨x3,q3,h⟩:=aN h
  obtain ⟨x4,q4,h⟩:=aN h
  obtain ⟨x5,q5,h⟩:=aN h
  injection h with h
  subst h
  simp only [bK,List.cons.injEq,and_true] at q0 q1 q2 q3 q4 q5
  simp only [List.map_cons,List.map_nil,a8.d,← q0,← q1,← q2,← q3,← q4,← q5]
  try rfl
 ·cases h
theorem aK.k_ok {cs:List SD} {x:aK} (h:aK.k cs=some x) : cs.map SD.toD=aK.d x:=by
 unfold aK.k at h
 split at h
 ·rename_i c0 c1 c2 c3 c4 c5 c6 c7 c8 c9 c10 c11 c12 c13 c14 c15 c16 c17 c18 c19 c20 c21 c22 c23 c24 c25 c26 c27 c28 c29 c30 c31 c32 c33 c34
  obtain ⟨x0,q0,h⟩:=aN h
  obtain ⟨x1,q1,h⟩:=aN h
  obtain ⟨x2,q2,h⟩:=aN h
  obtain ⟨x3,q3,h⟩:=aN h
  obtain ⟨x4,q4,h⟩:=aN h
  obtain ⟨x5,q5,h⟩:=aN h
  obtain ⟨x6,q6,h⟩:=aN h
  obtain ⟨x7,q7,h⟩:=aN h
  obtain ⟨x8,q8,h⟩:=aN h
  obtain ⟨x9,q9,h⟩:=aN h
  obtain ⟨x10,q10,h⟩:=aN h
  obtain ⟨x11,q11,h⟩:=aN h
  obtain ⟨x12,q12,h⟩:=aN h
  obtain ⟨x13,q13,h⟩:=aN h
  obtain ⟨x14,q14,h⟩:=aN h
  obtain ⟨x15,q15,h⟩:=aN h
  obtain ⟨x16,q16,h⟩:=aN h
  obtain ⟨x17,q17,h⟩:=aN h
  obtain ⟨x18,q18,h⟩:=aN h
  obtain ⟨x19,q19,h⟩:=aN h
  obtain ⟨x20,q20,h⟩:=aN h
  obtain ⟨x21,q21,h⟩:=aN h
  obtain ⟨x22,q22,h⟩:=aN h
  obtain ⟨x23,q23,h⟩:=aN h
  obtain ⟨x24,q24,h⟩:=aN h
  obtain ⟨x25,q25,h⟩:=aN h
  obtain ⟨x26,q26,h⟩:=aN h
  obtain ⟨x27,q27,h⟩:=aN h
  obtain ⟨x28,q28,h⟩:=aN h
  obtain ⟨x29,q29,h⟩:=aN h
  obtain ⟨x30,q30,h⟩:=aN h
  obtain ⟨x31,q31,h⟩:=aN h
  obtain ⟨x32,q32,h⟩:=aN h
  obtain ⟨x33,q33,h⟩:=aN h
  obtain ⟨x34,q34,h⟩:=aN h
  injection h with h
  subst h
  simp only [bK,List.cons.injEq,and_true] at q0 q1 q2 q3 q4 q5 q6 q7 q8 q9 q10 q11 q12 q13 q14 q15 q16 q17 q18 q19 q20 q21 q22 q23 q24 q25 q26 q27 q28 q29 q30 q31 q32 q33 q34
  simp only [List.map_cons,List.map_nil,aK.d,← q0,← q1,← q2,← q3,← q4,← q5,← q6,← q7,← q8,← q9,← q10,← q11,← q12,← q13,← q14,← q15,← q16,← q17,← q18,← q19,← q20,← q21,← q22,← q23,← q24,← q25,← q26,← q27,← q28,← q29,← q30,← q31,← q32,← q33,← q34]
  try rfl
 ·cases h
theorem bz.k_ok {cs:List SD} {x:bz} (h:bz.k cs=some x) : cs.map SD.toD=bz.d x:=by
 unfold bz.k at h
 split at h
 ·rename_i c0 c1 c2 c3 c4
  obtain ⟨x0,q0,h⟩:=aN h
  obtain ⟨x1,q1,h⟩:=aN h
  obtain ⟨x2,q2,h⟩:=aN h
  obtain ⟨x3,q3,h⟩:=aN h
  obtain ⟨x4,q4,h⟩:=aN h
  injection h with h
  subst h
  simp only [bK,List.cons.injEq,and_true] at q0 q1 q2 q3 q4
  simp only [List.map_cons,List.map_nil,bz.d,← q0,← q1,← q2,← q3,← q4]
  try rfl
 ·cases h
theorem bA.k_ok {cs:List SD} {x:bA} (h:bA.k cs=some x) : cs.map SD.toD=bA.d x:=by
 unfold bA.k at h
 split at h
 ·rename_i c0 c1 c2
  obtain ⟨x0,q0,h⟩:=aN h
  obtain ⟨x1,q1,h⟩:=aN h
  obtain ⟨x2,q2,h⟩:=aN h
  injection h with h
  subst h
  simp only [bK,List.cons.injEq,and_true] at q0 q1 q2
  simp only [List.map_cons,List.map_nil,bA.d,← q0,← q1,← q2]
  try rfl
 ·cases h
theorem aa.k_ok {cs:List SD} {x:aa} (h:aa.k cs=some x) : cs.map SD.toD=aa.d x:=by
 unfold aa.k at h
 split at h
 ·rename_i c0 c1 c2 c3 c4 c5 c6 c7 c8 c9
  obtain ⟨x0,q0,h⟩:=aN h
  obtain ⟨x1,q1,h⟩:=aN h
  obtain ⟨x2,q2,h⟩:=aN h
  obtain ⟨x3,q3,h⟩:=aN h
  obtain ⟨x4,q4,h⟩:=aN h
  obtain ⟨x5,q5,h⟩:=aN h
  obtain ⟨x6,q6,h⟩:=aN h
  obtain ⟨x7,q7,h⟩:=aN h
  obtain ⟨x8,q8,h⟩:=aN h
  obtain ⟨x9,q9,h⟩:=aN h
  injection h with h
  subst h
  simp only [bK,List.cons.injEq,and_true] at q0 q1 q2 q3 q4 q5 q6 q7 q8 q9
  simp only [List.map_cons,List.map_nil,aa.d,← q0,← q1,← q2,← q3,← q4,← q5,← q6,← q7,← q8,← q9]
  try rfl
 ·cases h
theorem aQ.k_ok {cs:List SD} {x:aQ} (h:aQ.k cs=some x) : cs.map SD.toD=aQ.d x:=by
 unfold aQ.k at h
 split at h
 ·rename_i c0 c1 c2 c3 c4
  obtain ⟨x0,q0,h⟩:=aN h
  obtain ⟨x1,q1,h⟩:=aN h
  obtain ⟨x2,q2,h⟩:=aN h
  obtain ⟨x3,q3,h⟩:=aN h
  obtain ⟨x4,q4,h⟩:=aN h
  injection h with h
  subst h
  simp only [bK,List.cons.injEq,and_true] at q0 q1 q2 q3 q4
  simp only [List.map_cons,List.map_nil,aQ.d,← q0,← q1,← q2,← q3,← q4]
  try rfl
 ·cases h
theorem aA.k_ok {cs:List SD} {x:aA} (h:aA.k cs=some x) : cs.map SD.toD=aA.d x:=by
 unfold aA.k at h
 split at h
 ·rename_i c0 c1 c2
  obtain ⟨x0,q0,h⟩:=aN h
  obtain ⟨x1,q1,h⟩:=aN h
  obtain ⟨x2,q2,h⟩:=aN h
  injection h with h
  subst h
  simp only [bK,List.cons.injEq,and_true] at q0 q1 q2
  simp only [List.map_cons,List.map_nil,aA.d,← q0,← q1,← q2]
  try rfl
 ·cases h
theorem bc.k_ok {cs:List SD} {x:bc} (h:bc.k cs=some x) : cs.map SD.toD=bc.d x:=by
 unfold bc.k at h
 split at h
 ·rename_i c0 c1
  obtain ⟨x0,q0,h⟩:=aN h
  obtain ⟨x1,q1,h⟩:=aN h
  injection h with h
  subst h
  simp only [bK,List.cons.injEq,and_true] at q0 q1
  simp only [List.map_cons,List.map_nil,bc.d,← q0,← q1]
  try rfl
 ·cases h
theorem aj.k_ok {cs:List SD} {x:aj} (h:aj.k cs=some x) : cs.map SD.toD=aj.d x:=by
 unfold aj.k at h
 split at h
 ·rename_i c0 c1
  obtain ⟨x0,q0,h⟩:=aN h
  obtain ⟨x1,q1,h⟩:=aN h
  injection h with h
  subst h
  simp only [bK,List.cons.injEq,and_true] at q0 q1
  simp only [List.map_cons,List.map_nil,aj.d,← q0,← q1]
  try rfl
 ·cases h
theorem Bq:∀ {i:Nat} {cs:List SD} {x:ST i},stK i cs=some x→cs.map SD.toD=stD i x
 | 0,_,(_:az),h=>az.k_ok h
 | 1,_,(_:aM),h=>aM.k_ok h
 | 2,_,(_:ak),h=>ak.k_ok h
 | 3,_,(_:eB),h=>eB.k_ok h
 | 4,_,(_:av),h=>av.k_ok h
 | 5,_,(_:ax),h=>ax.k_ok h
 | 6,_,(_:ao),h=>ao.k_ok h
 | 7,_,(_:aZ),h=>aZ.k_ok h
 | 8,_,(_:a8),h=>a8.k_ok h
 | 9,_,(_:aK),h=>aK.k_ok h
 | 10,_,(_:bz),h=>bz.k_ok h
 | 11,_,(_:bA),h=>bA.k_ok h
 | 12,_,(_:aa),h=>aa.k_ok h
 | 15,_,(_:aQ),h=>aQ.k_ok h
 | 16,_,(_:aA),h=>aA.k_ok h
 | 17,_,(_:bc),h=>bc.k_ok h
 | 18,_,(_:aj),h=>aj.k_ok h
 | 13,_,x,h=>by
  have h2:none=some x:=h
  cases h2
 | 14,_,x,h=>by
  have h2:none=some x:=h
  cases h2
 | _ + 19,_,x,h=>by
  have h2:none=some x:=h
  cases h2
section
inductive SV where
 | junk
 | d (x:SD)
 | ag (cs:List SV)
 | tup (cs:List SV)
 | ptr (t off:Nat)
 | row (t:Nat)
 | re (t p off:Nat)
 | vw (t lo hi:Nat)
 | fe (cs:List SD)
 | fn (f:FuncId) (ps qs:List SV)
structure Pin where
 i:Int
 cs:Option (List SD)
inductive aY where
 | st (ty:TypeId) (cs:List SV)
 | rw (e k:Nat) (t:Ty) (xs:List t.den) (pins:List (Nat×Pin))
def lkV:List (Nat×SV)→Nat→SV
 | [],_=>.junk
 | (j,v)::l,i=>match Nat.beq i j with | true=>v | false=>lkV l i
def lkB:List (Nat×Option aY)→Nat→Option aY
 | [],_=>none
 | (j,v)::l,i=>match Nat.beq i j with | true=>v | false=>lkB l i
def lkP:List (Nat×Pin)→Nat→Option Pin
 | [],_=>none
 | (j,v)::l,i=>match Nat.beq i j with | true=>some v | false=>lkP l i
def aC:List Nat→Nat→Bool
 | [],_=>false
 | j::l,i=>match Nat.beq i j with | true=>true | false=>aC l i
structure SS where
 sl:List (Nat×SV)
 bx:List (Nat×Option aY)
 pr:List Nat
 ro:Bool
 oc:List Nat
def wrB (s:SS) (t:Nat) : Bool:=match s.ro with | true=>false | false=>!(aC s.pr t)
def K1 (s:SS) (t:Nat) : Bool:=match aC s.oc t with | true=>false | false=>!(aC s.pr t)
def BT:(t:Ty)→t.den→List SD
 | .int k,x=>[.int k x]
 | .bool,x=>[.bool x]
 | .str,x=>[.str x]
 | .sl t,xs=>[.sl t xs]
 | .st i,x=>stC i x
def aan:(t:Ty)→List SD→Option t.den
 | .st i,cs=>stK i cs
 | .int k,[c]=>c.as (.int k)
 | .bool,[c]=>c.as .bool
 | .str,[c]=>c.as .str
 | .sl t,[c]=>c.as (.sl t)
 | _,_=>none
def tyN:Ty→Nat
 | .st i=>stN i
 | _=>1
def J1:Value→Option SD
 | .int k n=>some (.int k n)
 | .bool t=>some (.bool t)
 | .string s=>some (.str s)
 | .slice none 0 0=>some .nl
 | _=>none
def GS:List Value→Option (List SV)
 | []=>some []
 | v::l=>match J1 v,GS l with | some c,some cs=>some (.d c::cs) | _,_=>none
def Ly:Value→SV
 | .agg xs=>match GS xs.toList with | some cs=>.ag cs | none=>.junk
 | v=>match J1 v with | some c=>.d c | none=>.junk
def evX (s:SS) : Operand→SV
 | .tmp i=>lkV s.sl i
 | .const v=>Ly v
 | .func f=>.fn f [] []
 | _=>.junk
def ZE (s:SS) (t:Nat) : Option SD:=match lkB s.bx t with
 | some (.rw _ _ ty xs _)=>some (.sl ty xs)
 | _=>none
def sY (s:SS) : SV→Option SD
 | .d x=>some x
 | .row t=>ZE s t
 | _=>none
def Lv (s:SS) : List SV→Option (List SD)
 | []=>some []
 | v::l=>match sY s v,Lv s l with | some c,some cs=>some (c::cs) | _,_=>none
def LK:SV→Option (List SV)
 | .ag cs=>some cs
 | .junk=>none
 | .tup _=>none
 | v=>some [v]
mutual
def stale (t:Nat) : SV→SV
 | .row t'=>match Nat.beq t' t with | true=>.junk | false=>.row t'
 | .re t' p o=>match Nat.beq t' t with | true=>.junk | false=>.re t' p o
 | .vw t' p o=>match Nat.beq t' t with | true=>.junk | false=>.vw t' p o
 | .ag cs=>.ag (iR t cs)
 | .tup cs=>.tup (iR t cs)
 | .fn f ps qs=>.fn f (iR t ps) (iR t qs)
 | v=>v
def iR (t:Nat) : List SV→List SV
 | []=>[]
 | c::cs=>stale t c::iR t cs
end
def ES (t:Nat) : List (Nat×SV)→List (Nat×SV)
 | []=>[]
 | (i,v)::l=>(i,stale t v)::ES t l
def oK (t:Nat) : List (Nat×Option aY)→List (Nat×Option aY)
 | []=>[]
 | (i,some (.st ty cs))::l=>(i,some (.st ty (iR t cs)))::oK t l
 | (i,b)::l=>(i,b)::oK t l
inductive Upd where
 | no
 | new (t:Nat) (b:aY)
 | set (t:Nat) (b:aY)
 | pin (t:Nat) (b:aY)
 | grow (t:Nat) (b:aY)
def WV:Upd→List Nat
 | .no=>[]
 | .new t _=>[t]
 | .set t _=>[t]
 | .pin _ _=>[]
 | .grow t _=>[t]
def tD (sl:List (Nat×SV)) (dst:Option Nat) (v:SV) : List (Nat×SV):=match dst with | some d=>(d,v)::sl | none=>sl
def SS.upd (s:SS) (dst:Option Nat) (v:SV) : Upd→SS
 | .no=>⟨tD s.sl dst v,s.bx,s.pr,s.ro,s.oc⟩
 | .new t b=>⟨tD s.sl dst v,(t,some b)::s.bx,s.pr,s.ro,s.oc⟩
 | .set t b=>⟨tD s.sl dst v,(t,some b)::s.bx,s.pr,s.ro,s.oc⟩
 | .pin t b=>⟨tD s.sl dst v,(t,some b)::s.bx,s.pr,s.ro,s.oc⟩
 | .grow t b=>⟨tD (ES t s.sl) dst v,(t,some b)::oK t s.bx,s.pr,s.ro,s.oc⟩
def nQ {α : Type} : List α→Nat→List α→List α
 | cs,0,[]=>cs
 | _ :: cs,0,n::ns=>n::nQ cs 0 ns
 | [],_,_=>[]
 | c::cs,o + 1,ns=>c::nQ cs o ns
def Td (size:Nat) (agg:Bool) (cl:List SV) : Option SV :=
 if agg then (if size≤cl.length then some (.ag (cl.take size)) else none) else cl.head?
def BI:List SD→List SV
 | []=>[]
 | c::cs=>.d c::BI cs
variable {ρ : Type}
def chk (b:Bool) (k:Option ρ) : Option ρ:=match b with | true=>k | false=>none
def XU:Operand→Option Int
 | .const (.int _ n)=>some n
 | _=>none
def QZ (op:BinOp) (kd:IntKind) (lit:Option Int) (x y:Int) (k:SV→Option ρ) : Option ρ :=
 match op with
 | .add=>k (.d (.int kd (kd.wrap (x + y))))
 | .sub=>k (.d (.int kd (kd.wrap (x - y))))
 | .mul=>k (.d (.int kd (kd.wrap (x * y))))
 | .quo=>match lit with
  | some n=>chk (!(n==0)) (k (.d (.int kd (kd.wrap (x.tdiv y)))))
  | none=>Option.bind (if y=0 then none else some (kd.wrap (x.tdiv y))) fun q=>k (.d (.int kd q))
 | .rem=>match lit with
  | some n=>chk (!(n==0)) (k (.d (.int kd (x.tmod y))))
  | none=>Option.bind (Du x y) fun q=>k (.d (.int kd q))
 | .eql=>k (.d (.bool (x==y)))
 | .neq=>k (.d (.bool (x != y)))
 | .lss=>k (.d (.bool (decide (x < y))))
 | .leq=>k (.d (.bool (decide (x≤y))))
 | .gtr=>k (.d (.bool (decide (x > y))))
 | .geq=>k (.d (.bool (decide (x≥y))))
 | .and=>k (.d (.int kd (bits .and kd x y)))
 | .or=>k (.d (.int kd (bits .or kd x y)))
 | .xor=>k (.d (.int kd (bits .xor kd x y)))
 | _=>none
def PW (op:BinOp) (kd:IntKind) (lit:Option Int) (x y:Int) (k:SV→Option ρ) : Option ρ :=
 match lit with
 | some n=>chk (decide (0≤n)) (match op with
  | .shl=>k (.d (.int kd (kd.wrap (x * 2 ^ (min y.toNat kd.bits)))))
  | .shr=>k (.d (.int kd (x.fdiv (2 ^ (min y.toNat kd.bits)))))
  | _=>none)
 | none=>Option.bind (if y < 0 then none else some ()) fun _=>(match op with
  | .shl=>k (.d (.int kd (kd.wrap (x * 2 ^ (min y.toNat kd.bits)))))
  | .shr=>k (.d (.int kd (x.fdiv (2 ^ (min y.toNat kd.bits)))))
  | _=>none)
def PJ (op:BinOp) (x y:ByteArray) (k:SV→Option ρ) : Option ρ :=
 match op with
 | .add=>Option.bind (mM x y) fun z=>k (.d (.str z))
 | .eql=>k (.d (.bool (x.toList==y.toList)))
 | .neq=>k (.d (.bool (!(x.toList==y.toList))))
 | .lss=>k (.d (.bool (Op.bytesLess x.toList y.toList)))
 | .leq=>k (.d (.bool (Op.bytesLess x.toList y.toList||(x.toList==y.toList))))
 | .gtr=>k (.d (.bool (!(Op.bytesLess x.toList y.toList||(x.toList==y.toList)))))
 | .geq=>k (.d (.bool (!(Op.bytesLess x.toList y.toList))))
 | _=>none
def KB (op:BinOp) (x y:Bool) (k:SV→Option ρ) : Option ρ :=
 match op with
 | .eql=>k (.d (.bool (x==y)))
 | .neq=>k (.d (.bool (!(x==y))))
 | _=>none
def tW:SD→SD→Option Bool
 | .int k a,.int k' b=>if k=k' then some (a==b) else none
 | .bool a,.bool b=>some (a==b)
 | .str a,.str b=>some (a.toList==b.toList)
 | _,_=>none
def C1:List SV→List SV→Option Bool
 | [.d x],[.d y]=>tW x y
 | .d x::xs,.d y::ys=>match tW x y,C1 xs ys with
  | some a,some r=>some (a&&r)
  | _,_=>none
 | _,_=>none
def Ql:SV→Option Nat
 | .d (.int _ _)=>some 0
 | .d (.bool _)=>some 1
 | .d (.str _)=>some 2
 | _=>none
def Ei:List SV→Option (List Nat)
 | []=>some []
 | v::l=>match Ql v,Ei l with | some a,some r=>some (a::r) | _,_=>none
def Li:List Nat→List Nat→Bool
 | [],[]=>true
 | a::l,b::m=>match Nat.beq a b with | true=>Li l m | false=>false
 | _,_=>false
def abD (P:Program) (op:BinOp) (t:TypeId) (lit:Option Int) (p q:SV) (k:SV→Option ρ) : Option ρ :=
 match p,q with
 | .d (.int kd x),.d (.int kd' y)=>match K8 op with
  | true=>PW op kd lit x y k
  | false=>if kd=kd' then QZ op kd lit x y k else none
 | .d (.str x),.d (.str y)=>PJ op x y k
 | .d (.bool x),.d (.bool y)=>match P.underlying t with
  | some .bool=>KB op x y k
  | _=>none
 | .ag xs,.ag ys=>match abv P t,Ei xs,C1 xs ys with
  | some l,some l',some r=>chk (Li l l') (match op with
   | .eql=>k (.d (.bool r))
   | .neq=>k (.d (.bool (!r)))
   | _=>none)
  | _,_,_=>none
 | _,_=>none
def unX (op:UnOp) (p:SV) (k:SV→Option ρ) : Option ρ :=
 match op,p with
 | .not,.d (.bool x)=>k (.d (.bool (!x)))
 | .neg,.d (.int kd x)=>k (.d (.int kd (kd.wrap (0 - x))))
 | _,_=>none
def Yy (P:Program) (s:SS) (src dst:TypeId) (p:SV) (k:SV→Option ρ) : Option ρ :=
 match P.underlying src with
 | none=>none
 | some (.slice e)=>(match P.underlying dst with
  | some .string=>(match P.underlying e,sY s p with
   | some (.int .u8),some (.sl (.int .u8) xs)=>Option.bind (ZD (xs:List Int)) fun z=>k (.d (.str z))
   | _,_=>none)
  | _=>none)
 | some _=>match P.underlying dst,p with
  | some (.int kd),.d (.int _ x)=>k (.d (.int kd (kd.wrap x)))
  | some .string,.d (.str x)=>k (.d (.str x))
  | _,_=>none
def yl (P:Program) (t:TypeId) (p:SV) (f:Nat) (k:SV→Option ρ) : Option ρ :=
 match (BQ P t)[f]? with
 | some (off,size,_)=>chk (!(size==0)) (match p with
  | .ptr t o=>k (.ptr t (o + off))
  | .fe cs=>k (.fe (cs.drop off))
  | .re t p o=>k (.re t p (o + off))
  | _=>none)
 | none=>none
def QI (P:Program) (t:TypeId) (p:SV) (f:Nat) (k:SV→Option ρ) : Option ρ :=
 match (BQ P t)[f]?,p with
 | some (off,size,agg),.ag cs=>match Td size agg (cs.drop off) with | some v=>k v | none=>none
 | _,_=>none
def YO (s:SS) : SV→Option (List SV)
 | .ptr t off=>match lkB s.bx t with | some (.st _ cs)=>some (cs.drop off) | _=>none
 | .fe cs=>some (BI cs)
 | .re t p off=>match lkB s.bx t with
  | some (.rw _ _ _ _ pins)=>match lkP pins p with
   | some ⟨_,some cs⟩=>some (BI (cs.drop off))
   | _=>none
  | _=>none
 | _=>none
def To (P:Program) (s:SS) (t:TypeId) (p:SV) : Option SV :=
 match oJ P t,YO s p with
 | some i,some cl=>Td i.size i.agg cl
 | _,_=>none
def yf (P:Program) (s:SS) (dst:Option Nat) (t:TypeId) (p q:SV) (k:SV→Upd→Option ρ) : Option ρ :=
 match P.underlying t,q,dst with
 | some (.slice e),.d (.int _ i),some d=>match oJ P e with
  | some ie=>match p with
   | .d (.sl ty xs)=>chk (tyN ty==ie.size) (Option.bind (ar xs i) fun x=>k (.fe (BT ty x)) .no)
   | .row t'=>match lkB s.bx t' with
    | some (.rw e' kk ty xs pins)=>chk (kk==ie.size) (chk (lkP pins d).isNone (Option.bind (ar xs i) fun x=>k (.re t' d 0) (.pin t' (.rw e' kk ty xs ((d,⟨i,some (BT ty x)⟩)::pins)))))
    | _=>none
   | _=>none
  | none=>none
 | _,_,_=>none
def abe:SV→Option SD
 | .d x=>some x
 | _=>none
def uD:List SV→Option (List SD)
 | []=>some []
 | v::l=>match abe v,uD l with | some c,some cs=>some (c::cs) | _,_=>none
def xl:List (Nat×Pin)→List (Nat×Pin)
 | []=>[]
 | (i,⟨j,_⟩)::l=>(i,⟨j,none⟩)::xl l
def PP (P:Program) (s:SS) (t:TypeId) (p q:SV) (k:SV→Upd→Option ρ) : Option ρ :=
 match oJ P t,LK q with
 | some i,some ns=>match p with
  | .ptr x off=>match lkB s.bx x with
   | some (.st ty cs)=>chk (ns.length==i.size) (chk (decide (off + ns.length≤cs.length)) (chk (wrB s x) (k .junk (.set x (.st ty (nQ cs off ns))))))
   | _=>none
  | .re x pi off=>match lkB s.bx x,uD ns with
   | some (.rw e kk ty xs pins),some ds=>match lkP pins pi with
    | some ⟨j,cs⟩=>chk (ns.length==i.size) (chk (decide (off + ds.length≤tyN ty)) (chk (wrB s x) (match (if ds.length=tyN ty then some ds else cs.map fun cs=>nQ cs off ds) with
     | some cs'=>match aan ty cs' with
      | some y=>k .junk (.set x (.rw e kk ty (xs.set j.toNat y) ((pi,⟨j,some (BT ty y)⟩)::xl pins)))
      | none=>none
     | none=>none)))
    | none=>none
   | _,_=>none
  | _=>none
 | _,_=>none
def NR (place:Nat→Option (Nat×Nat)) : List SV→List (Nat×SV)→Option (List SV)
 | cs,[]=>some cs
 | cs,(i,p)::rest=>match place i,LK p with
  | some (off,size),some ns=>chk (ns.length==size) (chk (decide (off + ns.length≤cs.length)) (NR place (nQ cs off ns) rest))
  | _,_=>none
def EC (i:TI) : Option (List SV):=GS i.zero
def LI:Nat→Nat→List SD→List (List SD)
 | _,0,_=>[]
 | k,n + 1,l=>l.take k::LI k n (l.drop k)
def Lu (t:Ty) : List (List SD)→Option (List t.den)
 | []=>some []
 | c::l=>match aan t c,Lu t l with | some x,some xs=>some (x::xs) | _,_=>none
def aba (P:Program) : Nat→TypeId→Option Ty
 | 0,_=>none
 | d + 1,t=>match acx t with
  | some i=>some (.st i)
  | none=>match P.underlying t with
   | some (.int k)=>some (.int k)
   | some .bool=>some .bool
   | some .string=>some .str
   | some (.slice e)=>(aba P d e).map .sl
   | _=>none
def Xb {α : Type} : Nat→List α→List α
 | 0,_=>[]
 | n + 1,l=>l++Xb n l
def vD (P:Program) (s:SS) (dst:Option Nat) (t:TypeId) (len:Nat) (parts:List (Nat×SV)) (k:SV→Upd→Option ρ) : Option ρ :=
 match dst,P.underlying t with
 | some d,some (.slice e)=>match oJ P e,lkB s.bx d,aba P 4 e with
  | some i,none,some ty=>match EC i with
   | some z=>chk (decide (0 < i.size)) (chk (decide (len≤1000)) (chk (decide (len * i.size≤16777216)) (chk (K1 s d) (match NR (fun j=>some (j * i.size,i.size)) (Xb len z) parts with
    | some cs=>match uD cs with
     | some ds=>match Lu ty (LI i.size len ds) with
      | some xs=>chk (tyN ty==i.size) (k (.row d) (.new d (.rw e i.size ty xs [])))
      | none=>none
     | none=>none
    | none=>none))))
   | none=>none
  | _,_,_=>none
 | _,_=>none
def LU (P:Program) (s:SS) (dst:Option Nat) (t:TypeId) (p q:SV) (k:SV→Upd→Option ρ) : Option ρ :=
 match P.underlying t,sY s q with
 | some (.slice e),some (.sl ty ys)=>match oJ P e with
  | some i=>chk (decide (0 < i.size)) (chk (decide (0 < i.bytes)) (chk (decide (i.bytes≤1000000)) (chk (tyN ty==i.size) (match p with
   | .row x=>match lkB s.bx x with
    | some (.rw e' kk ty' xs _)=>match Ty.same ty ty' with
     | some ⟨h⟩=>chk (e' == e) (chk (kk==i.size) (chk (wrB s x) (Option.bind (aP xs (zG h ys)) fun zs=>k (.row x) (.grow x (.rw e' kk ty' zs [])))))
     | none=>none
    | _=>none
   | .d .nl=>match dst with
    | some d=>match lkB s.bx d with
     | none=>chk (K1 s d) (Option.bind (aP ([] : List ty.den) ys) fun zs=>k (.row d) (.new d (.rw e i.size ty zs [])))
     | some _=>none
    | none=>none
   | _=>none))))
  | none=>none
 | _,_=>none
def BM:SV→Option Int
 | .d (.int _ i)=>some i
 | _=>none
def vwO (n:Nat) (l h:Int) : Option Unit:=if 0≤l∧0≤h∧l.toNat≤h.toNat∧h.toNat≤n then some () else none
def abj (lo:Option SV) (n:Int) : Option Int:=match lo with
 | none=>some n
 | some v=>BM v
def sZ {α : Type} (xs:List α) (lo hi:Nat) (ys:List α) : Option (List α):=if lo≤hi∧hi≤xs.length then some (lG xs lo (ys.take (hi - lo))) else none
def mkO {α : Type} (z : α) (n:Int) : Option (List α):=if 0≤n∧n≤1000000 then some (List.replicate n.toNat z) else none
def abc (s:SS) : SV→Option SD
 | .vw t lo hi=>match lkB s.bx t with
  | some (.rw _ _ ty xs _)=>some (.sl ty ((xs.drop lo).take (hi - lo)))
  | _=>none
 | v=>sY s v
def Xn (s:SS) : SV→Option (Nat×Nat×Nat)
 | .row t=>match lkB s.bx t with
  | some (.rw _ _ _ xs _)=>some (t,0,xs.length)
  | _=>none
 | .vw t lo hi=>some (t,lo,hi)
 | _=>none
def Yw (P:Program) (s:SS) (t:TypeId) (p q:SV) (k:SV→Upd→Option ρ) : Option ρ :=
 match P.underlying t,abc s q,Xn s p with
 | some (.slice e),some (.sl ty ys),some (x,lo,hi)=>match oJ P e,lkB s.bx x with
  | some i,some (.rw e' kk ty' xs pins)=>match Ty.same ty ty' with
   | some ⟨h⟩=>chk (kk==i.size) (chk (tyN ty==i.size) (chk (wrB s x) (Option.bind (sZ xs lo hi (zG h ys)) fun zs=>k (.d (.int .i64 (min ys.length (hi - lo) : Nat))) (.set x (.rw e' kk ty' zs (xl pins))))))
   | none=>none
  | _,_=>none
 | _,_,_=>none
def PZ:Operand→Operand→Bool
 | .tmp i,.tmp j=>Nat.beq i j
 | .const (.int _ n),.const (.int _ m)=>n==m
 | _,_=>false
def XE (P:Program) (s:SS) (dst:Option Nat) (t:TypeId) (same:Bool) (p:SV) (k:SV→Upd→Option ρ) : Option ρ :=
 match dst,P.underlying t,p,same with
 | some d,some (.slice e),.d (.int _ n),true=>match oJ P e,lkB s.bx d,aba P 4 e with
  | some i,none,some ty=>match EC i with
   | some z=>(match uD z with
    | some ds=>(match aan ty ds with
     | some z0=>chk (decide (0 < i.size)) (chk (decide (i.bytes≤1000000)) (chk (tyN ty==i.size) (chk (K1 s d) (Option.bind (mkO z0 n) fun xs=>k (.row d) (.new d (.rw e i.size ty xs []))))))
     | none=>none)
    | none=>none)
   | none=>none
  | _,_,_=>none
 | _,_,_,_=>none
def PR (P:Program) (s:SS) (t:TypeId) (p:SV) (lo hi:Option SV) (k:SV→Option ρ) : Option ρ :=
 match P.underlying t,p with
 | some (.slice e),.d (.sl ty xs)=>match oJ P e with
  | some i=>chk (tyN ty==i.size) (match lo,hi with
   | none,none=>k (.d (.sl ty xs))
   | some l,none=>match BM l with | some l=>Option.bind (loO xs l) fun z=>k (.d (.sl ty z)) | none=>none
   | none,some h=>match BM h with | some h=>Option.bind (hiO xs h) fun z=>k (.d (.sl ty z)) | none=>none
   | some l,some h=>match BM l,BM h with | some l,some h=>Option.bind (lhO xs l h) fun z=>k (.d (.sl ty z)) | _,_=>none)
  | none=>none
 | some (.slice e),.row x=>match oJ P e,lkB s.bx x with
  | some i,some (.rw _ kk ty xs _)=>chk (kk==i.size) (match abj lo 0,abj hi xs.length with
   | some l,some h=>Option.bind (vwO xs.length l h) fun _=>k (.vw x l.toNat h.toNat)
   | _,_=>none)
  | _,_=>none
 | some .string,.d (.str x)=>match lo,hi with
   | some l,none=>match BM l with | some l=>Option.bind (Uk x l) fun z=>k (.d (.str z)) | none=>none
   | none,some h=>match BM h with | some h=>Option.bind (Ij x h) fun z=>k (.d (.str z)) | none=>none
   | some l,some h=>match BM l,BM h with | some l,some h=>Option.bind (KL x l h) fun z=>k (.d (.str z)) | _,_=>none
   | none,none=>none
 | _,_=>none
def zl (mx:Bool) : SV→List SV→Option SV
 | p,[]=>some p
 | .d (.int k x),.d (.int _ y)::l=>zl mx (.d (.int k (match mx with | true=>if y > x then y else x | false=>if y < x then y else x))) l
 | _,_=>none
def abp (P:Program) (s:SS) (t:TypeId) (v:SV) (k:SV→Option ρ) : Option ρ :=
 match P.underlying t with
 | some (.slice _)=>match sY s v with
  | some (.sl _ xs)=>k (.d (.int .i64 (xs.length:Int)))
  | some .nl=>k (.d (.int .i64 0))
  | _=>match v with
   | .vw _ lo hi=>k (.d (.int .i64 ((hi - lo:Nat) : Int)))
   | _=>none
 | some .string=>match v with
  | .d (.str x)=>k (.d (.int .i64 (x.size:Int)))
  | _=>none
 | _=>none
def Ou (P:Program) (s:SS) (dst:Option Nat) (f:Builtin) (args:List SV) (ts:List TypeId) (k:SV→Upd→Option ρ) : Option ρ :=
 match f with
 | .len=>(match args,ts with | [x],[t]=>abp P s t x fun v=>k v .no | _,_=>none)
 | .append=>(match args,ts with | [x,y],[t,t']=>(match Nat.beq t' t with | true=>LU P s dst t x y k | false=>none) | _,_=>none)
 | .min=>(match args with | x::xs=>(match zl false x xs with | some v=>k v .no | none=>none) | _=>none)
 | .max=>(match args with | x::xs=>(match zl true x xs with | some v=>k v .no | none=>none) | _=>none)
 | .copy=>(match args,ts with | [x,y],[t,_]=>Yw P s t x y k | _,_=>none)
 | _=>none
def xX (s:SS) : List (Nat×Operand)→List (Nat×SV)
 | []=>[]
 | (i,x)::l=>(i,evX s x)::xX s l
def wZ (s:SS) : List Operand→List SV
 | []=>[]
 | x::l=>evX s x::wZ s l
def Xk (c:Bool) (v w:SV) : Option SV :=
 match v,w with
 | .d (.int k x),.d (.int k' y)=>if k=k' then some (.d (.int k (if c=true then x else y))) else none
 | .d (.bool x),.d (.bool y)=>some (.d (.bool (if c=true then x else y)))
 | .d (.str x),.d (.str y)=>some (.d (.str (if c=true then x else y)))
 | v,w=>match c with | true=>some v | false=>some w
def abo (p:SV) (k:SV→Option ρ) : Option ρ:=match p with
 | .ptr t o=>k (.ptr t o)
 | .re t q o=>k (.re t q o)
 | .fe cs=>k (.fe cs)
 | _=>none
def aai (P:Program) (o:Oper) (s:SS) (k:SV→Upd→Option ρ) : Option ρ :=
 match o.op with
 | .move x=>k (evX s x) .no
 | .assign x=>k (evX s x) .no
 | .pick c x y=>match evX s c with
  | .d (.bool t)=>match Xk t (evX s x) (evX s y) with | some v=>k v .no | none=>none
  | _=>none
 | .alloc e=>match o.dst,oJ P e with
  | some t,some i=>match lkB s.bx t,EC i with
   | none,some z=>chk (K1 s t) (k (.ptr t 0) (.new t (.st e z)))
   | _,_=>none
  | _,_=>none
 | .box e x=>match o.dst,LK (evX s x) with
  | some t,some cs=>match lkB s.bx t with
   | none=>chk (K1 s t) (k (.ptr t 0) (.new t (.st e cs)))
   | some _=>none
  | _,_=>none
 | .build t ps=>match oJ P t,Jz P t with
  | some i,some fl=>match EC i with
   | some z=>(match NR (fun j=>(fl[j]?).map fun x=>(x.1,x.2.1)) z (xX s ps.toList) with | some cs=>k (.ag cs) .no | none=>none)
   | none=>none
  | _,_=>none
 | .buildSlice t n ps=>vD P s o.dst t n (xX s ps.toList) k
 | .load t x=>match To P s t (evX s x) with | some v=>k v .no | none=>none
 | .store t x y=>PP P s t (evX s x) (evX s y) k
 | .binOp op t x y _=>abD P op t (XU y) (evX s x) (evX s y) fun v=>k v .no
 | .unOp op _ x=>unX op (evX s x) fun v=>k v .no
 | .convert src dst x=>Yy P s src dst (evX s x) fun v=>k v .no
 | .slice t x lo hi none=>PR P s t (evX s x) (lo.map (evX s)) (hi.map (evX s)) fun v=>k v .no
 | .fieldAddr t x f=>yl P t (evX s x) f fun v=>k v .no
 | .field t x f=>QI P t (evX s x) f fun v=>k v .no
 | .indexAddr t x i=>yf P s o.dst t (evX s x) (evX s i) k
 | .extract x i=>match evX s x with
  | .tup vs=>match vs[i]? with | some v=>k v .no | none=>none
  | _=>none
 | .index t x i=>match P.underlying t,evX s x,evX s i with
  | some .string,.d (.str x),.d (.int _ i)=>Option.bind (ke x i) fun z=>k (.d (.int .u8 z)) .no
  | _,_,_=>none
 | .call c=>match c.callee with
  | .builtin f=>Ou P s o.dst f (wZ s c.args.toList) c.argTypes.toList k
  | _=>none
 | .makeFunc (.func f) ps qs=>k (.fn f (wZ s ps.toList) (wZ s qs.toList)) .no
 | .makeSlice t x y=>XE P s o.dst t (PZ x y) (evX s x) k
 | .nilCheck x=>abo (evX s x) fun v=>k v .no
 | _=>none
end
section
inductive CT where
 | v (t:Ty)
 | a (i:Nat)
 | pl (t:Ty)
 | ps (i:Nat)
def CT.den:CT→Type
 | .v t=>t.den
 | .a i=>ST i
 | .pl t=>t.den
 | .ps i=>ST i
def vB:List CT→Type
 | []=>Unit
 | c::cs=>c.den×vB cs
inductive IB where
 | no
 | own (e k:Nat) (t:Ty)
 | bx (ty n:Nat) (rows:List (Nat×Nat×Nat×Ty))
def IB.den:IB→Type
 | .no=>Unit
 | .own _ _ t=>List t.den
 | .bx _ n _=>ST n
def IB.nJ:IB→Nat
 | .bx _ _ rows=>rows.length
 | _=>0
def vh:Nat→List IB→List (List Nat)
 | _,[]=>[]
 | base,b::l=>List.range' base b.nJ::vh (base + b.nJ) l
def EO:List IB→Nat
 | []=>0
 | b::l=>b.nJ + EO l
def ze:List IB→Type
 | []=>Unit
 | b::l=>b.den×ze l
inductive PT where
 | lf (t:Ty)
 | ag (i:Nat)
 | pl (t:Ty)
 | ps (i:Nat)
 | fn (f:FuncId) (a b:List CT)
 | own (e k:Nat) (t:Ty)
 | mv (e k:Nat) (t:Ty)
 | bx (ty n:Nat) (rows:List (Nat×Nat×Nat×Ty))
 | agr (n:Nat) (rows:List (Nat×Nat×Nat×Ty))
 | io (l:List IB)
def PT.den:PT→Type
 | .lf t=>t.den
 | .ag i=>ST i
 | .pl t=>t.den
 | .ps i=>ST i
 | .fn _ a b=>vB a×vB b
 | .own _ _ t=>List t.den
 | .mv _ _ t=>List t.den
 | .bx _ n _=>ST n
 | .agr n _=>ST n
 | .io l=>ze l
def PT.isM:PT→Bool
 | .own ..=>true
 | .mv ..=>true
 | .bx ..=>true
 | .agr ..=>true
 | .io _=>true
 | _=>false
def pD:List PT→Bool
 | []=>false
 | p::l=>match p.isM with | true=>true | false=>pD l
def PT.flat:PT→Bool
 | .lf (.int _)=>true
 | .lf .bool=>true
 | .lf .str=>true
 | .lf _=>false
 | .ag i=>stF i
 | _=>false
def ab9:(c:CT)→c.den→SV
 | .v t,x=>.d (ru t x)
 | .a i,x=>.ag (BI (stC i x))
 | .pl t,x=>.fe [ru t x]
 | .ps i,x=>.fe (stC i x)
def JL:(cs:List CT)→vB cs→List SV
 | [],_=>[]
 | c::cs,x=>ab9 c x.1::JL cs x.2
def Vb:(p:PT)→p.den→SV
 | .lf t,x=>.d (ru t x)
 | .ag i,x=>.ag (BI (stC i x))
 | .pl t,x=>.fe [ru t x]
 | .ps i,x=>.fe (stC i x)
 | .fn f a b,x=>.fn f (JL a x.1) (JL b x.2)
 | .own ..,_=>.junk
 | .mv ..,_=>.junk
 | .bx ..,_=>.junk
 | .agr ..,_=>.junk
 | .io _,_=>.junk
def aam (s:SS) (t:Ty) (v:SV) : Option t.den:=match sY s v with | some c=>c.as t | none=>none
def aap (s:SS) (i:Nat) : SV→Option (ST i)
 | .ag cs=>match Lv s cs with | some cs=>stK i cs | none=>none
 | _=>none
def TV (t:Ty) : SV→Option t.den
 | .fe [c]=>c.as t
 | _=>none
def TU (i:Nat) : SV→Option (ST i)
 | .fe cs=>stK i cs
 | _=>none
def acb (s:SS) : (c:CT)→SV→Option c.den
 | .v t,v=>aam s t v
 | .a i,v=>aap s i v
 | .pl t,v=>TV t v
 | .ps i,v=>TU i v
def Og (s:SS) : (cs:List CT)→List SV→Option (vB cs)
 | [],[]=>some ()
 | c::cs,v::vs=>Option.bind (acb s c v) fun x=>Option.bind (Og s cs vs) fun xs=>some (x,xs)
 | _,_=>none
def aby (s:SS) (f:FuncId) (a b:List CT) : SV→Option (vB a×vB b)
 | .fn f' ps qs=>match Nat.beq f' f with
  | true=>Option.bind (Og s a ps) fun x=>Option.bind (Og s b qs) fun y=>some (x,y)
  | false=>none
 | _=>none
def Oj (s:SS) : (p:PT)→SV→Option p.den
 | .lf t,v=>aam s t v
 | .ag i,v=>aap s i v
 | .pl t,v=>TV t v
 | .ps i,v=>TU i v
 | .fn f a b,v=>aby s f a b v
 | .own ..,_=>none
 | .mv ..,_=>none
 | .bx ..,_=>none
 | .agr ..,_=>none
 | .io _,_=>none
def cg:List PT→Type
 | []=>Unit
 | p::ps=>p.den×cg ps
def aX:List PT→Type
 | []=>Unit
 | [p]=>p.den
 | p::q::l=>p.den×aX (q::l)
def C2:(ps:List PT)→cg ps→List SV
 | [],_=>[]
 | p::ps,x=>Vb p x.1::C2 ps x.2
def TW (s:SS) : (ps:List PT)→List SV→Option (cg ps)
 | [],[]=>some ()
 | p::ps,v::vs=>Option.bind (Oj s p v) fun x=>Option.bind (TW s ps vs) fun xs=>some (x,xs)
 | _,_=>none
def TN:(rs:List PT)→aX rs→List SV
 | [],_=>[]
 | [p],x=>[Vb p x]
 | p::q::l,x=>Vb p x.1::TN (q::l) x.2
def ab8 (rs:List PT) (x:aX rs) : SV:=match rs,x with
 | [p],x=>Vb p x
 | rs,x=>.tup (TN rs x)
def JS (s:SS) : (rs:List PT)→List SV→Option (aX rs)
 | [],[]=>some ()
 | [p],[v]=>Oj s p v
 | p::q::l,v::vs=>Option.bind (Oj s p v) fun x=>Option.bind (JS s (q::l) vs) fun xs=>some (x,xs)
 | _,_=>none
def rF:List PT→Bool
 | []=>true
 | p::l=>match p.flat with | true=>rF l | false=>false
def acd:CT→Bool
 | .v (.st _)=>false
 | .pl (.st _)=>false
 | _=>true
def GG:List CT→Bool
 | []=>true
 | c::l=>match acd c with | true=>GG l | false=>false
def UA:PT→Bool
 | .lf (.st _)=>false
 | .pl (.st _)=>false
 | .fn _ a b=>match GG a with | true=>GG b | false=>false
 | .lf _=>true
 | .pl _=>true
 | .ag _=>true
 | .ps _=>true
 | _=>false
def vd:List PT→Bool
 | []=>true
 | p::l=>match UA p with | true=>vd l | false=>false
def tN:List PT→Bool
 | []=>true
 | p::l=>match p.isM||UA p with | true=>tN l | false=>false
structure Ent where
 ps:List PT
 rs:List PT
 f:cg ps→Option (aX rs)
def acC:PT→SV→Bool
 | .fn f _ _,.fn g _ _=>Nat.beq g f
 | .fn _ _ _,_=>false
 | _,_=>true
def aaU:List PT→List SV→Bool
 | [],_=>true
 | _ :: _,[]=>true
 | p::ps,v::vs=>match acC p v with | true=>aaU ps vs | false=>false
def lkE:List (Nat×Ent)→Nat→List SV→Option Ent
 | [],_,_=>none
 | (j,v)::l,i,vs=>match Nat.beq i j with
  | true=>(match aaU v.ps vs with | true=>some v | false=>lkE l i vs)
  | false=>lkE l i vs
mutual
def qd:SV→Bool
 | .row _=>false
 | .ptr _ _=>false
 | .re _ _ _=>false
 | .vw _ _ _=>false
 | .ag cs=>cF cs
 | .tup cs=>cF cs
 | .fn _ ps qs=>match cF ps with | true=>cF qs | false=>false
 | _=>true
def cF:List SV→Bool
 | []=>true
 | c::cs=>match qd c with | true=>cF cs | false=>false
end
def qk:List (Nat×Nat×Nat×Nat×Ty)→Nat→Option (Nat×Nat×Nat×Ty)
 | [],_=>none
 | (j,R,e,k,t)::l,i=>match Nat.beq j i with | true=>some (R,e,k,t) | false=>qk l i
def cellsOf (s:SS) (rows:List (Nat×Nat×Nat×Nat×Ty)) : Nat→List SV→Option (List SD)
 | _,[]=>some []
 | j,c::cs=>match qk rows j with
  | some (R,e,k,t)=>(match c,lkB s.bx R with
   | .row R',some (.rw e' k' t' xs _)=>(match Ty.same t' t with
    | some ⟨h⟩=>chk (Nat.beq R' R) (chk (e' == e) (chk (k' == k) (match cellsOf s rows (j + 1) cs with | some r=>some (.sl t (zG h xs)::r) | none=>none)))
    | none=>none)
   | _,_=>none)
  | none=>(match c,cellsOf s rows (j + 1) cs with
   | .d x,some r=>some (x::r)
   | _,_=>none)
def ga (rows:List (Nat×Nat×Nat×Nat×Ty)) : Nat→List SD→List (Nat×Option aY)→Option (List SV×List (Nat×Option aY))
 | _,[],bx=>some ([],bx)
 | j,c::cs,bx=>match qk rows j with
  | some (R,e,k,t)=>(match c.as (.sl t),ga rows (j + 1) cs bx with
   | some xs,some (vs,bx)=>some (.row R::vs,(R,some (.rw e k t xs []))::bx)
   | _,_=>none)
  | none=>(match ga rows (j + 1) cs bx with
   | some (vs,bx)=>some (.d c::vs,bx)
   | none=>none)
def mI:List (Nat×Nat×Nat×Ty)→List Nat→List (Nat×Nat×Nat×Nat×Ty)
 | (j,e,k,t)::l,R::is=>(j,R,e,k,t)::mI l is
 | _,_=>[]
def PT.nI:PT→Nat
 | .own ..=>1
 | .mv ..=>1
 | .bx _ _ rows=>rows.length + 1
 | .agr _ rows=>rows.length
 | _=>0
def NX (rows:List (Nat×Nat×Nat×Ty)) (is:List Nat) (n:Nat) (x:ST n) : Option (List SV×List (Nat×Option aY)):=ga (mI rows is) 0 (stC n x) []
def N0:(p:PT)→List Nat→p.den→Option (SV×List (Nat×Option aY))
 | .own e k t,is,xs=>(match is with | [i]=>some (.row i,[(i,some (.rw e k t xs []))]) | _=>none)
 | .mv e k t,is,xs=>(match is with | [i]=>some (.row i,[(i,some (.rw e k t xs []))]) | _=>none)
 | .bx ty n rows,is,x=>(match is with | i::is=>(match NX rows is n x with | some (vs,bx)=>some (.ptr i 0,(i,some (.st ty vs))::bx) | none=>none) | _=>none)
 | .agr n rows,is,x=>(match NX rows is n x with | some (vs,bx)=>some (.ag vs,bx) | none=>none)
 | .io _,_,_=>none
 | .lf t,_,x=>some (.d (ru t x),[])
 | .ag i,_,x=>some (.ag (BI (stC i x)),[])
 | .pl t,_,x=>some (.fe [ru t x],[])
 | .ps i,_,x=>some (.fe (stC i x),[])
 | .fn f a b,_,x=>some (.fn f (JL a x.1) (JL b x.2),[])
def NZ:(ps:List PT)→List (List Nat)→cg ps→Option (List SV×List (Nat×Option aY))
 | [],[],_=>some ([],[])
 | p::ps,is::iss,x=>(match N0 p is x.1,NZ ps iss x.2 with | some (v,b),some (vs,bs)=>some (v::vs,b++bs) | _,_=>none)
 | _,_,_=>none
def Ed:List (Nat×Nat×Nat×Ty)→List SV→Option (List Nat)
 | [],_=>some []
 | (j,_)::l,cs=>(match cs[j]?,Ed l cs with | some (.row R),some is=>some (R::is) | _,_=>none)
def Oa (s:SS) (rows:List (Nat×Nat×Nat×Ty)) (n:Nat) (cs:List SV) : Option (ST n×List Nat):=match Ed rows cs with
 | some is=>(match cellsOf s (mI rows is) 0 cs with
  | some ds=>(match stK n ds with | some x=>some (x,is) | none=>none)
  | none=>none)
 | none=>none
def uf (s:SS) (e k:Nat) (t:Ty) : SV→Option (List t.den×List Nat)
 | .row i=>(match lkB s.bx i with
  | some (.rw e' k' t' xs _)=>(match Ty.same t' t with
   | some ⟨h⟩=>chk (e' == e) (chk (k' == k) (some (zG h xs,[i])))
   | none=>none)
  | _=>none)
 | _=>none
def Oh (s:SS) (ty n:Nat) (rows:List (Nat×Nat×Nat×Ty)) : SV→Option (ST n×List Nat)
 | .ptr i 0=>(match lkB s.bx i with
  | some (.st ty' cs)=>chk (ty' == ty) (match Oa s rows n cs with | some (x,is)=>some (x,i::is) | none=>none)
  | _=>none)
 | _=>none
def QS (s:SS) (n:Nat) (rows:List (Nat×Nat×Nat×Ty)) : SV→Option (ST n×List Nat)
 | .ag cs=>Oa s rows n cs
 | _=>none
def Oc (s:SS) (p:PT) (v:SV) : Option (p.den×List Nat):=chk (qd v) (match Oj s p v with | some x=>some (x,[]) | none=>none)
def QR (s:SS) : (p:PT)→SV→Option (p.den×List Nat)
 | .own e k t,v=>uf s e k t v
 | .mv e k t,v=>uf s e k t v
 | .bx ty n rows,v=>Oh s ty n rows v
 | .agr n rows,v=>QS s n rows v
 | .io _,_=>none
 | .lf t,v=>Oc s (.lf t) v
 | .ag i,v=>Oc s (.ag i) v
 | .pl t,v=>Oc s (.pl t) v
 | .ps i,v=>Oc s (.ps i) v
 | .fn f a b,v=>Oc s (.fn f a b) v
def JU (s:SS) : (ps:List PT)→List SV→Option (cg ps×List (List Nat))
 | [],[]=>some ((),[])
 | p::ps,v::vs=>(match QR s p v,JU s ps vs with | some (x,is),some (xs,iss)=>some ((x,xs),is::iss) | _,_=>none)
 | _,_=>none
structure MU where
 ks:List Nat
 us:List (Nat×Option aY)
 gs:List Nat
mutual
def stV (ks:List Nat) : SV→SV
 | .row t=>match aC ks t with | true=>.junk | false=>.row t
 | .re t p o=>match aC ks t with | true=>.junk | false=>.re t p o
 | .vw t p o=>match aC ks t with | true=>.junk | false=>.vw t p o
 | .ag cs=>.ag (uN ks cs)
 | .tup cs=>.tup (uN ks cs)
 | .fn f ps qs=>.fn f (uN ks ps) (uN ks qs)
 | v=>v
def uN (ks:List Nat) : List SV→List SV
 | []=>[]
 | c::cs=>stV ks c::uN ks cs
end
def Ug (ks:List Nat) : List (Nat×SV)→List (Nat×SV)
 | []=>[]
 | (i,v)::l=>(i,stV ks v)::Ug ks l
def xO (ks:List Nat) : List (Nat×Option aY)→List (Nat×Option aY)
 | []=>[]
 | (i,some (.st ty cs))::l=>(i,some (.st ty (uN ks cs)))::xO ks l
 | (i,b)::l=>(i,b)::xO ks l
def SS.updM (s:SS) (dst:Option Nat) (v:SV) (m:MU) : SS:=⟨tD (Ug m.ks s.sl) dst v,m.us++xO m.ks s.bx,s.pr,s.ro,m.gs++s.oc⟩
def cA:List PT→List IB
 | .io l :: _=>l
 | _=>[]
def fc:List PT→List PT
 | .io _ :: l=>l
 | l=>l
def jT:(rs:List PT)→aX rs→ze (cA rs)
 | [],_=>()
 | [.io _],r=>r
 | .io _ :: _ :: _,r=>r.1
 | .own .. :: _,_=>()
 | .mv .. :: _,_=>()
 | .bx .. :: _,_=>()
 | .agr .. :: _,_=>()
 | .lf _ :: _,_=>()
 | .ag _ :: _,_=>()
 | .pl _ :: _,_=>()
 | .ps _ :: _,_=>()
 | .fn .. :: _,_=>()
def ic:(rs:List PT)→aX rs→aX (fc rs)
 | [],_=>()
 | [.io _],_=>()
 | .io _ :: _ :: _,r=>r.2
 | .own .. :: _,r=>r
 | .mv .. :: _,r=>r
 | .bx .. :: _,r=>r
 | .agr .. :: _,r=>r
 | .lf _ :: _,r=>r
 | .ag _ :: _,r=>r
 | .pl _ :: _,r=>r
 | .ps _ :: _,r=>r
 | .fn .. :: _,r=>r
def KW (s:SS) (i:Nat) : List (Nat×Pin):=match lkB s.bx i with | some (.rw _ _ _ _ pins)=>xl pins | _=>[]
def lN:List Nat→List (Nat×Option aY)
 | []=>[]
 | t::l=>(t,none)::lN l
def abw (s:SS) : (p:PT)→(b:IB)→List Nat→List Nat→b.den→Option MU
 | .own ..,.own e k t,is,_,xs=>(match is with | [i]=>some ⟨[],[(i,some (.rw e k t xs (KW s i)))],[]⟩ | _=>none)
 | .mv ..,.no,is,_,_=>(match is with | [i]=>some ⟨[i],[],[i]⟩ | _=>none)
 | .bx ..,.bx ty n rows,is,js,x=>(match is with | i::is=>(match NX rows js n x with | some (vs,bx)=>some ⟨is,(i,some (.st ty vs))::bx,is⟩ | none=>none) | _=>none)
 | .lf _,.no,_,_,_=>some ⟨[],[],[]⟩
 | .ag _,.no,_,_,_=>some ⟨[],[],[]⟩
 | .pl _,.no,_,_,_=>some ⟨[],[],[]⟩
 | .ps _,.no,_,_,_=>some ⟨[],[],[]⟩
 | .fn ..,.no,_,_,_=>some ⟨[],[],[]⟩
 | _,_,_,_,_=>none
def MU.app (a b:MU) : MU:=⟨a.ks++b.ks,a.us++b.us,a.gs++b.gs⟩
def TO (s:SS) : (ps:List PT)→(ls:List IB)→List (List Nat)→List (List Nat)→ze ls→Option MU
 | [],[],[],[],_=>some ⟨[],[],[]⟩
 | p::ps,b::ls,is::iss,js::kss,o=>(match abw s p b is js o.1,TO s ps ls iss kss o.2 with | some m,some m'=>some (m.app m') | _,_=>none)
 | _,_,_,_,_=>none
def Lk:(rs:List PT)→List (List Nat)→aX rs→Option (List SV×List (Nat×Option aY))
 | [],[],_=>some ([],[])
 | [p],[is],x=>(match N0 p is x with | some (v,b)=>some ([v],b) | none=>none)
 | p::q::l,is::iss,x=>(match N0 p is x.1,Lk (q::l) iss x.2 with | some (v,b),some (vs,bs)=>some (v::vs,b++bs) | _,_=>none)
 | _,_,_=>none
def Xt:List SV→SV
 | [v]=>v
 | vs=>.tup vs
def oM:Nat→List PT→List (List Nat)
 | _,[]=>[]
 | base,p::l=>List.range' base p.nI::oM (base + p.nI) l
def br:List (List Nat)→List Nat
 | []=>[]
 | l::ls=>l++br ls
def tP:List Nat→Bool
 | []=>true
 | a::l=>match aC l a with | true=>false | false=>tP l
def Tg (s:SS) : List Nat→Bool
 | []=>true
 | j::l=>match K1 s j,lkB s.bx j,Nat.blt j 1000000 with | true,none,true=>Tg s l | _,_,_=>false
def Tf (s:SS) : List Nat→Bool
 | []=>true
 | i::l=>match aC s.pr i with | true=>false | false=>Tf s l
def idU:List (Nat×Option aY)→List Nat
 | []=>[]
 | (i,_)::l=>i::idU l
def PM:List Nat→List Nat→Bool
 | [],_=>true
 | a::l,m=>match aC m a with | true=>PM l m | false=>false
def aaY (ps:List PT) (iss:List (List Nat)) (x:cg ps) : Bool:=match NZ ps iss x with | some (_,bi)=>tP (idU bi)&&PM (br iss) (idU bi) | none=>false
def Th (s:SS) : List (Nat×Option aY)→Bool
 | []=>true
 | (i,b)::l=>(match lkB s.bx i with
  | some (.st ty cs)=>(match b with | some (.st ty' cs')=>ty==ty' && Nat.beq cs.length cs'.length | _=>false)
  | _=>true)&&Th s l
section
variable {ρ : Type}
def UP (T:List (Nat×Ent)) (f:Nat) (args:List SV) : Bool:=match lkE T f args with | some en=>pD en.ps||pD en.rs | none=>false
def T0 (T:List (Nat×Ent)) (f:Nat) (s:SS) (args:List SV) (k:SV→Option ρ) : Option ρ :=
 match lkE T f args with
 | none=>none
 | some en=>chk (vd en.rs) (chk (cF args||rF en.rs) (Option.bind (TW s en.ps args) fun x=>Option.bind (en.f x) fun r=>k (ab8 en.rs r)))
def T1 (T:List (Nat×Ent)) (f:Nat) (s:SS) (dst:Option Nat) (args:List SV) (k:SV→MU→Option ρ) : Option ρ :=
 match s.ro with
 | true=>none
 | false=>match lkE T f args,dst with
  | some en,some d=>(match JU s en.ps args with
   | some (x,iss)=>Option.bind (en.f x) fun r =>
    let kss:=vh (500000 + 64 * d) (cA en.rs)
    let jss:=oM (500000 + 64 * d + EO (cA en.rs)) (fc en.rs)
    match TO s en.ps (cA en.rs) iss kss (jT en.rs r),Lk (fc en.rs) jss (ic en.rs r) with
    | some m,some (vs,bs)=>chk (Tf s (idU m.us++(m.ks++m.gs))&&(Tg s (idU bs++(br kss++br jss))&&(tP (br iss++(br kss++br jss))&&(tP (idU (m.us++(bs++lN m.gs)))&&(Th s (m.us++lN m.gs)&&(PM (br iss) (idU m.us++m.gs)&&(PM (idU m.us++m.gs) (br iss++br kss)&&(aaY en.ps iss x&&(PM (br kss++br jss) (idU m.us++idU bs)&&(tN (fc en.rs)&&tN en.ps)))))))))) (k (Xt vs) ⟨m.ks,m.us++(bs++lN m.gs),m.gs⟩)
    | _,_=>none
   | none=>none)
  | _,_=>none
def xp (s:SS) (x:Operand) (b:Bool) : SS:=match x with
 | .tmp i=>⟨(i,.d (.bool b))::s.sl,s.bx,s.pr,s.ro,s.oc⟩
 | _=>s
def SR (g:Nat) : List Oper→Option (List Oper×Nat×List Oper)
 | []=>none
 | o::l=>match (match o.op,o.dst with | .pick (.tmp g') _ _,some d=>(match Nat.beq g' g with | true=>some d | false=>none) | _,_=>none) with
  | some d=>some ([o],d,l)
  | none=>match SR g l with
   | some (a,d,b)=>some (o::a,d,b)
   | none=>none
def co:List Oper→List Nat
 | []=>[]
 | o::l=>match o.dst with | some d=>d::co l | none=>co l
def pB:List Nat→List (Nat×SV)→List (Nat×SV)
 | [],l=>l
 | d::ds,l=>(d,.junk)::pB ds l
def D7 (d:Nat) (s:SS) : Option Bool:=match lkV s.sl d with | .d (.bool b)=>some b | _=>none
mutual
def vr (t:Nat) (c:SD) : SV→SV
 | .row t'=>match Nat.beq t' t with | true=>.d c | false=>.row t'
 | .re t' p o=>match Nat.beq t' t with | true=>.junk | false=>.re t' p o
 | .vw t' p o=>match Nat.beq t' t with | true=>.junk | false=>.vw t' p o
 | .ag cs=>.ag (ot t c cs)
 | .tup cs=>.tup (ot t c cs)
 | .fn f ps qs=>.fn f (ot t c ps) (ot t c qs)
 | v=>v
def ot (t:Nat) (c:SD) : List SV→List SV
 | []=>[]
 | v::vs=>vr t c v::ot t c vs
end
def F6 (t:Nat) (c:SD) : List (Nat×SV)→List (Nat×SV)
 | []=>[]
 | (i,v)::l=>(i,vr t c v)::F6 t c l
def sQ (t:Nat) (c:SD) : List (Nat×Option aY)→List (Nat×Option aY)
 | []=>[]
 | (i,some (.st ty cs))::l=>(i,some (.st ty (ot t c cs)))::sQ t c l
 | (i,b)::l=>(i,b)::sQ t c l
def Qz (t:Nat) (s:SS) : Option SS:=match lkB s.bx t with
 | some (.rw _ _ ty xs _)=>match aC s.pr t with
  | false=>some ⟨F6 t (.sl ty xs) s.sl,(t,none)::sQ t (.sl ty xs) s.bx,s.pr,s.ro,s.oc⟩
  | true=>some s
 | _=>some s
def lO:List Nat→SS→Option SS
 | [],s=>some s
 | t::l,s=>match Qz t s with | some s=>lO l s | none=>none
mutual
def yj (t:Nat) (ds:List SD) : SV→SV
 | .ptr t' o=>match Nat.beq t' t with | true=>.fe (ds.drop o) | false=>.ptr t' o
 | .ag cs=>.ag (qg t ds cs)
 | .tup cs=>.tup (qg t ds cs)
 | .fn f ps qs=>.fn f (qg t ds ps) (qg t ds qs)
 | v=>v
def qg (t:Nat) (ds:List SD) : List SV→List SV
 | []=>[]
 | v::vs=>yj t ds v::qg t ds vs
end
def F7 (t:Nat) (ds:List SD) : List (Nat×SV)→List (Nat×SV)
 | []=>[]
 | (i,v)::l=>(i,yj t ds v)::F7 t ds l
def sS (t:Nat) (ds:List SD) : List (Nat×Option aY)→List (Nat×Option aY)
 | []=>[]
 | (i,some (.st ty cs))::l=>(i,some (.st ty (qg t ds cs)))::sS t ds l
 | (i,b)::l=>(i,b)::sS t ds l
def abn:List SD→Bool
 | []=>true
 | .nl :: _=>false
 | _ :: l=>abn l
def fbX (sc:List Nat) (t:Nat) (s:SS) : Option SS:=match lkB s.bx t with
 | some (.st _ cs)=>(match uD cs with
  | some ds=>chk (abn ds&&(!(aC s.pr t) && !(aC sc t))) (some ⟨F7 t ds s.sl,(t,none)::sS t ds s.bx,s.pr,s.ro,s.oc⟩)
  | none=>none)
 | _=>none
def JE (sc:List Nat) : List Nat→SS→Option SS
 | [],s=>some s
 | t::l,s=>match fbX sc t s with | some s=>JE sc l s | none=>none
def TJ (s:SS) : List Nat→Bool
 | []=>true
 | t::l=>match lkB s.bx t with | none=>TJ s l | some _=>false
mutual
def P2:SV→List Nat
 | .row t=>[t]
 | .fn _ ps qs=>tK ps++tK qs
 | .ag cs=>tK cs
 | _=>[]
def tK:List SV→List Nat
 | []=>[]
 | c::cs=>P2 c++tK cs
end
def Xo:List (Nat×SV)→List SV
 | []=>[]
 | (_,v)::l=>v::Xo l
def BB:List PT→List SV→List SV
 | p::ps,v::vs=>(match p.isM with | true=>BB ps vs | false=>v::BB ps vs)
 | _,_=>[]
def ZP (q:Bool) (T:List (Nat×Ent)) (o:Oper) (s:SS) : Option SS:=match q,s.ro,o.guard with
 | true,false,none=>(match o.op,vC o with
  | .buildSlice _ _ ps,_=>lO (tK (Xo (xX s ps.toList))) s
  | _,some (x,xs)=>(match evX s x with
   | .fn f ps qs=>(match lkE T f (ps++wZ s xs++qs) with
    | some en=>(match pD en.ps||pD en.rs with
     | true=>lO (tK (BB en.ps (ps++wZ s xs++qs))) s
     | false=>(match rF en.rs with | true=>some s | false=>lO (tK (ps++wZ s xs++qs)) s))
    | none=>some s)
   | _=>some s)
  | _,_=>some s)
 | _,_,_=>some s
mutual
def xm:SV→Option (List Nat)
 | .junk=>none
 | .ptr t _=>some [t]
 | .row t=>some [t]
 | .re t _ _=>some [t]
 | .vw t _ _=>some [t]
 | .ag cs=>rQ cs
 | .tup cs=>rQ cs
 | .fn _ ps qs=>match rQ ps,rQ qs with | some a,some b=>some (a++b) | _,_=>none
 | .d _=>some []
 | .fe _=>some []
def rQ:List SV→Option (List Nat)
 | []=>some []
 | c::cs=>match xm c,rQ cs with | some a,some b=>some (a++b) | _,_=>none
end
def TD (o:Oper) (s:SS) : Option (List Nat):=match o.op with
 | .load _ x=>xm (evX s x)
 | .store _ x _=>xm (evX s x)
 | .indexAddr _ x _=>xm (evX s x)
 | .slice _ x _ _ _=>xm (evX s x)
 | .convert _ _ x=>xm (evX s x)
 | .call c=>(match c.callee with
  | .value f=>(match xm (evX s f),rQ (wZ s c.args.toList) with | some a,some b=>some (a++b) | _,_=>none)
  | _=>rQ (wZ s c.args.toList))
 | _=>some []
def PN:List Nat→List Nat→Bool
 | [],_=>true
 | a::l,m=>match fy.memL m a with | true=>PN l m | false=>false
def zk:List Bd→Nat→Bd
 | [],_=>([],[])
 | x :: _,0=>x
 | _ :: l,i + 1=>zk l i
def Jy (q:Bool) (B:List Bd) (i:Nat) (o:Oper) (s:SS) (u:Upd) : Bool:=match q with
 | true=>true
 | false=>match TD o s with
  | some fs=>PN fs (zk B i).1&&PN (WV u) (zk B i).2
  | none=>false
def TE (q:Bool) (B:List Bd) (i:Nat) (o:Oper) (s:SS) (m:MU) : Bool:=match q with
 | true=>true
 | false=>match TD o s with
  | some fs=>PN fs (zk B i).1&&PN (idU m.us) (zk B i).2
  | none=>false
def u5 (q:Bool) (P:Program) (T:List (Nat×Ent)) (ops:Array Oper) (B:List Bd) : Nat→Nat→List Nat→List Oper→{ρ : Type} → SS→(SS→Option ρ)→Option ρ
 | _,_,_,[],_,s,k=>k s
 | 0,_,_,_ :: _,_,_,_=>none
 | n + 1,i,kn,o::l,_,s,k =>
  let go:=fun (_:Unit)=>match ZP q T o s with
   | none=>none
   | some s=>(match vC o with
    | some (x,xs)=>(match evX s x with
     | .fn f ps qs=>(match UP T f (ps++wZ s xs++qs) with
      | false=>chk (Jy q B i o s .no) (T0 T f s (ps++wZ s xs++qs) fun r=>u5 q P T ops B n (i + 1) kn l (s.upd o.dst r .no) k)
      | true=>T1 T f s o.dst (ps++wZ s xs++qs) fun v m=>chk (TE q B i o s m) (u5 q P T ops B n (i + 1) kn l (s.updM o.dst v m) k))
     | _=>none)
    | none=>aai P o s fun v u=>chk (Jy q B i o s u) (u5 q P T ops B n (i + 1) kn l (s.upd o.dst v u) k))
  let skip:=fun (_:Unit)=>u5 q P T ops B n (i + 1) kn l (s.upd o.dst (.tup []) .no) k
  match o.guard with
  | none=>go ()
  | some (j,want)=>match (ops[j]?).bind (·.dst) with
   | none=>none
   | some g=>match lkV s.sl g with
    | .tup []=>skip ()
    | .d (.bool b)=>(match aC kn g with
     | true=>(match b with
      | true=>(match want with | true=>go () | false=>skip ())
      | false=>(match want with | true=>skip () | false=>go ()))
     | false=>(match SR g (o::l) with
      | none=>none
      | some (l1,d,l2)=>Option.bind (if b=true then u5 q P T ops B n i (g::kn) l1 ⟨(g,.d (.bool true))::s.sl,s.bx,s.pr,true,s.oc⟩ (D7 d) else u5 q P T ops B n i (g::kn) l1 ⟨(g,.d (.bool false))::s.sl,s.bx,s.pr,true,s.oc⟩ (D7 d)) fun qb =>
       u5 q P T ops B n (i + l1.length) kn l2 ⟨(d,.d (.bool qb))::pB (co l1) s.sl,s.bx,s.pr,s.ro,co l1++s.oc⟩ k))
    | _=>none
end
def lkN:List (Nat×List Nat)→Nat→Option (List Nat)
 | [],_=>none
 | (j,v)::l,i=>match Nat.beq i j with | true=>some v | false=>lkN l i
def lh (m:List (Nat×List Nat)) (s:SS) : Operand→List Nat
 | .tmp i=>(match lkN m i with | some l=>l | none=>(match xm (lkV s.sl i) with | some l=>l | none=>[]))
 | _=>[]
def CO (m:List (Nat×List Nat)) (s:SS) : List Operand→List Nat
 | []=>[]
 | x::l=>lh m s x++CO m s l
def abT (m:List (Nat×List Nat)) (s:SS) : List (Nat×Operand)→List Nat
 | []=>[]
 | (_,x)::l=>lh m s x++abT m s l
def acf (mb:List (Nat×List Nat)) (s:SS) (t:Nat) : List Nat:=match lkN mb t with
 | some l=>l
 | none=>(match lkB s.bx t with | some (.st _ cs)=>(match rQ cs with | some l=>l | none=>[]) | _=>[])
def YE (mb:List (Nat×List Nat)) (s:SS) : List Nat→List Nat
 | []=>[]
 | t::l=>acf mb s t++YE mb s l
def abH (mb:List (Nat×List Nat)) (s:SS) (x:List Nat) : List Nat→List (Nat×List Nat)
 | []=>mb
 | t::l=>(t,x++acf mb s t)::abH mb s x l
def Gz:Option Nat→List Nat
 | some d=>[d]
 | none=>[]
def rp (m:List (Nat×List Nat)) (dst:Option Nat) (l:List Nat) : List (Nat×List Nat):=match dst with | some d=>(d,l)::m | none=>m
def ab0:List (Nat×Ent)→Nat→Option Ent
 | [],_=>none
 | (j,v)::l,i=>match Nat.beq i j with | true=>some v | false=>ab0 l i
def acA (T:List (Nat×Ent)) (o:Oper) (f:Operand) : Option (List Nat):=match f,o.dst with
 | .func g,some d=>(match ab0 T g with
  | some en=>(match pD en.ps||pD en.rs with | true=>some (br (vh (500000 + 64 * d) (cA en.rs))++br (oM (500000 + 64 * d + EO (cA en.rs)) (fc en.rs))) | false=>none)
  | none=>none)
 | _,_=>none
def lm (T:List (Nat×Ent)) (s:SS) : List Oper→List (Nat×List Nat)→List (Nat×List Nat)→List Bd
 | [],_,_=>[]
 | o::l,m,mb=>match o.op with
  | .move x=>([],[])::lm T s l (rp m o.dst (lh m s x)) mb
  | .assign x=>([],[])::lm T s l (rp m o.dst (lh m s x)) mb
  | .pick _ x y=>([],[])::lm T s l (rp m o.dst (lh m s x++lh m s y)) mb
  | .build _ ps=>([],[])::lm T s l (rp m o.dst (abT m s ps.toList)) mb
  | .extract x _=>([],[])::lm T s l (rp m o.dst (lh m s x)) mb
  | .field _ x _=>([],[])::lm T s l (rp m o.dst (lh m s x)) mb
  | .fieldAddr _ x _=>([],[])::lm T s l (rp m o.dst (lh m s x)) mb
  | .nilCheck x=>([],[])::lm T s l (rp m o.dst (lh m s x)) mb
  | .indexAddr _ x _=>(lh m s x,[])::lm T s l (rp m o.dst (lh m s x)) mb
  | .load _ x=>(lh m s x,[])::lm T s l (rp m o.dst (YE mb s (lh m s x))) mb
  | .store _ x y=>(lh m s x,lh m s x)::lm T s l m (abH mb s (lh m s y) (lh m s x))
  | .alloc _=>([],Gz o.dst)::lm T s l (rp m o.dst (Gz o.dst)) mb
  | .box _ x=>([],Gz o.dst)::lm T s l (rp m o.dst (Gz o.dst)) (abH mb s (lh m s x) (Gz o.dst))
  | .buildSlice _ _ _=>([],Gz o.dst)::lm T s l (rp m o.dst (Gz o.dst)) mb
  | .slice _ x _ _ _=>(lh m s x,[])::lm T s l (rp m o.dst (lh m s x)) mb
  | .makeSlice _ _ _=>([],Gz o.dst)::lm T s l (rp m o.dst (Gz o.dst)) mb
  | .convert _ _ x=>(lh m s x,[])::lm T s l (rp m o.dst []) mb
  | .makeFunc _ a b=>([],[])::lm T s l (rp m o.dst (CO m s a.toList++CO m s b.toList)) mb
  | .call c=>(match c.callee with
   | .builtin .append=>(match c.args.toList with
    | x::y :: _=>(lh m s x++lh m s y,lh m s x++Gz o.dst)::lm T s l (rp m o.dst (lh m s x++Gz o.dst)) mb
    | _=>([],[])::lm T s l m mb)
   | .builtin .copy=>(match c.args.toList with
    | x::y :: _=>(lh m s x++lh m s y,lh m s x)::lm T s l (rp m o.dst []) mb
    | _=>([],[])::lm T s l m mb)
   | .value f=>(match acA T o f with
    | none=>(lh m s f++CO m s c.args.toList,[])::lm T s l (rp m o.dst []) mb
    | some js=>(CO m s c.args.toList,CO m s c.args.toList++(YE mb s (CO m s c.args.toList)++js))::lm T s l (rp m o.dst js) mb)
   | _=>(CO m s c.args.toList,[])::lm T s l (rp m o.dst []) mb)
  | _=>([],[])::lm T s l m mb
def MP (m:Nat) (ops:Array Oper) : Bool:=(List.range ops.size).all fun i=>decide (i < m)||(List.range i).all fun k=>zx ops 4 i k
inductive Mod where
 | leaf (i:Nat) (t:Ty)
 | agg (i n:Nat)
 | row (i R e k:Nat) (t:Ty)
 | box (b ty n:Nat) (rows:List (Nat×Nat×Nat×Nat×Ty))
def Mod.den:Mod→Type
 | .leaf _ t=>t.den
 | .agg _ n=>ST n
 | .row _ _ _ _ t=>List t.den
 | .box _ _ n _=>ST n
def kg:List Mod→Type
 | []=>Unit
 | [m]=>m.den
 | m::m' :: l=>m.den×kg (m' :: l)
def abs:Option aY→Bool
 | some (.rw ..)=>true
 | _=>false
def BO (s:SS) : (m:Mod)→Option m.den
 | .leaf i t=>match lkV s.sl i with
  | .d c=>c.as t
  | _=>none
 | .agg i n=>match lkV s.sl i with
  | .ag cs=>(match uD cs with | some cs=>stK n cs | none=>none)
  | _=>none
 | .row i R e k t=>match lkV s.sl i,lkB s.bx R with
  | .row R',some (.rw e' k' t' xs _)=>match Ty.same t' t with
   | some ⟨h⟩=>chk (Nat.beq R' R) (chk (e' == e) (chk (k' == k) (some (zG h xs))))
   | none=>none
  | _,_=>none
 | .box b ty n rows=>match lkB s.bx b with
  | some (.st ty' cs)=>chk (ty' == ty) (chk (rows.all fun r=>abs (lkB s.bx r.2.1)) (match cellsOf s rows 0 cs with | some ds=>stK n ds | none=>none))
  | _=>none
def uE (s:SS) : (l:List Mod)→Option (kg l)
 | []=>some ()
 | [m]=>BO s m
 | m::m' :: l=>Option.bind (BO s m) fun x=>Option.bind (uE s (m' :: l)) fun xs=>some (x,xs)
def sI:(m:Mod)→m.den→SS→Option SS
 | .leaf i t,x,s=>some ⟨(i,.d (ru t x))::s.sl,s.bx,s.pr,s.ro,s.oc⟩
 | .agg i n,x,s=>some ⟨(i,.ag (BI (stC n x)))::s.sl,s.bx,s.pr,s.ro,s.oc⟩
 | .row i R e k t,xs,s=>some ⟨(i,.row R)::s.sl,(R,some (.rw e k t xs []))::s.bx,s.pr,s.ro,s.oc⟩
 | .box b ty n rows,x,s=>match ga rows 0 (stC n x) s.bx with
  | some (vs,bx)=>some ⟨s.sl,(b,some (.st ty vs))::bx,s.pr,s.ro,s.oc⟩
  | none=>none
def jS:(l:List Mod)→kg l→SS→Option SS
 | [],_,s=>some s
 | [m],x,s=>sI m x s
 | m::m' :: l,x,s=>match jS (m' :: l) x.2 s with | some s=>sI m x.1 s | none=>none
def bC:List Mod→List Nat
 | []=>[]
 | .row _ R _ _ _ :: l=>R::bC l
 | .box b _ _ rows::l=>b::(rows.map (·.2.1)++bC l)
 | _ :: l=>bC l
def aaQ (R:Nat) : SV→Bool
 | .row R'=>Nat.beq R' R
 | _=>false
def qe (wr:List Nat) (s:SS) : List Mod→Bool
 | []=>true
 | .leaf i _ :: l=>(match aC wr i with | true=>qe wr s l | false=>false)
 | .agg i _ :: l=>(match aC wr i with | true=>qe wr s l | false=>false)
 | .row i R _ _ _ :: l=>(match aC s.pr R,aC wr i||aaQ R (lkV s.sl i) with | false,true=>qe wr s l | _,_=>false)
 | .box b _ _ rows::l=>(match aC s.pr b,rows.all fun r=>!(aC s.pr r.2.1) with | false,true=>qe wr s l | _,_=>false)
def wv (mb sc:List Nat) : List (Nat×Option aY)→List Nat→Bool
 | [],_=>true
 | (t,b)::l,seen=>match aC seen t with
  | true=>wv mb sc l seen
  | false=>match b with
   | some (.st _ cs)=>(match aC mb t||(aC sc t||cF cs) with | true=>wv mb sc l (t::seen) | false=>false)
   | _=>wv mb sc l (t::seen)
def JO:List Nat→List Nat→Bool
 | [],_=>true
 | a::l,m=>match aC m a with | true=>false | false=>JO l m
mutual
def tQ (sc wr:List Nat) (ms:List Mod) (pr:List Nat) (s:SS) : Bool:=qe wr s ms&&(JO sc pr&&(JO sc (bC ms)&&wv (bC ms) sc s.bx []))
def Ii (pr kb:List Nat) : SV→Bool
 | .row t=>aC pr t
 | .re _ _ _=>false
 | .vw _ _ _=>false
 | .ptr t _=>aC kb t
 | .ag cs=>lC pr kb cs
 | .tup cs=>lC pr kb cs
 | .fn _ ps qs=>match lC pr kb ps with | true=>lC pr kb qs | false=>false
 | _=>true
def lC (pr kb:List Nat) : List SV→Bool
 | []=>true
 | c::cs=>match Ii pr kb c with | true=>lC pr kb cs | false=>false
end
def tS (wr pr kb:List Nat) : List (Nat×SV)→List Nat→List (Nat×SV)
 | [],_=>[]
 | (i,v)::l,seen=>match aC seen i with
  | true=>tS wr pr kb l seen
  | false=>match aC wr i with
   | true=>tS wr pr kb l (i::seen)
   | false=>match Ii pr kb v with
    | true=>(i,v)::tS wr pr kb l (i::seen)
    | false=>tS wr pr kb l (i::seen)
def za:aY→Bool
 | .st _ cs=>cF cs
 | .rw ..=>true
def pw (mb:List Nat) : List (Nat×Option aY)→List Nat→List Nat
 | [],_=>[]
 | (t,b)::l,seen=>match aC seen t with
  | true=>pw mb l seen
  | false=>match b with
   | none=>pw mb l (t::seen)
   | some b=>match aC mb t,za b with
    | false,true=>t::pw mb l (t::seen)
    | _,_=>pw mb l (t::seen)
def KA:Option aY→Option aY
 | some (.rw e k t xs _)=>some (.rw e k t xs [])
 | b=>b
def tT (pr:List Nat) : List (Nat×Option aY)→List Nat→List (Nat×Option aY)
 | [],_=>[]
 | (t,b)::l,seen=>match aC seen t with
  | true=>tT pr l seen
  | false=>match aC pr t with
   | true=>(t,KA b)::tT pr l (t::seen)
   | false=>tT pr l (t::seen)
def xq:List SV→List SV
 | []=>[]
 | _ :: l=>.junk::xq l
def tJ (bx:List (Nat×Option aY)) : List Nat→List Nat
 | []=>[]
 | b::l=>match lkB bx b with
  | some (.st _ _)=>b::tJ bx l
  | _=>tJ bx l
def MY (bx:List (Nat×Option aY)) : List Nat→List (Nat×Option aY)→List (Nat×Option aY)
 | [],r=>r
 | b::l,r=>match lkB bx b with
  | some (.st ty cs)=>(b,some (.st ty (xq cs)))::MY bx l r
  | _=>MY bx l r
def cm (sc wr:List Nat) (ms:List Mod) (s:SS) : SS :=
 let pr:=pw (bC ms++sc) s.bx []
 ⟨tS wr pr (bC ms++(tJ s.bx sc++pr)) s.sl [],MY s.bx sc (tT pr s.bx []),pr,s.ro,[]⟩
def Bu (but:List Nat) : List SV→List Nat
 | []=>[]
 | .row t::l=>match aC but t with | true=>Bu but l | false=>t::Bu but l
 | _ :: l=>Bu but l
def Ji (s:SS) : List Mod→List Nat
 | []=>[]
 | .leaf i _ :: l=>Bu [] [lkV s.sl i] ++ Ji s l
 | .agg i _ :: l=>(match lkV s.sl i with | .ag cs=>Bu [] cs | _=>[])++Ji s l
 | .row .. :: l=>Ji s l
 | .box b _ _ rows::l=>(match lkB s.bx b with | some (.st _ cs)=>Bu (rows.map (·.2.1)) cs | _=>[])++Ji s l
def clr (s:SS) : SS:=⟨s.sl,s.bx,s.pr,s.ro,[]⟩
def vg (s:SS) : List (Nat×Nat×Nat×Nat×Ty)→List SV→List (Nat×Option aY)→Option (List SV×List (Nat×Option aY))
 | [],cs,bx=>some (cs,bx)
 | (j,R,e,k,t)::l,cs,bx=>match cs[j]? with
  | some (.d .nl)=>(match lkB bx R,decide (0 < k∧R < 1000000),aC s.pr R with
   | none,true,false=>vg s l (cs.set j (.row R)) ((R,some (.rw e k t [] []))::bx)
   | _,_,_=>none)
  | _=>vg s l cs bx
def Im (wr:List Nat) : List Mod→SS→Option SS
 | [],s=>some s
 | .row i R e k t::l,s=>match lkV s.sl i with
  | .d .nl=>(match Nat.beq i R,lkB s.bx i,decide (0 < k∧i < 1000000),aC wr i,aC s.pr i with
   | true,none,true,true,false=>Im wr l ⟨(i,.row i)::s.sl,(i,some (.rw e k t [] []))::s.bx,s.pr,s.ro,s.oc⟩
   | _,_,_,_,_=>none)
  | _=>Im wr l s
 | .box b _ _ [] :: l,s=>Im wr l s
 | .box b _ _ rows::l,s=>match lkB s.bx b with
  | some (.st ty cs)=>(match aC s.pr b,vg s rows cs s.bx with
   | false,some (cs,bx)=>Im wr l ⟨s.sl,(b,some (.st ty cs))::bx,s.pr,s.ro,s.oc⟩
   | _,_=>none)
  | _=>none
 | _ :: l,s=>Im wr l s
def QL (wr:List Nat) (ms:List Mod) (s:SS) : Option SS:=match Im wr ms s with
 | some s=>lO (Ji s ms) s
 | none=>none
def rz (ms:List Mod) (s:SS) : Option (kg ms):=match lO (Ji s ms) s with
 | some s=>uE s ms
 | none=>none
inductive uR where
 | n
 | s (a b:uR)
 | lp (ms:List Mod) (id:Nat) (ret:Bool) (b:uR)
 | j (ms:List Mod) (h:uR)
def uR.l:uR→uR
 | .s a _=>a
 | .j _ (.s a _)=>a
 | _=>.n
def uR.r:uR→uR
 | .s _ b=>b
 | .j _ (.s _ b)=>b
 | _=>.n
structure Cx where
 P:Program
 T:List (Nat×Ent)
 n:Nat
 rs:List PT
 vars:List ResultVar
 fz:List (Nat×List Nat)
 sc:List Nat
 fb:List (Nat×List Nat)
def lkF:List (Nat×List Nat)→Nat→List Nat
 | [],_=>[]
 | (j,v)::l,i=>match Nat.beq i j with | true=>v | false=>lkF l i
def wrC:Code→List Nat
 | .region _ ops _=>co ops.toList
 | .seq a b=>wrC a++wrC b
 | .cond (.tmp i) a b=>i::(wrC a++wrC b)
 | .cond _ a b=>wrC a++wrC b
 | .block _ c=>wrC c
 | .loop c=>wrC c
 | _=>[]
def M1 (P:Program) (s:SS) : List ResultVar→Option (List SV)
 | []=>some []
 | .tmp t::l=>match M1 P s l with | some vs=>some (lkV s.sl t::vs) | none=>none
 | .cell t ty::l=>match To P s ty (lkV s.sl t),M1 P s l with | some v,some vs=>some (v::vs) | _,_=>none
def ab4:List (Nat×Nat×Nat×Ty)→Nat→Bool
 | [],_=>false
 | (j,_)::l,i=>match Nat.beq i j with | true=>true | false=>ab4 l i
def Ec (rows:List (Nat×Nat×Nat×Ty)) : Nat→List SV→List Nat
 | _,[]=>[]
 | j,c::cs=>match ab4 rows j with | true=>Ec rows (j + 1) cs | false=>P2 c++Ec rows (j + 1) cs
def abf:PT→SV→List Nat
 | .own ..,_=>[]
 | .agr _ rows,.ag cs=>Ec rows 0 cs
 | .agr ..,_=>[]
 | _,v=>P2 v
def S5:List PT→List SV→List Nat
 | p::ps,v::vs=>abf p v++S5 ps vs
 | _,_=>[]
def uO (i:Nat) : Nat:=1000000 + 64 * i
def ab3 (s:SS) (i:Nat) : IB→List Nat
 | .bx _ _ rows=>(match lkB s.bx (uO i) with | some (.st _ cs)=>Ec rows 0 cs | _=>[])
 | _=>[]
def XW (s:SS) : Nat→List IB→List Nat
 | _,[]=>[]
 | i,b::l=>ab3 s i b++XW s (i + 1) l
def aas (s:SS) (i:Nat) : (b:IB)→Option (b.den×List Nat)
 | .no=>some ((),[])
 | .own e k t=>(match uf s e k t (.row (uO i)) with | some (xs,_)=>some (xs,[]) | none=>none)
 | .bx ty n rows=>(match lkB s.bx (uO i) with
  | some (.st ty' cs)=>chk (ty' == ty) (Oa s rows n cs)
  | _=>none)
def TT (s:SS) : Nat→(ls:List IB)→Option (ze ls×List (List Nat))
 | _,[]=>some ((),[])
 | i,b::ls=>match aas s i b,TT s (i + 1) ls with | some (o,js),some (os,kss)=>some ((o,os),js::kss) | _,_=>none
def Lr (s:SS) : (rs:List PT)→List SV→Option (aX rs×List (List Nat))
 | [],[]=>some ((),[])
 | [p],[v]=>(match QR s p v with | some (x,is)=>some (x,[is]) | none=>none)
 | p::q::l,v::vs=>(match QR s p v,Lr s (q::l) vs with | some (x,is),some (xs,iss)=>some ((x,xs),is::iss) | _,_=>none)
 | _,_=>none
def XT:(rs:List PT)→ze (cA rs)→aX (fc rs)→aX rs
 | [],_,_=>()
 | [.io _],o,_=>o
 | .io _ :: _ :: _,o,r=>(o,r)
 | .own .. :: _,_,r=>r
 | .mv .. :: _,_,r=>r
 | .bx .. :: _,_,r=>r
 | .agr .. :: _,_,r=>r
 | .lf _ :: _,_,r=>r
 | .ag _ :: _,_,r=>r
 | .pl _ :: _,_,r=>r
 | .ps _ :: _,_,r=>r
 | .fn .. :: _,_,r=>r
def dC:Nat→List IB→List Nat
 | _,[]=>[]
 | i,.no::l=>dC (i + 1) l
 | i,.own .. :: l=>uO i::dC (i + 1) l
 | i,.bx .. :: l=>uO i::dC (i + 1) l
def aaP (C:Cx) (s:SS) : Option (aX C.rs):=match M1 C.P s C.vars with
 | some vs=>(match lO (XW s 0 (cA C.rs)++S5 (fc C.rs) vs) s with
  | some s1=>(match M1 C.P s1 C.vars with
   | some ws=>(match TT s1 0 (cA C.rs),Lr s1 (fc C.rs) ws with
    | some (o,kss),some (r,jss)=>chk (tP (dC 0 (cA C.rs)++(br kss++br jss))) (some (XT C.rs o r))
    | _,_=>none)
   | none=>none)
  | none=>none)
 | none=>none
def CR (C:Cx) (s:SS) : Option (aX C.rs):=match pD C.rs with
 | true=>aaP C (clr s)
 | false=>(match M1 C.P (clr s) C.vars with
  | some vs=>JS (clr s) C.rs vs
  | none=>none)
def WZ:List Oper→Bool
 | []=>true
 | o::l=>match o.op,o.dst with | .store ..,some _=>false | _,_=>WZ l
def X1:List Oper→Bool
 | []=>false
 | o::l=>match o.op with | .buildSlice ..=>true | _=>X1 l
def Tv:List Oper→Bool
 | []=>false
 | o::l=>match vC o with | some _=>true | none=>Tv l
def WX (ops:Array Oper) : Nat→Nat
 | 0=>0
 | n + 1=>match (List.range n).all fun k=>zx ops 4 n k with | true=>WX ops n | false=>n + 1
def jc (ops:Array Oper) : Nat:=match X1 ops.toList,Tv ops.toList with
 | true,true=>WX ops ops.toList.length
 | _,_=>ops.toList.length
def Xc (C:Cx) (id:Nat) (ops:Array Oper) (draw:Bool) (s:SS) {ρ : Type} (k:SS→Option ρ) : Option ρ :=
 match lO (lkF C.fz id) s with
 | none=>none
 | some s0=>let s:SS:=⟨s0.sl,s0.bx,s0.pr,s0.ro,[]⟩; match draw with
  | false=>chk (WZ ops.toList&&JN C.n ops.toList) (u5 true C.P C.T ops [] 1000 0 [] ops.toList s k)
  | true=>chk (WZ ops.toList) (chk (GA (zk (lm C.T s ops.toList [] [])) C.n ops) (match Nat.beq (jc ops) ops.toList.length with
   | true=>u5 false C.P C.T ops (lm C.T s ops.toList [] []) 1000 0 [] ops.toList s k
   | false=>chk (MP (jc ops) ops&&decide (jc ops≤ops.toList.length)) (u5 false C.P C.T ops (lm C.T s ops.toList [] []) 1000 0 [] (ops.toList.take (jc ops)) s fun s=>u5 true C.P C.T ops [] 1000 0 [] (ops.toList.drop (jc ops)) s k)))
def ZJ (C:Cx) (id:Nat) (ops:Array Oper) (draw:Bool) (s:SS) {ρ : Type} (k:SS→Option ρ) : Option ρ:=match lkF C.fb id with
 | []=>Xc C id ops draw s k
 | t::l=>chk (TJ s (t::l)) (Xc C id ops draw s fun s=>match JE C.sc (t::l) s with | some s=>k s | none=>none)
def IZ (C:Cx) (wr:List Nat) (h:uR) (body:(ρ : Type)→SS→(Exit→SS→Option ρ)→(aX C.rs→Option ρ)→Option ρ) (ρ : Type) (s:SS) (k:Exit→SS→Option ρ) (kr:aX C.rs→Option ρ) : Option ρ :=
 match h with
 | .j ms _=>match Im wr ms (clr s) with
  | none=>none
  | some s1=>chk (tQ C.sc wr ms s.pr s1) (Option.bind (body (kg ms) ⟨s1.sl,s1.bx,(cm C.sc wr ms s1).pr,s1.ro,s1.oc⟩ (fun e s'=>match e with | .normal=>rz ms s' | _=>none) (fun _=>none)) fun st =>
   match jS ms st (cm C.sc wr ms s1) with
   | some s2=>k .normal ⟨s2.sl,s2.bx,s.pr,s.ro,s.oc⟩
   | none=>none)
 | _=>body ρ s k kr
def ym (C:Cx) : Code→uR→(ρ : Type)→SS→(Exit→SS→Option ρ)→(aX C.rs→Option ρ)→Option ρ
 | .skip,_,_,s,k,_=>k .normal s
 | .label _,_,_,s,k,_=>k .normal s
 | .exit id,_,_,s,k,_=>k (.exit id) s
 | .ret,_,_,s,_,kr=>Option.bind (CR C s) kr
 | .region id ops draw,h,ρ,s,k,kr=>IZ C (co ops.toList) h (fun _ s k _=>ZJ C id ops draw s fun s=>k .normal s) ρ s k kr
 | .seq a b,h,ρ,s,k,kr=>IZ C (wrC a++wrC b) h (fun ρ s k kr=>ym C a h.l ρ s (fun e s'=>match e with | .normal=>ym C b h.r ρ s' k kr | e=>k e s') kr) ρ s k kr
 | .cond c a b,h,ρ,s,k,kr=>IZ C (wrC (.cond c a b)) h (fun ρ s k kr=>match evX s c with
   | .d (.bool t)=>if t=true then ym C a h.l ρ (xp s c true) k kr else ym C b h.r ρ (xp s c false) k kr
   | _=>none) ρ s k kr
 | .block id c,h,ρ,s,k,kr=>IZ C (wrC c) h (fun ρ s k kr=>ym C c h.l ρ s (fun e s'=>match e with | .exit id'=>(match Nat.beq id' id with | true=>k .normal s' | false=>k (.exit id') s') | e=>k e s') kr) ρ s k kr
 | .loop c,.lp ms id ret hb,_,s,k,kr=>match QL (wrC c) ms (clr s) with
  | none=>none
  | some s0=>chk (tQ C.sc (wrC c) ms s.pr s0) (match uE s0 ms with
   | none=>none
   | some st0=>match ret with
    | false=>Option.bind (ai (fun st=>match jS ms st (cm C.sc (wrC c) ms s0) with
      | none=>none
      | some sh=>ym C c hb (kg ms⊕kg ms) sh (fun e s'=>match e with
       | .normal=>Option.bind (rz ms s') fun st'=>some (.inl st')
       | .exit id'=>(match Nat.beq id' id with | true=>Option.bind (rz ms s') fun st'=>some (.inr st') | false=>none)
       | _=>none) (fun _=>none)) ab st0) fun st=>match jS ms st (cm C.sc (wrC c) ms s0) with
      | some s2=>k (.exit id) ⟨s2.sl,s2.bx,s.pr,s.ro,s.oc⟩
      | none=>none
    | true=>Option.bind (ai (fun st=>match jS ms st (cm C.sc (wrC c) ms s0) with
      | none=>none
      | some sh=>ym C c hb (kg ms⊕(kg ms⊕aX C.rs)) sh (fun e s'=>match e with
       | .normal=>Option.bind (rz ms s') fun st'=>some (.inl st')
       | .exit id'=>(match Nat.beq id' id with | true=>Option.bind (rz ms s') fun st'=>some (.inr (.inl st')) | false=>none)
       | _=>none) (fun r=>some (.inr (.inr r)))) ab st0) fun o=>match o with
      | .inr r=>kr r
      | .inl st=>match jS ms st (cm C.sc (wrC c) ms s0) with
       | some s2=>k (.exit id) ⟨s2.sl,s2.bx,s.pr,s.ro,s.oc⟩
       | none=>none)
 | _,_,_,_,_,_=>none
def Ca:Nat→List SV→List (Nat×SV)
 | _,[]=>[]
 | i,v::vs=>(i,v)::Ca (i + 1) vs
def fj (C:Cx) (c:Code) (h:uR) (ps:List PT) (x:cg ps) : Option (aX C.rs) :=
 ym C c h (aX C.rs) ⟨Ca 0 (C2 ps x),[],[],false,[]⟩ (fun e s=>match e with | .normal=>CR C s | _=>none) (fun r=>some r)
def mU (i:Nat) : PT→List Nat
 | .own ..=>[uO i]
 | .mv ..=>[900000 + 64 * i]
 | .bx _ _ rows=>uO i::List.range' (900000 + 64 * i) rows.length
 | .agr _ rows=>List.range' (900000 + 64 * i) rows.length
 | _=>[]
def bk:Nat→List PT→List (List Nat)
 | _,[]=>[]
 | i,p::ps=>mU i p::bk (i + 1) ps
def abU:PT→IB→Bool
 | .own ..,.own ..=>true
 | .bx ..,.bx ..=>true
 | .own ..,_=>false
 | .bx ..,_=>false
 | .agr ..,_=>false
 | .io _,_=>false
 | _,.no=>true
 | _,_=>false
def Qg:List PT→List IB→Bool
 | [],[]=>true
 | p::ps,b::ls=>match abU p b with | true=>Qg ps ls | false=>false
 | _,_=>false
def Jb (C:Cx) (c:Code) (h:uR) (ps:List PT) (x:cg ps) : Option (aX C.rs):=match NZ ps (bk 0 ps) x with
 | some (vs,bx)=>chk (tP (idU bx)) (ym C c h (aX C.rs) ⟨Ca 0 vs,bx,[],false,[]⟩ (fun e s=>match e with | .normal=>CR C s | _=>none) (fun r=>some r))
 | none=>none
end
section
theorem aq {ρ : Type} {b:Bool} {k:Option ρ} {r : ρ} (h:chk b k=some r) : b=true∧k=some r:=by
 cases b
 ·cases h
 ·exact ⟨rfl,h⟩
theorem cZ (j:Nat) (v:SV) (l:List (Nat×SV)) (i:Nat) : lkV ((j,v)::l) i=if i=j then v else lkV l i:=by
 simp only [lkV]
 by_cases h:i=j
 ·subst h; simp
 ·have:Nat.beq i j=false:=by rw [← Bool.not_eq_true,Nat.beq_eq]; exact h
  rw [this,if_neg h]
theorem au (j:Nat) (v:Option aY) (l:List (Nat×Option aY)) (i:Nat) : lkB ((j,v)::l) i=if i=j then v else lkB l i:=by
 simp only [lkB]
 by_cases h:i=j
 ·subst h; simp
 ·have:Nat.beq i j=false:=by rw [← Bool.not_eq_true,Nat.beq_eq]; exact h
  rw [this,if_neg h]
theorem sK (j:Nat) (v:Pin) (l:List (Nat×Pin)) (i:Nat) : lkP ((j,v)::l) i=if i=j then some v else lkP l i:=by
 simp only [lkP]
 by_cases h:i=j
 ·subst h; simp
 ·have:Nat.beq i j=false:=by rw [← Bool.not_eq_true,Nat.beq_eq]; exact h
  rw [this,if_neg h]
theorem db (a b:Nat) : Nat.beq a b=decide (a=b):=by
 by_cases h:a=b
 ·subst h; simp
 ·have:Nat.beq a b=false:=by rw [← Bool.not_eq_true,Nat.beq_eq]; exact h
  simp [this,h]
theorem wt (l:List (Nat×SV)) (dst:Option Nat) (v:SV) (i:Nat) : lkV (tD l dst v) i=if dst=some i then v else lkV l i:=by
 cases dst with
 | none=>simp [tD]
 | some d =>
  simp only [tD,cZ,Option.some.injEq]
  by_cases h:i=d
  ·subst h; simp
  ·rw [if_neg h,if_neg (Ne.symm h)]
theorem K3:∀ cs:List SD,BI cs=cs.map .d
 | []=>rfl
 | c::cs=>by simp [BI,K3 cs]
theorem lQ:∀ (t:Ty) (x:t.den),(bK t x).length=tyN t
 | .int _,_=>rfl
 | .bool,_=>rfl
 | .str,_=>rfl
 | .sl _,_=>rfl
 | .st i,x=>Zz i x
theorem Em:∀ (t:Ty) (x:t.den),(BT t x).map SD.toD=bK t x
 | .int _,_=>rfl
 | .bool,_=>rfl
 | .str,_=>rfl
 | .sl _,_=>rfl
 | .st i,x=>uX i x
theorem TM:∀ (t:Ty) (x:t.den),∀ c∈BT t x,c≠.nl
 | .int _,_,c,h=>by simp [BT] at h; subst h; exact fun e=>by cases e
 | .bool,_,c,h=>by simp [BT] at h; subst h; exact fun e=>by cases e
 | .str,_,c,h=>by simp [BT] at h; subst h; exact fun e=>by cases e
 | .sl _,_,c,h=>by simp [BT] at h; subst h; exact fun e=>by cases e
 | .st i,x,c,h=>xN i x c h
theorem dR {α : Type} {x : α} {Q:Prop} (h:(none:Option α)=some x) : Q:=by cases h
theorem Lq:∀ {t:Ty} {cs:List SD} {x:t.den},aan t cs=some x→cs.map SD.toD=bK t x
 | .st i,cs,x,h=>Bq h
 | .int k,[],x,h=>dR (x:=x) h
 | .int k,[c],x,h=>(SD.as_ok (t:=(.int k)) h).symm
 | .int k,_ :: _ :: _,x,h=>dR (x:=x) h
 | .bool,[],x,h=>dR (x:=x) h
 | .bool,[c],x,h=>(SD.as_ok (t:=.bool) h).symm
 | .bool,_ :: _ :: _,x,h=>dR (x:=x) h
 | .str,[],x,h=>dR (x:=x) h
 | .str,[c],x,h=>(SD.as_ok (t:=.str) h).symm
 | .str,_ :: _ :: _,x,h=>dR (x:=x) h
 | .sl t,[],x,h=>dR (x:=x) h
 | .sl t,[c],x,h=>(SD.as_ok (t:=(.sl t)) h).symm
 | .sl t,_ :: _ :: _,x,h=>dR (x:=x) h
def Mz:SD→D→Prop
 | .nl,y=>y = .v (.slice none 0 0)
 | c,y=>nrm y=c.toD
theorem Mz.nrm {c:SD} {y:D} (h:Mz c y) : nrm y=c.toD:=by
 cases c <;> first | exact h | (cases h; rfl)
theorem Mz.of {c:SD} (hc:c≠.nl) : Mz c c.toD:=by
 cases c <;> first | rfl | exact absurd rfl hc
theorem Xw {y:D} {x:Value} (h:nrm y = .v x) : y = .v x:=by
 unfold Go.Proofs.YtmjkjaahbgikjaaGreat.nrm at h
 split at h
 ·cases h
 ·exact h
theorem abm {y:D} {es:List (List D)} (h:nrm y = .sl es) : y = .sl es∨(es = []∧y = .v (.slice none 0 0)):=by
 unfold Go.Proofs.YtmjkjaahbgikjaaGreat.nrm at h
 split at h
 ·injection h with h; exact .inr ⟨h.symm,rfl⟩
 ·exact .inl h
inductive bf (B:List (Nat×Option aY)) : SV→PV→Prop
 | junk (q:PV) : bf B .junk q
 | d (c:SD) (y:D) (h:Mz c y) : bf B (.d c) (.d y)
 | ag (cs:List SV) (qs:List PV) (hl:cs.length=qs.length) (hr:∀ (j:Nat) c q,cs[j]? = some c→qs[j]? = some q→bf B c q) : bf B (.ag cs) (.ag qs)
 | tup (cs:List SV) (qs:List PV) (hl:cs.length=qs.length) (hr:∀ (j:Nat) c q,cs[j]? = some c→qs[j]? = some q→bf B c q) : bf B (.tup cs) (.tup qs)
 | ptr (t o:Nat) (ty:TypeId) (cs:List SV) (hb:lkB B t=some (.st ty cs)) : bf B (.ptr t o) (.ptr t o)
 | row (t n e k:Nat) (ty:Ty) (xs:List ty.den) (pins:List (Nat×Pin)) (hb:lkB B t=some (.rw e k ty xs pins)) (hn:xs.length=n) : bf B (.row t) (.row t n)
 | re (t p o n i e k:Nat) (ty:Ty) (xs:List ty.den) (pins:List (Nat×Pin)) (pin:Pin) (hb:lkB B t=some (.rw e k ty xs pins)) (hn:xs.length=n) (hp:lkP pins p=some pin) (hi:i=pin.i.toNat) : bf B (.re t p o) (.re t n i o)
 | vw (t lo hi n e k:Nat) (ty:Ty) (xs:List ty.den) (pins:List (Nat×Pin)) (hb:lkB B t=some (.rw e k ty xs pins)) (hn:xs.length=n) : bf B (.vw t lo hi) (.vw t n lo hi)
 | fe (cs:List SD) (ds:List D) (h:ds=cs.map SD.toD) (hn:∀ c∈cs,c≠.nl) : bf B (.fe cs) (.fe ds)
 | fn (f:FuncId) (ps qs:List SV) (ps' qs':List PV) (hl:ps.length=ps'.length) (hr:∀ (j:Nat) c q,ps[j]? = some c→ps'[j]? = some q→bf B c q) (hl2:qs.length=qs'.length) (hr2:∀ (j:Nat) c q,qs[j]? = some c→qs'[j]? = some q→bf B c q) : bf B (.fn f ps qs) (.fn f ps' qs')
structure ch (B:List (Nat×Option aY)) (cs:List SV) (qs:List PV) : Prop where
 len:cs.length=qs.length
 rep:∀ (j:Nat) c q,cs[j]? = some c→qs[j]? = some q→bf B c q
def abI (ty:Ty) (xs:List ty.den) (pins:List (Nat×Pin)) : Prop:=∀ p pin,lkP pins p=some pin→pin.i.toNat < xs.length∧∀ cs,pin.cs=some cs→∃ x,xs[pin.i.toNat]? = some x∧cs=BT ty x
def mH (B:List (Nat×Option aY)) (oc:Bool) : Option aY→Option Box→Prop
 | none,q=>oc=false→q=none
 | some (.st ty cs),q=>∃ qs,q=some (.st ty qs)∧ch B cs qs
 | some (.rw e k ty xs pins),q=>q=some (.rw e k (xs.map (bK ty)))∧abI ty xs pins
structure Sim (s:SS) (p:PS) : Prop where
 sl:∀ i,bf s.bx (lkV s.sl i) (p.t i)
 bx:∀ t,mH s.bx (aC s.oc t) (lkB s.bx t) (p.b t)
structure BLe (B B':List (Nat×Option aY)) : Prop where
 rw:∀ t e k ty xs pins,lkB B t=some (.rw e k ty xs pins)→∃ e' k' ty' xs' pins',lkB B' t=some (.rw e' k' ty' xs' pins')∧xs'.length=xs.length∧∀ p pin,lkP pins p=some pin→∃ pin',lkP pins' p=some pin'∧pin'.i=pin.i
 st:∀ t ty cs,lkB B t=some (.st ty cs)→∃ ty' cs',lkB B' t=some (.st ty' cs')
theorem BLe.refl (B:List (Nat×Option aY)) : BLe B B:=⟨fun _ e k ty xs pins h=>⟨e,k,ty,xs,pins,h,rfl,fun _ pin hp=>⟨pin,hp,rfl⟩⟩,fun _ ty cs h=>⟨ty,cs,h⟩⟩
theorem bf.mono {B B':List (Nat×Option aY)} {v:SV} {q:PV} (h:bf B v q) (hB:BLe B B') : bf B' v q:=by
 induction h with
 | junk q=>exact .junk q
 | d c y h=>exact .d c y h
 | ag cs qs hl hr ih=>exact .ag cs qs hl ih
 | tup cs qs hl hr ih=>exact .tup cs qs hl ih
 | ptr t o ty cs hb=>obtain ⟨ty',cs',h1⟩:=hB.st t ty cs hb; exact .ptr t o ty' cs' h1
 | row t n e k ty xs pins hb hn =>
  obtain ⟨e',k',ty',xs',pins',h1,h2,h3⟩:=hB.rw t e k ty xs pins hb
  exact .row t n e' k' ty' xs' pins' h1 (h2.trans hn)
 | re t p o n i e k ty xs pins pin hb hn hp hi =>
  obtain ⟨e',k',ty',xs',pins',h1,h2,h3⟩:=hB.rw t e k ty xs pins hb
  obtain ⟨pin',h4,h5⟩:=h3 p pin hp
  exact .re t p o n i e' k' ty' xs' pins' pin' h1 (h2.trans hn) h4 (by rw [h5]; exact hi)
 | vw t lo hi n e k ty xs pins hb hn =>
  obtain ⟨e',k',ty',xs',pins',h1,h2,h3⟩:=hB.rw t e k ty xs pins hb
  exact .vw t lo hi n e' k' ty' xs' pins' h1 (h2.trans hn)
 | fe cs ds h hn=>exact .fe cs ds h hn
 | fn f ps qs ps' qs' hl hr hl2 hr2 ih ih2=>exact .fn f ps qs ps' qs' hl ih hl2 ih2
theorem ch.mono {B B':List (Nat×Option aY)} {cs:List SV} {qs:List PV} (h:ch B cs qs) (hB:BLe B B') : ch B' cs qs:=⟨h.len,fun j c q h1 h2=>(h.rep j c q h1 h2).mono hB⟩
theorem mH.mono {B B':List (Nat×Option aY)} {oc:Bool} {b:Option aY} {q:Option Box} (h:mH B oc b q) (hB:BLe B B') : mH B' oc b q:=by
 cases b with
 | none=>exact h
 | some b=>cases b with
  | st ty cs=>obtain ⟨qs,h1,h2⟩:=h; exact ⟨qs,h1,h2.mono hB⟩
  | rw e k ty xs pins=>exact h
variable {B:List (Nat×Option aY)}
theorem ch.nil:ch B [] []:=⟨rfl,fun j c q h=>by simp at h⟩
theorem ch.cons {c:SV} {q:PV} {cs:List SV} {qs:List PV} (h:bf B c q) (hs:ch B cs qs) : ch B (c::cs) (q::qs) :=
 ⟨by simp [hs.len],fun j c' q' h1 h2=>by
  cases j with
  | zero=>simp at h1 h2; subst h1 h2; exact h
  | succ j=>simp at h1 h2; exact hs.rep j _ _ h1 h2⟩
theorem ch.head {c:SV} {q:PV} {cs:List SV} {qs:List PV} (h:ch B (c::cs) (q::qs)) : bf B c q:=h.rep 0 c q rfl rfl
theorem ch.tail {c:SV} {q:PV} {cs:List SV} {qs:List PV} (h:ch B (c::cs) (q::qs)) : ch B cs qs :=
 ⟨by have:=h.len; simpa using this,fun j c' q' h1 h2=>h.rep (j + 1) c' q' (by simpa using h1) (by simpa using h2)⟩
theorem ch.cases {cs:List SV} {qs:List PV} (h:ch B cs qs) : (cs = []∧qs = [])∨∃ c q cs' qs',cs=c::cs'∧qs=q::qs'∧bf B c q∧ch B cs' qs':=by
 cases cs with
 | nil=>cases qs with
  | nil=>exact .inl ⟨rfl,rfl⟩
  | cons q qs=>have:=h.len; simp at this
 | cons c cs=>cases qs with
  | nil=>have:=h.len; simp at this
  | cons q qs=>exact .inr ⟨c,q,cs,qs,rfl,rfl,h.head,h.tail⟩
theorem ch.take {cs:List SV} {qs:List PV} (h:ch B cs qs) (n:Nat) : ch B (cs.take n) (qs.take n) :=
 ⟨by simp [h.len],fun j c q h1 h2=>by
  rw [List.getElem?_take] at h1 h2
  split at h1
  ·rename_i hj; rw [if_pos hj] at h2; exact h.rep j c q h1 h2
  ·cases h1⟩
theorem ch.drop {cs:List SV} {qs:List PV} (h:ch B cs qs) (n:Nat) : ch B (cs.drop n) (qs.drop n) :=
 ⟨by simp [h.len],fun j c q h1 h2=>by
  rw [List.getElem?_drop] at h1 h2
  exact h.rep _ c q h1 h2⟩
theorem ch.append {cs ds:List SV} {qs ws:List PV} (h:ch B cs qs) (h':ch B ds ws) : ch B (cs++ds) (qs++ws) :=
 ⟨by simp [h.len,h'.len],fun j c q h1 h2=>by
  rw [List.getElem?_append] at h1 h2
  rw [h.len] at h1
  split at h1
  ·rename_i hj; rw [if_pos hj] at h2; exact h.rep j c q h1 h2
  ·rename_i hj; rw [if_neg hj] at h2; exact h'.rep _ c q h1 h2⟩
theorem mY {α : Type} : ∀ (cs:List α) (o:Nat) (ns:List α),o + ns.length≤cs.length→nQ cs o ns=splice cs o ns
 | [],0,[],_=>rfl
 | [],0,n::ns,h=>by simp at h
 | [],o + 1,ns,h=>by simp at h
 | c::cs,0,[],_=>by simp [nQ,splice]
 | c::cs,0,n::ns,h=>by
  simp only [nQ]
  rw [mY cs 0 ns (by simp at h ⊢; omega)]
  simp [splice]
 | c::cs,o + 1,ns,h=>by
  simp only [nQ]
  rw [mY cs o ns (by simp at h ⊢; omega)]
  unfold splice
  rw [show o + 1 + ns.length=(o + ns.length) + 1 by omega]
  simp
theorem ch.splice {cs ns:List SV} {qs ws:List PV} (h:ch B cs qs) (h':ch B ns ws) (o:Nat) : ch B (Go.Proofs.YtmjkjaahbgikjaaGreat.splice cs o ns) (Go.Proofs.YtmjkjaahbgikjaaGreat.splice qs o ws):=by
 unfold Go.Proofs.YtmjkjaahbgikjaaGreat.splice
 rw [h'.len]
 exact ((h.take o).append h').append (h.drop _)
end
section
variable {B:List (Nat×Option aY)} {s:SS} {p:PS}
theorem lB (hs:Sim s p) {dst:Option Nat} {v:SV} {q:PV} (hv:bf s.bx v q) : Sim (s.upd dst v .no) (p.upd dst q none):=by
 refine ⟨fun i=>?_,fun t=>hs.bx t⟩
 show bf s.bx (lkV (tD s.sl dst v) i) (xM p.t dst q i)
 rw [wt]
 unfold xM
 split
 ·exact hv
 ·exact hs.sl i
theorem Br {sl:List (Nat×SV)} {pr oc:List Nat} {ro:Bool} {dst:Option Nat} {v:SV} {q:PV} {B':List (Nat×Option aY)} {u:Option (Nat×Box)} (h1:∀ i,dst≠some i→bf B' (lkV sl i) (p.t i)) (h2:∀ t,mH B' (aC oc t) (lkB B' t) (cR p.b u t)) (hv:bf B' v q) :
  Sim ⟨tD sl dst v,B',pr,ro,oc⟩ (p.upd dst q u):=by
 refine ⟨fun i=>?_,h2⟩
 show bf B' (lkV (tD sl dst v) i) (xM p.t dst q i)
 rw [wt]
 unfold xM
 split
 ·exact hv
 ·rename_i h; exact h1 i h
theorem pu (hs:Sim s p) {pr:List Nat} {ro:Bool} {dst:Option Nat} {v:SV} {q:PV} {t:Nat} {b:aY} {b':Box} (hB:BLe s.bx ((t,some b)::s.bx)) (hb:∀ oc,mH ((t,some b)::s.bx) oc (some b) (some b')) (hv:bf ((t,some b)::s.bx) v q) :
  Sim ⟨tD s.sl dst v,(t,some b)::s.bx,pr,ro,s.oc⟩ (p.upd dst q (some (t,b'))):=by
 refine Br (fun i _=>(hs.sl i).mono hB) (fun t'=>?_) hv
 rw [au]
 simp only [cR]
 split
 ·exact hb _
 ·exact (hs.bx t').mono hB
theorem ZB (hs:Sim s p) {pr:List Nat} {ro:Bool} {dst:Option Nat} {v:SV} {q:PV} {t:Nat} {b:aY} (hB:BLe s.bx ((t,some b)::s.bx)) (hb:∀ oc,mH ((t,some b)::s.bx) oc (some b) (p.b t)) (hv:bf ((t,some b)::s.bx) v q) :
  Sim ⟨tD s.sl dst v,(t,some b)::s.bx,pr,ro,s.oc⟩ (p.upd dst q none):=by
 refine Br (fun i _=>(hs.sl i).mono hB) (fun t'=>?_) hv
 rw [au]
 simp only [cR]
 split
 ·rename_i h; subst h; exact hb _
 ·exact (hs.bx t').mono hB
theorem rJ {b:aY} {t:Nat} (h:lkB B t=none) : BLe B ((t,some b)::B):=by
 refine ⟨fun t' e k ty xs pins h1=>?_,fun t' ty cs h1=>?_⟩
 ·have : ¬ t' = t:=fun e=>by rw [e,h] at h1; cases h1
  exact ⟨e,k,ty,xs,pins,by rw [au,if_neg this]; exact h1,rfl,fun _ pin hp=>⟨pin,hp,rfl⟩⟩
 ·have : ¬ t' = t:=fun e=>by rw [e,h] at h1; cases h1
  exact ⟨ty,cs,by rw [au,if_neg this]; exact h1⟩
theorem QX {ty ty':TypeId} {cs cs':List SV} {t:Nat} (h:lkB B t=some (.st ty cs)) : BLe B ((t,some (.st ty' cs'))::B):=by
 refine ⟨fun t' e k ty xs pins h1=>?_,fun t' ty2 cs2 h1=>?_⟩
 ·have : ¬ t' = t:=fun e=>by rw [e,h] at h1; cases h1
  exact ⟨e,k,ty,xs,pins,by rw [au,if_neg this]; exact h1,rfl,fun _ pin hp=>⟨pin,hp,rfl⟩⟩
 ·rw [au]
  split
  ·exact ⟨_,_,rfl⟩
  ·exact ⟨_,_,h1⟩
theorem QY {e k:Nat} {ty:Ty} {xs xs':List ty.den} {pins pins':List (Nat×Pin)} {t:Nat} (h:lkB B t=some (.rw e k ty xs pins)) (hl:xs'.length=xs.length) (hp:∀ p pin,lkP pins p=some pin→∃ pin',lkP pins' p=some pin'∧pin'.i=pin.i) : BLe B ((t,some (.rw e k ty xs' pins'))::B):=by
 refine ⟨fun t' e2 k2 ty2 xs2 pins2 h1=>?_,fun t' ty2 cs2 h1=>?_⟩
 ·rw [au]
  split
  ·rename_i ht
   subst ht
   rw [h] at h1
   injection h1 with h1
   injection h1 with e1 e2 e3 e4 e5
   subst e3
   have e4:=eq_of_heq e4
   subst e4 e5
   exact ⟨e,k,ty,xs',pins',rfl,hl,hp⟩
  ·exact ⟨e2,k2,ty2,xs2,pins2,h1,rfl,fun _ pin hp=>⟨pin,hp,rfl⟩⟩
 ·have : ¬ t' = t:=fun e=>by rw [e,h] at h1; cases h1
  exact ⟨_,_,by rw [au,if_neg this]; exact h1⟩
def MS (t:Nat) : aY→aY
 | .st ty cs=>.st ty (iR t cs)
 | b=>b
theorem jA (t:Nat) : ∀ (l:List (Nat×Option aY)) (i:Nat),lkB (oK t l) i=(lkB l i).map (MS t)
 | [],_=>rfl
 | (j,none)::l,i=>by simp only [oK,au,jA t l i]; split <;> rfl
 | (j,some (.st ty cs))::l,i=>by simp only [oK,au,jA t l i]; split <;> rfl
 | (j,some (.rw e k ty xs pins))::l,i=>by simp only [oK,au,jA t l i]; split <;> rfl
theorem BJ (t:Nat) : ∀ (l:List (Nat×SV)) (i:Nat),lkV (ES t l) i=stale t (lkV l i)
 | [],_=>rfl
 | (j,v)::l,i=>by simp only [ES,cZ,BJ t l i]; split <;> rfl
theorem mW (t:Nat) : ∀ (cs:List SV) (j:Nat),(iR t cs)[j]? = (cs[j]?).map (stale t)
 | [],j=>by simp [iR]
 | c::cs,0=>by simp [iR]
 | c::cs,j + 1=>by simpa [iR] using mW t cs j
theorem kI (t:Nat) : ∀ cs:List SV,(iR t cs).length=cs.length
 | []=>rfl
 | c::cs=>by simp [iR,kI t cs]
structure WL (t:Nat) (B B':List (Nat×Option aY)) : Prop where
 rw:∀ t',t'≠t→∀ e k ty xs pins,lkB B t' = some (.rw e k ty xs pins)→lkB B' t' = some (.rw e k ty xs pins)
 st:∀ t' ty cs,lkB B t' = some (.st ty cs)→∃ ty' cs',lkB B' t' = some (.st ty' cs')
theorem bf.stale {B':List (Nat×Option aY)} {t:Nat} {v:SV} {q:PV} (h:bf B v q) (hB:WL t B B') : bf B' (stale t v) q:=by
 induction h with
 | junk q=>exact .junk q
 | d c y h=>exact .d c y h
 | ag cs qs hl hr ih =>
  refine .ag _ qs (by rw [kI]; exact hl) (fun j c q h1 h2=>?_)
  rw [mW,zm] at h1
  obtain ⟨c',h3,rfl⟩:=h1
  exact ih j c' q h3 h2
 | tup cs qs hl hr ih =>
  refine .tup _ qs (by rw [kI]; exact hl) (fun j c q h1 h2=>?_)
  rw [mW,zm] at h1
  obtain ⟨c',h3,rfl⟩:=h1
  exact ih j c' q h3 h2
 | ptr t' o ty cs hb=>obtain ⟨ty',cs',h1⟩:=hB.st t' ty cs hb; exact .ptr t' o ty' cs' h1
 | row t' n e k ty xs pins hb hn =>
  simp only [Go.Proofs.YtmjkjaahbgikjaaGreat.stale,db]
  by_cases h:t' = t
  ·simp only [h,decide_true]; exact .junk _
  ·simp only [h,decide_false]; exact .row t' n e k ty xs pins (hB.rw t' h _ _ _ _ _ hb) hn
 | re t' p o n i e k ty xs pins pin hb hn hp hi =>
  simp only [Go.Proofs.YtmjkjaahbgikjaaGreat.stale,db]
  by_cases h:t' = t
  ·simp only [h,decide_true]; exact .junk _
  ·simp only [h,decide_false]; exact .re t' p o n i e k ty xs pins pin (hB.rw t' h _ _ _ _ _ hb) hn hp hi
 | vw t' lo hi n e k ty xs pins hb hn =>
  simp only [Go.Proofs.YtmjkjaahbgikjaaGreat.stale,db]
  by_cases h:t' = t
  ·simp only [h,decide_true]; exact .junk _
  ·simp only [h,decide_false]; exact .vw t' lo hi n e k ty xs pins (hB.rw t' h _ _ _ _ _ hb) hn
 | fe cs ds h hn=>exact .fe cs ds h hn
 | fn f ps qs ps' qs' hl hr hl2 hr2 ih ih2 =>
  refine .fn f _ _ ps' qs' (by rw [kI]; exact hl) (fun j c q h1 h2=>?_) (by rw [kI]; exact hl2) (fun j c q h1 h2=>?_)
  ·rw [mW,zm] at h1
   obtain ⟨c',h3,rfl⟩:=h1
   exact ih j c' q h3 h2
  ·rw [mW,zm] at h1
   obtain ⟨c',h3,rfl⟩:=h1
   exact ih2 j c' q h3 h2
theorem ch.stale {B':List (Nat×Option aY)} {t:Nat} {cs:List SV} {qs:List PV} (h:ch B cs qs) (hB:WL t B B') : ch B' (iR t cs) qs :=
 ⟨by rw [kI]; exact h.len,fun j c q h1 h2=>by
  rw [mW,zm] at h1
  obtain ⟨c',h3,rfl⟩:=h1
  exact (h.rep j c' q h3 h2).stale hB⟩
theorem W3 (hs:Sim s p) {dst:Option Nat} {v:SV} {q:PV} {t e k:Nat} {ty:Ty} {zs xs0:List ty.den} {pins0:List (Nat×Pin)} (h0:lkB s.bx t=some (.rw e k ty xs0 pins0)) (hv:bf ((t,some (.rw e k ty zs []))::oK t s.bx) v q) :
  Sim (s.upd dst v (.grow t (.rw e k ty zs []))) (p.upd dst q (some (t,.rw e k (zs.map (bK ty))))):=by
 have hX:WL t s.bx ((t,some (.rw e k ty zs []))::oK t s.bx):=by
  refine ⟨fun t' ht e2 k2 ty2 xs2 pins2 h=>?_,fun t' ty2 cs2 h=>?_⟩
  ·rw [au,if_neg ht,jA,h]
   rfl
  ·have : ¬ t' = t:=fun e=>by rw [e,h0] at h; cases h
   rw [au,if_neg this,jA,h]
   exact ⟨_,_,rfl⟩
 refine Br (fun i _=>?_) (fun t'=>?_) hv
 ·rw [BJ]
  exact (hs.sl i).stale hX
 ·rw [au]
  simp only [cR]
  split
  ·exact ⟨rfl,fun p pin h=>by cases h⟩
  ·rename_i ht
   rw [jA]
   have h:=hs.bx t'
   cases hb:lkB s.bx t' with
   | none=>rw [hb] at h; exact h
   | some b =>
    rw [hb] at h
    cases b with
    | st ty2 cs=>obtain ⟨qs,h1,h2⟩:=h; exact ⟨qs,h1,h2.stale hX⟩
    | rw e2 k2 ty2 xs2 pins2=>exact h
def lc:Option aY→Option aY→Prop
 | some (.rw e k ty xs _),b=>∃ pins',b=some (.rw e k ty xs pins')
 | a,b=>b=a
theorem lc.refl (a:Option aY) : lc a a:=by
 match a with
 | none=>rfl
 | some (.st _ _)=>rfl
 | some (.rw _ _ _ _ pins)=>exact ⟨pins,rfl⟩
theorem lc.trans {a b c:Option aY} (h:lc a b) (h':lc b c) : lc a c:=by
 match a,h with
 | none,h=>cases h; exact h'
 | some (.st _ _),h=>cases h; exact h'
 | some (.rw _ _ _ _ _),⟨pins,h⟩ =>
  subst h
  obtain ⟨pins',h'⟩:=h'
  exact ⟨pins',h'⟩
mutual
def lD (pr:List Nat) : SV→Bool
 | .row t=>aC pr t
 | .re _ _ _=>false
 | .vw _ _ _=>false
 | .ag cs=>eg pr cs
 | .tup cs=>eg pr cs
 | .fn _ ps qs=>eg pr ps&&eg pr qs
 | _=>true
def eg (pr:List Nat) : List SV→Bool
 | []=>true
 | c::cs=>lD pr c&&eg pr cs
end
structure dN (sc W:List Nat) (s s':SS) : Prop where
 pr:s'.pr=s.pr
 ro:s'.ro=s.ro
 bx:∀ t,aC s.pr t=true→lc (lkB s.bx t) (lkB s'.bx t)
 sl:∀ i,aC W i=false→lD s.pr (lkV s.sl i)=true→lkV s'.sl i=lkV s.sl i
 st:∀ t,aC sc t=true→∀ ty cs,lkB s.bx t=some (.st ty cs)→∃ cs',lkB s'.bx t=some (.st ty cs')∧cs'.length=cs.length
variable {sc:List Nat}
theorem dN.refl (W:List Nat) (s:SS) : dN sc W s s:=⟨rfl,rfl,fun _ _=>.refl _,fun _ _ _=>rfl,fun _ _ _ cs h=>⟨cs,h,rfl⟩⟩
theorem dN.trans {W:List Nat} {s s' s'':SS} (h:dN sc W s s') (h':dN sc W s' s'') : dN sc W s s'' :=
 ⟨h'.pr.trans h.pr,h'.ro.trans h.ro,fun t ht=>(h.bx t ht).trans (h'.bx t (by rw [h.pr]; exact ht)),fun i hi hsf=>by
  have e:=h.sl i hi hsf
  rw [h'.sl i hi (by rw [e,h.pr]; exact hsf),e],fun t ht ty cs h1=>by
  obtain ⟨cs1,h2,h3⟩:=h.st t ht ty cs h1
  obtain ⟨cs2,h4,h5⟩:=h'.st t ht ty cs1 h2
  exact ⟨cs2,h4,h5.trans h3⟩⟩
theorem dN.wide {W W':List Nat} {s s':SS} (h:dN sc W s s') (hW:∀ i,aC W i=true→aC W' i=true) : dN sc W' s s' :=
 ⟨h.pr,h.ro,h.bx,fun i hi hsf=>h.sl i (by cases e:aC W i; rfl; rw [hW i e] at hi; cases hi) hsf,h.st⟩
theorem yP {s:SS} {t:Nat} (h:wrB s t=true) : s.ro=false∧aC s.pr t=false:=by
 unfold wrB at h
 split at h
 ·cases h
 ·rename_i h1; exact ⟨h1,by simpa using h⟩
theorem ng {s:SS} {t:Nat} (h:K1 s t=true) : aC s.oc t=false∧aC s.pr t=false:=by
 unfold K1 at h
 split at h
 ·cases h
 ·rename_i h1; exact ⟨h1,by simpa using h⟩
def OkU (s:SS) : Upd→Prop
 | .no=>True
 | .new t _=>aC s.pr t=false∧lkB s.bx t=none
 | .set t b=>aC s.pr t=false∧∀ ty cs,lkB s.bx t=some (.st ty cs)→∃ cs',b = .st ty cs'∧cs'.length=cs.length
 | .grow t _=>aC s.pr t=false∧∀ ty cs,lkB s.bx t≠some (.st ty cs)
 | .pin t b=>lc (lkB s.bx t) (some b)
def OkW (s:SS) (dst:Option Nat) (u:Upd) (w:Option (Nat×Box)) : Prop:=∀ t b,w=some (t,b)→((lkB s.bx t=none∧dst=some t)∨s.ro=false)∧fy.memL (WV u) t=true
theorem dX {s:SS} {dst:Option Nat} {u:Upd} : OkW s dst u none:=fun _ _ h=>by cases h
theorem Fv (t:Nat) : fy.memL [t] t=true:=by rw [BH]; simp
theorem zj {s:SS} {dst:Option Nat} {t:Nat} {b:Box} {sb:aY} (h:lkB s.bx t=none) (hd:dst=some t) : OkW s dst (.new t sb) (some (t,b)):=fun t' b' e=>by injection e with e; injection e with e1 e2; subst e1; exact ⟨.inl ⟨h,hd⟩,Fv t⟩
theorem Qf {s:SS} {dst:Option Nat} {t:Nat} {b:Box} {sb:aY} (h:s.ro=false) : OkW s dst (.set t sb) (some (t,b)):=fun t' b' e=>by injection e with e; injection e with e1 e2; subst e1; exact ⟨.inr h,Fv t⟩
theorem abk {s:SS} {dst:Option Nat} {t:Nat} {b:Box} {sb:aY} (h:s.ro=false) : OkW s dst (.grow t sb) (some (t,b)):=fun t' b' e=>by injection e with e; injection e with e1 e2; subst e1; exact ⟨.inr h,Fv t⟩
theorem Fq {pr:List Nat} {t t':Nat} (ht:aC pr t=false) (h:aC pr t' = true) : ¬ t' = t:=fun e=>by rw [e,ht] at h; cases h
mutual
theorem ER {pr:List Nat} {t:Nat} (ht:aC pr t=false) : ∀ v:SV,lD pr v=true→stale t v=v
 | .junk,_=>rfl
 | .d _,_=>rfl
 | .fe _,_=>rfl
 | .ptr _ _,_=>rfl
 | .row t',h=>by
  have:=Fq ht (show aC pr t' = true from h)
  simp only [stale,db,this,decide_false]
 | .re _ _ _,h=>by cases h
 | .vw _ _ _,h=>by cases h
 | .ag cs,h=>by simp only [stale]; rw [od ht cs h]
 | .tup cs,h=>by simp only [stale]; rw [od ht cs h]
 | .fn f ps qs,h=>by
  have h:(eg pr ps&&eg pr qs)=true:=h
  rw [Bool.and_eq_true] at h
  simp only [stale]; rw [od ht ps h.1,od ht qs h.2]
theorem od {pr:List Nat} {t:Nat} (ht:aC pr t=false) : ∀ cs:List SV,eg pr cs=true→iR t cs=cs
 | [],_=>rfl
 | c::cs,h=>by
  simp only [eg,Bool.and_eq_true] at h
  simp only [iR]
  rw [ER ht c h.1,od ht cs h.2]
end
mutual
theorem MR {t:Nat} : ∀ v:SV,qd v=true→stale t v=v
 | .junk,_=>rfl
 | .d _,_=>rfl
 | .fe _,_=>rfl
 | .ptr _ _,_=>rfl
 | .row _,h=>by cases h
 | .re _ _ _,h=>by cases h
 | .vw _ _ _,h=>by cases h
 | .ag cs,h=>by simp only [stale]; rw [jz cs h]
 | .tup cs,h=>by simp only [stale]; rw [jz cs h]
 | .fn f ps qs,h=>by
  have h:(match cF ps with | true=>cF qs | false=>false)=true:=h
  split at h
  ·rename_i h1; simp only [stale]; rw [jz ps h1,jz qs h]
  ·cases h
theorem jz {t:Nat} : ∀ cs:List SV,cF cs=true→iR t cs=cs
 | [],_=>rfl
 | c::cs,h=>by
  simp only [cF] at h
  split at h
  ·rename_i h1
   simp only [iR]
   rw [MR c h1,jz cs h]
  ·cases h
end
def mE (s:SS) : Prop:=∀ t,aC s.pr t=true→∃ b,lkB s.bx t=some b∧za b=true
theorem dN.prOk {W:List Nat} {s s':SS} (h:dN sc W s s') (hp:mE s) : mE s':=by
 intro t ht
 rw [h.pr] at ht
 obtain ⟨b,h1,h2⟩:=hp t ht
 have:=h.bx t ht
 rw [h1] at this
 cases b with
 | st ty cs=>exact ⟨_,this,h2⟩
 | rw e k ty xs pins =>
  obtain ⟨pins',h3⟩:=this
  exact ⟨_,h3,rfl⟩
theorem zw {W:List Nat} {dst:Option Nat} {v:SV} {u:Upd} (hu:OkU s u) (hW:∀ d,dst=some d→aC W d=true) (hpr:mE s) : dN sc W s (s.upd dst v u):=by
 have sl:∀ i,aC W i=false→lkV (tD s.sl dst v) i=lkV s.sl i:=fun i hi=>by
  rw [wt,if_neg (fun e=>by rw [hW i e] at hi; cases hi)]
 have one:∀ t b,aC s.pr t=false→∀ t',aC s.pr t' = true→lc (lkB s.bx t') (lkB ((t,some b)::s.bx) t'):=fun t b ht t' ht'=>by
  rw [au,if_neg (fun e=>by rw [e,ht] at ht'; cases ht')]
  exact .refl _
 cases u with
 | no=>exact ⟨rfl,rfl,fun _ _=>.refl _,fun i hi _=>sl i hi,fun _ _ _ cs h=>⟨cs,h,rfl⟩⟩
 | new t b =>
  refine ⟨rfl,rfl,one t b hu.1,fun i hi _=>sl i hi,fun t' _ ty cs h=>⟨cs,?_,rfl⟩⟩
  show lkB ((t,some b)::s.bx) t' = _
  rw [au,if_neg (fun e=>by rw [e,hu.2] at h; cases h)]
  exact h
 | set t b =>
  refine ⟨rfl,rfl,one t b hu.1,fun i hi _=>sl i hi,fun t' _ ty cs h=>?_⟩
  show ∃ cs',lkB ((t,some b)::s.bx) t' = _∧_
  rw [au]
  by_cases e:t' = t
  ·rw [if_pos e]
   rw [e] at h
   obtain ⟨cs',h1,h2⟩:=hu.2 ty cs h
   exact ⟨cs',by rw [h1],h2⟩
  ·rw [if_neg e]; exact ⟨cs,h,rfl⟩
 | pin t b =>
  refine ⟨rfl,rfl,fun t' _=>?_,fun i hi _=>sl i hi,fun t' _ ty cs h=>?_⟩
  ·show lc _ (lkB ((t,some b)::s.bx) t')
   rw [au]
   split
   ·rename_i e; subst e; exact hu
   ·exact .refl _
  ·show ∃ cs',lkB ((t,some b)::s.bx) t' = _∧_
   rw [au]
   by_cases e:t' = t
   ·rw [if_pos e]
    have hu:lc (lkB s.bx t) (some b):=hu
    rw [← e,h] at hu
    exact ⟨cs,hu,rfl⟩
   ·rw [if_neg e]; exact ⟨cs,h,rfl⟩
 | grow t b =>
  refine ⟨rfl,rfl,fun t' ht'=>?_,fun i hi hsf=>?_,fun t' _ ty cs h=>?_⟩
  ·show lc _ (lkB ((t,some b)::oK t s.bx) t')
   rw [au,if_neg (fun e=>by rw [e,hu.1] at ht'; cases ht'),jA]
   obtain ⟨b',h1,h2⟩:=hpr t' ht'
   rw [h1]
   cases b' with
   | st ty cs=>simp only [Option.map_some,MS]; rw [jz cs h2]; rfl
   | rw e k ty xs pins=>exact ⟨pins,rfl⟩
  ·show lkV (tD (ES t s.sl) dst v) i = _
   rw [wt,if_neg (fun e=>by rw [hW i e] at hi; cases hi),BJ]
   exact ER hu.1 _ hsf
  ·show ∃ cs',lkB ((t,some b)::oK t s.bx) t' = _∧_
   rw [au,if_neg (fun e=>hu.2 ty cs (by rw [← e]; exact h)),jA,h]
   exact ⟨_,rfl,kI t cs⟩
end
section
variable {B:List (Nat×Option aY)} {s:SS} {p:PS} {P:Program} {ρ : Type}
theorem J0 {v:Value} {c:SD} (h:J1 v=some c) : Mz c (.v v)∧v.oneCell' = true:=by
 unfold J1 at h
 split at h
 ·injection h with h; subst h; exact ⟨rfl,rfl⟩
 ·injection h with h; subst h; exact ⟨rfl,rfl⟩
 ·injection h with h; subst h; exact ⟨rfl,rfl⟩
 ·injection h with h; subst h; exact ⟨rfl,rfl⟩
 ·cases h
theorem yw {B:List (Nat×Option aY)} : ∀ {l:List Value} {cs:List SV},GS l=some cs→ch B cs (l.map fun x=>.d (.v x))∧∀ x∈l,x.oneCell' = true
 | [],cs,h=>by injection h with h; subst h; exact ⟨.nil,fun x hx=>by cases hx⟩
 | v::l,cs,h=>by
  simp only [GS] at h
  split at h
  ·rename_i c cs' h1 h2
   injection h with h
   subst h
   obtain ⟨k1,k2⟩:=J0 h1
   obtain ⟨k3,k4⟩:=yw h2
   refine ⟨.cons (.d _ _ k1) k3,fun x hx=>?_⟩
   rcases List.mem_cons.1 hx with rfl | hx
   ·exact k2
   ·exact k4 x hx
  ·cases h
theorem ZS {v:Value} (e:Fo v = .d (.v v)) : bf B (match J1 v with | some c=>.d c | none=>.junk) (Fo v):=by
 split
 ·rename_i c h
  rw [e]
  exact .d _ _ (J0 h).1
 ·exact .junk _
theorem GL (v:Value) : bf B (Ly v) (Fo v):=by
 have key:=ZS (B:=B) (v:=v)
 cases v with
 | agg xs =>
  simp only [Ly]
  split
  ·rename_i cs h
   obtain ⟨h1,h2⟩:=yw (B:=B) h
   have:xs.all (·.oneCell')=true:=by
    rw [← Array.all_toList,List.all_eq_true]
    exact h2
   simp only [Fo,this,if_true]
   exact .ag _ _ h1.len h1.rep
  ·exact .junk _
 | tuple xs=>exact .junk _
 | _=>exact key rfl
theorem cf (hs:Sim s p) (x:Operand) : bf s.bx (evX s x) (ev p x):=by
 cases x with
 | tmp i=>exact hs.sl i
 | const v=>exact GL v
 | global g=>exact .junk _
 | func f=>exact .fn f [] [] [] [] rfl (fun j c q h=>by simp at h) rfl (fun j c q h=>by simp at h)
theorem lq {k:IntKind} {x:Int} {q:PV} (h:bf B (.d (.int k x)) q) : q = .d (.v (.int k x)):=by
 cases h with
 | d c y h=>rw [Xw (show nrm y = .v _ from h)]
theorem lr {x:Bool} {q:PV} (h:bf B (.d (.bool x)) q) : q = .d (.v (.bool x)):=by
 cases h with
 | d c y h=>rw [Xw (show nrm y = .v _ from h)]
theorem rN {x:ByteArray} {q:PV} (h:bf B (.d (.str x)) q) : q = .d (.v (.string x)):=by
 cases h with
 | d c y h=>rw [Xw (show nrm y = .v _ from h)]
theorem SP {q:PV} (h:bf B (.d .nl) q) : q = .d (.v (.slice none 0 0)):=by
 cases h with
 | d c y h=>rw [show y = .v (.slice none 0 0) from h]
theorem SO {ty:Ty} {xs:List ty.den} {q:PV} (h:bf B (.d (.sl ty xs)) q) : q = .d (.sl (xs.map (bK ty)))∨(xs = []∧q = .d (.v (.slice none 0 0))):=by
 cases h with
 | d c y h =>
  rcases abm (show nrm y = .sl _ from h) with h | ⟨h1,h2⟩
  ·rw [h]; exact .inl rfl
  ·rw [h2]; exact .inr ⟨by simpa using h1,rfl⟩
theorem I0 {cs:List SV} {q:PV} (h:bf B (.ag cs) q) : ∃ qs,q = .ag qs∧ch B cs qs:=by
 cases h with
 | ag _ qs hl hr=>exact ⟨qs,rfl,hl,hr⟩
theorem WO {cs:List SV} {q:PV} (h:bf B (.tup cs) q) : ∃ qs,q = .tup qs∧ch B cs qs:=by
 cases h with
 | tup _ qs hl hr=>exact ⟨qs,rfl,hl,hr⟩
theorem fX (k:IntKind) (x:Int) : bf B (.d (.int k x)) (.d (.v (.int k x))):=.d _ _ rfl
theorem fa (x:Bool) : bf B (.d (.bool x)) (.d (.v (.bool x))):=.d _ _ rfl
theorem xk (x:ByteArray) : bf B (.d (.str x)) (.d (.v (.string x))):=.d _ _ rfl
theorem PF (ty:Ty) (xs:List ty.den) : bf B (.d (.sl ty xs)) (.d (.sl (xs.map (bK ty)))):=.d _ _ rfl
theorem KN (hs:Sim s p) {t:Nat} {q:PV} {c:SD} (hv:bf s.bx (.row t) q) (h:ZE s t=some c) : ∃ e k ty xs pins,lkB s.bx t=some (.rw e k ty xs pins)∧c = .sl ty xs∧q = .row t xs.length∧p.b t=some (.rw e k (xs.map (bK ty))):=by
 unfold ZE at h
 split at h
 ·rename_i e k ty xs pins hb
  injection h with h
  have hbx:=hs.bx t
  rw [hb] at hbx
  cases hv with
  | row _ n e2 k2 ty2 xs2 pins2 hb2 hn =>
   rw [hb] at hb2
   injection hb2 with hb2
   injection hb2 with e1 e2 e3 e4 e5
   subst e3
   have e4:=eq_of_heq e4
   subst e4
   exact ⟨e,k,ty,xs,pins,hb,h.symm,by rw [hn],hbx.1⟩
 ·cases h
theorem Lw (hs:Sim s p) {v:SV} {q:PV} {ty:Ty} {xs:List ty.den} (hv:bf s.bx v q) (h:sY s v=some (.sl ty xs)) : ln p.b q=some (xs.map (bK ty)):=by
 unfold sY at h
 split at h
 ·injection h with h
  subst h
  rcases SO hv with rfl | ⟨rfl,rfl⟩
  ·rfl
  ·simp [ln]
 ·obtain ⟨e,k,ty2,xs2,pins,h1,h2,rfl,h4⟩:=KN hs hv h
  injection h2 with e1 e2
  subst e1
  have e2:=eq_of_heq e2
  subst e2
  simp [ln,h4]
 ·cases h
theorem aat {v:SV} {q:PV} (hv:bf s.bx v q) (h:sY s v=some .nl) : q = .d (.v (.slice none 0 0)):=by
 unfold sY at h
 split at h
 ·injection h with h
  subst h
  exact SP hv
 ·unfold ZE at h
  split at h
  ·injection h with h; cases h
  ·cases h
 ·cases h
theorem Yp (hs:Sim s p) {v:SV} {q:PV} {c:SD} (hv:bf s.bx v q) (h:sY s v=some c) : asData p.b q = .d c.toD∧(qd v=true→clean q=true∧asData dZ q = .d c.toD):=by
 unfold sY at h
 split at h
 ·injection h with h
  subst h
  cases hv with
  | d c y h=>simp only [asData,h.nrm,clean,and_self,implies_true]
 ·obtain ⟨e,k,ty2,xs2,pins,h1,rfl,rfl,h4⟩:=KN hs hv h
  refine ⟨by simp [asData,h4,SD.toD],fun h=>by simp [qd] at h⟩
 ·cases h
theorem TX (hs:Sim s p) : ∀ {cs:List SV} {qs:List PV} {ds:List SD},ch s.bx cs qs→Lv s cs=some ds→bR p.b qs=ds.map (fun c=>.d c.toD)∧(cF cs=true→cO qs=true∧bR dZ qs=ds.map (fun c=>.d c.toD))
 | [],qs,ds,h,hd=>by
  rcases h.cases with ⟨_,rfl⟩ | ⟨_,_,_,_,h1,_⟩
  ·injection hd with hd; subst hd; simp [bR,cO]
  ·cases h1
 | c::cs,qs,ds,h,hd=>by
  rcases h.cases with ⟨h1,_⟩ | ⟨c',q,cs',qs',h1,rfl,h2,h3⟩
  ·cases h1
  ·injection h1 with e1 e2
   subst e1 e2
   simp only [Lv] at hd
   split at hd
   ·rename_i d ds' k1 k2
    injection hd with hd
    subst hd
    obtain ⟨m1,m2⟩:=Yp hs h2 k1
    obtain ⟨m3,m4⟩:=TX hs h3 k2
    refine ⟨by simp [bR,m1,m3],fun hn=>?_⟩
    simp only [cF] at hn
    split at hn
    ·rename_i hn1
     obtain ⟨n1,n2⟩:=m2 hn1
     obtain ⟨n3,n4⟩:=m4 hn
     simp [bR,cO,n1,n2,n3,n4]
    ·cases hn
   ·cases hd
theorem B7 {v:SV} {q:PV} {cs:List SV} (hv:bf B v q) (h:LK v=some cs) : ∃ qs,B8 q=some qs∧ch B cs qs:=by
 cases hv with
 | junk q=>cases h
 | tup=>cases h
 | ag cs' qs hl hr=>injection h with h; subst h; exact ⟨qs,rfl,hl,hr⟩
 | d c y hd=>injection h with h; subst h; exact ⟨_,rfl,.cons (.d c y hd) .nil⟩
 | ptr t o ty cs' hb=>injection h with h; subst h; exact ⟨_,rfl,.cons (.ptr t o ty cs' hb) .nil⟩
 | row t n e k ty xs pins hb hn=>injection h with h; subst h; exact ⟨_,rfl,.cons (.row t n e k ty xs pins hb hn) .nil⟩
 | re t p o n i e k ty xs pins pin hb hn hp hi=>injection h with h; subst h; exact ⟨_,rfl,.cons (.re t p o n i e k ty xs pins pin hb hn hp hi) .nil⟩
 | vw t lo hi n e k ty xs pins hb hn=>injection h with h; subst h; exact ⟨_,rfl,.cons (.vw t lo hi n e k ty xs pins hb hn) .nil⟩
 | fe cs' ds hd hn=>injection h with h; subst h; exact ⟨_,rfl,.cons (.fe cs' ds hd hn) .nil⟩
 | fn f ps qs ps' qs' hl hr hl2 hr2=>injection h with h; subst h; exact ⟨_,rfl,.cons (.fn f ps qs ps' qs' hl hr hl2 hr2) .nil⟩
theorem Nd {cs:List SV} {qs:List PV} (h:ch B cs qs) {size:Nat} {agg:Bool} {v:SV} (hp:Td size agg cs=some v) : ∃ q,Jg size agg qs=some q∧bf B v q:=by
 unfold Td at hp
 unfold Jg
 split at hp
 ·rename_i ha
  rw [if_pos ha]
  split at hp
  ·rename_i hl
   injection hp with hp
   subst hp
   rw [h.len] at hl
   rw [if_pos hl]
   have:=h.take size
   exact ⟨_,rfl,.ag _ _ this.len this.rep⟩
  ·cases hp
 ·rename_i ha
  rw [if_neg ha]
  rcases h.cases with ⟨rfl,rfl⟩ | ⟨c,q,cs',qs',rfl,rfl,h1,h2⟩
  ·cases hp
  ·injection hp with hp; subst hp; exact ⟨q,rfl,h1⟩
theorem Fy (cs:List SD) (h:∀ c∈cs,c≠.nl) : ch B (BI cs) ((cs.map SD.toD).map .d):=by
 induction cs with
 | nil=>exact .nil
 | cons c cs ih=>exact .cons (.d _ _ (Mz.of (h c List.mem_cons_self))) (ih fun c hc=>h c (List.mem_cons_of_mem _ hc))
end
section
variable {B:List (Nat×Option aY)} {s:SS} {p:PS} {P:Program} {ρ : Type}
def yO (s:SS) (k:SV→Option ρ) (res : ρ) (e:Option PV) : Prop:=∃ v q,e=some q∧k v=some res∧bf s.bx v q
theorem dA {k:SV→Option ρ} {res : ρ} {e:Option PV} {v:SV} {q:PV} (he:e=some q) (hk:k v=some res) (hv:bf s.bx v q) : yO s k res e:=⟨v,q,he,hk,hv⟩
theorem XF {x:Operand} {n:Int} {kd:IntKind} {y:Int} (h:XU x=some n) (hy:evX s x = .d (.int kd y)) : y=n:=by
 unfold XU at h
 split at h
 ·injection h with h
  subst h
  simp only [evX,Ly,J1] at hy
  injection hy with hy
  injection hy with _ hy
  exact hy.symm
 ·cases h
theorem Vq {op:BinOp} {kd:IntKind} {lit:Option Int} {x y:Int} {k:SV→Option ρ} {res : ρ} (hl:∀ n,lit=some n→y=n) (h:QZ op kd lit x y k=some res) : yO s k res (zK op kd x y):=by
 cases op <;> simp only [QZ] at h
 case add=>exact dA rfl h (fX _ _)
 case sub=>exact dA rfl h (fX _ _)
 case mul=>exact dA rfl h (fX _ _)
 case quo =>
  split at h
  ·rename_i n
   obtain ⟨h1,h2⟩:=aq h
   have hy:=hl n rfl
   subst hy
   have : ¬ y=0:=by simpa using h1
   exact dA (by simp [zK,this]) h2 (fX _ _)
  ·obtain ⟨q,h1,h2⟩:=cQ h
   split at h1
   ·cases h1
   ·rename_i hy
    injection h1 with h1
    subst h1
    exact dA (by simp [zK,hy]) h2 (fX _ _)
 case rem =>
  split at h
  ·rename_i n
   obtain ⟨h1,h2⟩:=aq h
   have hy:=hl n rfl
   subst hy
   have : ¬ y=0:=by simpa using h1
   exact dA (by simp [zK,this]) h2 (fX _ _)
  ·obtain ⟨q,h1,h2⟩:=cQ h
   unfold Du at h1
   split at h1
   ·cases h1
   ·rename_i hy
    injection h1 with h1
    subst h1
    exact dA (by simp [zK,hy]) h2 (fX _ _)
 case eql=>exact dA rfl h (fa _)
 case neq=>exact dA rfl h (fa _)
 case lss=>exact dA rfl h (fa _)
 case leq=>exact dA rfl h (fa _)
 case gtr=>exact dA rfl h (fa _)
 case geq=>exact dA rfl h (fa _)
 case and=>exact dA rfl h (fX _ _)
 case or=>exact dA rfl h (fX _ _)
 case xor=>exact dA rfl h (fX _ _)
 all_goals cases h
theorem Uj {op:BinOp} {kd:IntKind} {lit:Option Int} {x y:Int} {k:SV→Option ρ} {res : ρ} (hl:∀ n,lit=some n→y=n) (h:PW op kd lit x y k=some res) : yO s k res (tG op kd x y):=by
 unfold PW at h
 split at h
 ·rename_i n
  obtain ⟨h1,h2⟩:=aq h
  have hy:=hl n rfl
  subst hy
  have : ¬ y < 0:=by have:=zd h1; omega
  split at h2
  ·exact dA (by simp [tG,this]) h2 (fX _ _)
  ·exact dA (by simp [tG,this]) h2 (fX _ _)
  ·cases h2
 ·obtain ⟨u,h1,h2⟩:=cQ h
  split at h1
  ·cases h1
  ·rename_i hy
   split at h2
   ·exact dA (by simp [tG,hy]) h2 (fX _ _)
   ·exact dA (by simp [tG,hy]) h2 (fX _ _)
   ·cases h2
theorem Ud {op:BinOp} {x y:ByteArray} {k:SV→Option ρ} {res : ρ} (h:PJ op x y k=some res) : yO s k res (MO op x y):=by
 cases op <;> simp only [PJ] at h
 case add =>
  obtain ⟨z,h1,h2⟩:=cQ h
  unfold mM at h1
  split at h1
  ·rename_i hz
   injection h1 with h1
   subst h1
   exact dA (by simp only [MO,hz,if_true]) h2 (xk _)
  ·cases h1
 case eql=>exact dA rfl h (fa _)
 case neq=>exact dA rfl h (fa _)
 case lss=>exact dA rfl h (fa _)
 case leq=>exact dA rfl h (fa _)
 case gtr=>exact dA rfl h (fa _)
 case geq=>exact dA rfl h (fa _)
 all_goals cases h
theorem PG {op:BinOp} {x y:Bool} {k:SV→Option ρ} {res : ρ} (h:KB op x y k=some res) : yO s k res (rO op x y):=by
 cases op <;> simp only [KB] at h
 case eql=>exact dA rfl h (fa _)
 case neq=>exact dA rfl h (fa _)
 all_goals cases h
theorem JH:∀ {l m:List Nat},Li l m=true→l=m
 | [],[],_=>rfl
 | [],_ :: _,h=>by cases h
 | _ :: _,[],h=>by cases h
 | a::l,b::m,h=>by
  simp only [Li,db] at h
  by_cases e:a=b
  ·simp only [e,decide_true] at h; rw [e,JH h]
  ·simp only [e,decide_false] at h; cases h
theorem JI {c d:SD} {q w:PV} {n:Nat} {r:Bool} (hc:bf B (.d c) q) (hd:bf B (.d d) w) (hn:Ql (.d c)=some n) (h:tW c d=some r) : BS n q w=some r:=by
 cases c with
 | int k a =>
  cases d <;> simp only [tW] at h <;> try cases h
  rw [lq hc,lq hd]
  injection hn with hn
  subst hn
  exact h
 | bool a =>
  cases d <;> simp only [tW] at h <;> try cases h
  rw [lr hc,lr hd]
  injection hn with hn
  subst hn
  rfl
 | str a =>
  cases d <;> simp only [tW] at h <;> try cases h
  rw [rN hc,rN hd]
  injection hn with hn
  subst hn
  rfl
 | sl t xs=>cases hn
 | nl=>cases hn
theorem aae:∀ {cs ds:List SV} {qs ws:List PV} {l:List Nat} {r:Bool},ch B cs qs→ch B ds ws→Ei cs=some l→C1 cs ds=some r→kj l qs ws=some r:=by
 intro cs
 induction cs with
 | nil=>intro ds qs ws l r _ _ _ h; cases ds <;> simp [C1] at h
 | cons c cs ih =>
  intro ds qs ws l r hc hd hl h
  rcases hc.cases with ⟨h1,_⟩ | ⟨c',q,cs',qs',h1,rfl,hcq,hcs⟩
  ·cases h1
  injection h1 with e1 e2
  subst e1 e2
  rcases hd.cases with ⟨rfl,_⟩ | ⟨d,w,ds',ws',rfl,rfl,hdw,hds⟩
  ·cases c <;> cases cs <;> simp [C1] at h
  simp only [Ei] at hl
  split at hl
  ·rename_i n l' hn hl'
   injection hl with hl
   subst hl
   cases c with
   | d c =>
    cases d with
    | d d =>
     by_cases hlast:cs = []∧ds' = []
     ·obtain ⟨rfl,rfl⟩:=hlast
      simp only [C1] at h
      have:=JI hcq hdw hn h
      rcases hcs.cases with ⟨_,rfl⟩ | ⟨_,_,_,_,h1,_⟩
      ·rcases hds.cases with ⟨_,rfl⟩ | ⟨_,_,_,_,h1,_⟩
       ·injection hl' with hl'
        subst hl'
        simp [kj,this]
       ·cases h1
      ·cases h1
     ·have h:(match tW c d,C1 cs ds' with | some a,some r=>some (a&&r) | _,_=>none)=some r:=by
       cases cs with
       | nil=>cases ds' with
        | nil=>exact absurd ⟨rfl,rfl⟩ hlast
        | cons=>exact h
       | cons=>exact h
      split at h
      ·rename_i a r' k1 k2
       injection h with h
       subst h
       simp [kj,JI hcq hdw hn k1,ih hcs hds hl' k2]
      ·cases h
    | _=>cases cs <;> simp [C1] at h
   | _=>simp [Ql] at hn
  ·cases hl
theorem aaC {op:BinOp} {t:TypeId} {lit:Option Int} {v w:SV} {q r:PV} {k:SV→Option ρ} {res : ρ} (hv:bf s.bx v q) (hw:bf s.bx w r) (hl:∀ n kd y,lit=some n→w = .d (.int kd y)→y=n) (h:abD P op t lit v w k=some res) : yO s k res (uc P op t q r):=by
 unfold abD at h
 split at h
 ·rename_i kd x kd' y
  obtain rfl:=lq hv
  obtain rfl:=lq hw
  have e:uc P op t (.d (.v (.int kd x))) (.d (.v (.int kd' y)))=if K8 op then tG op kd x y else if kd=kd' then zK op kd x y else none:=rfl
  rw [e]
  split at h
  ·rename_i hs
   rw [if_pos hs]
   exact Uj (fun n hn=>hl n kd' y hn rfl) h
  ·rename_i hs
   rw [if_neg (by simp [hs])]
   split at h
   ·rename_i hk
    rw [if_pos hk]
    exact Vq (fun n hn=>hl n kd' y hn rfl) h
   ·cases h
 ·obtain rfl:=rN hv
  obtain rfl:=rN hw
  exact Ud h
 ·obtain rfl:=lr hv
  obtain rfl:=lr hw
  split at h
  ·rename_i hu
   rename_i x y _
   have e:uc P op t (.d (.v (.bool x))) (.d (.v (.bool y)))=rO op x y:=by simp [uc,asI,asS,asB,hu]
   rw [e]
   exact PG h
  ·cases h
 ·rename_i xs ys
  obtain ⟨qs,rfl,hq⟩:=I0 hv
  obtain ⟨ws,rfl,hws⟩:=I0 hw
  split at h
  ·rename_i l l' r h1 h2 h3
   obtain ⟨h4,h5⟩:=aq h
   obtain rfl:=JH h4
   have h6:=aae hq hws h2 h3
   have e:uc P op t (.ag qs) (.ag ws)=rO op r true:=by simp [uc,asI,asS,asB,Ln,h1,h6]
   rw [e]
   split at h5
   ·exact dA (by simp [rO]) h5 (fa _)
   ·exact dA (by simp [rO]) h5 (fa _)
   ·cases h5
  ·cases h
 ·cases h
theorem aa9 {op:UnOp} {v:SV} {q:PV} {k:SV→Option ρ} {res : ρ} (hv:bf s.bx v q) (h:unX op v k=some res) : yO s k res (TP op q):=by
 unfold unX at h
 split at h
 ·obtain rfl:=lr hv; exact dA rfl h (fa _)
 ·obtain rfl:=lq hv; exact dA rfl h (fX _ _)
 ·cases h
theorem C4:∀ (xs:List Int) (acc:ByteArray),wD (List.map (bK (.int .u8)) xs) acc=some (xs.foldl (fun r n=>r.push (UInt8.ofNat n.toNat)) acc)
 | [],acc=>rfl
 | x::xs,acc=>C4 xs (acc.push (UInt8.ofNat x.toNat))
theorem Gw {b:Nat→Option Box} {src dst e:TypeId} {q:PV} {x:Int} {xs:List Int} (h1:P.underlying src=some (.slice e)) (h2:P.underlying dst=some .string) (h3:P.underlying e=some (.int .u8)) (h4:ln b q=some (List.map (bK (.int .u8)) (x::xs))) :
  im P b src dst q=(wD (List.map (bK (.int .u8)) (x::xs)) ByteArray.empty).map fun s=>.d (.v (.string s)):=by
 unfold im
 rw [h1,h2]
 simp only [h3,h4]
 rfl
theorem Gu {b:Nat→Option Box} {src dst:TypeId} {q:PV} {u:TypeDesc} (h1:P.underlying src=some u) (hne:∀ e,u = .slice e→False) : im P b src dst q=ua P src dst q:=by
 unfold im
 split
 ·rename_i e h3 h4
  rw [h1] at h3
  injection h3 with h3
  exact absurd h3 (hne e)
 ·rfl
theorem Yx (hs:Sim s p) {src dst:TypeId} {v:SV} {q:PV} {k:SV→Option ρ} {res : ρ} (hv:bf s.bx v q) (h:Yy P s src dst v k=some res) : yO s k res (im P p.b src dst q):=by
 unfold Yy at h
 split at h
 ·cases h
 ·rename_i e h1
  split at h
  ·rename_i h2
   split at h
   ·rename_i xs h3 h4
    obtain ⟨z,h5,h6⟩:=cQ h
    have h7:=Lw hs hv h4
    unfold ZD at h5
    split at h5
    ·cases h5
    ·rename_i hne
     injection h5 with h5
     cases xs with
     | nil=>exact absurd rfl hne
     | cons x xs =>
      refine dA ?_ h6 (xk _)
      rw [Gw h1 h2 h3 h7]
      exact congrArg (Option.map _) ((C4 _ _).trans (congrArg some h5))
   ·cases h
  ·cases h
 ·rename_i u hne h1
  rw [show im P p.b src dst q=ua P src dst q from Gu h1 (fun e he=>hne e he)]
  split at h
  ·rename_i h2
   obtain rfl:=lq hv
   exact dA (by simp [ua,h1,h2,asI]) h (fX _ _)
  ·rename_i h2
   obtain rfl:=rN hv
   exact dA (by simp [ua,h1,h2,asS]) h (xk _)
  ·cases h
theorem Ir {t:TypeId} {f:Nat} {v:SV} {q:PV} {k:SV→Option ρ} {res : ρ} (hv:bf s.bx v q) (h:yl P t v f k=some res) : yO s k res (g7 P t q f):=by
 unfold yl at h
 split at h
 ·rename_i off size agg hf
  obtain ⟨h1,h2⟩:=aq h
  have hsz : ¬ size=0:=by simpa using h1
  split at h2
  ·cases hv with
   | ptr _ _ ty cs hb=>exact dA (by simp [g7,hf,hsz]) h2 (.ptr _ _ ty cs hb)
  ·cases hv with
   | fe cs ds hd hn=>exact dA (q:=.fe (ds.drop off)) (by simp [g7,hf,hsz]) h2 (.fe _ _ (by rw [hd,List.map_drop]) (fun c hc=>hn c (List.mem_of_mem_drop hc)))
  ·cases hv with
   | re _ _ _ n i e k ty xs pins pin hb hn hp hi=>exact dA (q:=.re _ n i (_ + off)) (by simp [g7,hf,hsz]) h2 (.re _ _ _ n i e k ty xs pins pin hb hn hp hi)
  ·cases h2
 ·cases h
theorem ZX {v:SV} {q:PV} {k:SV→Option ρ} {res : ρ} (hv:bf s.bx v q) (h:abo v k=some res) : yO s k res (yn q):=by
 unfold abo at h
 split at h
 ·cases hv with
  | ptr _ _ ty cs hb=>exact dA (by simp [yn]) h (.ptr _ _ ty cs hb)
 ·cases hv with
  | re _ _ _ n i e k ty xs pins pin hb hn hp hi=>exact dA (q:=.re _ n i _) (by simp [yn]) h (.re _ _ _ n i e k ty xs pins pin hb hn hp hi)
 ·cases hv with
  | fe cs ds hd hn=>exact dA (q:=.fe ds) (by simp [yn]) h (.fe _ _ hd hn)
 ·cases h
theorem U8 {t:TypeId} {f:Nat} {v:SV} {q:PV} {k:SV→Option ρ} {res : ρ} (hv:bf s.bx v q) (h:QI P t v f k=some res) : yO s k res (vy P t q f):=by
 unfold QI at h
 split at h
 ·rename_i off size agg cs hf
  obtain ⟨qs,rfl,hq⟩:=I0 hv
  split at h
  ·rename_i v' h1
   obtain ⟨q',h2,h3⟩:=Nd (hq.drop off) h1
   exact dA (by simp [vy,hf,h2]) h h3
  ·cases h
 ·cases h
theorem YN (hs:Sim s p) {v:SV} {q:PV} {cs:List SV} (hv:bf s.bx v q) (h:YO s v=some cs) : ∃ qs,vE p.b q=some qs∧ch s.bx cs qs:=by
 unfold YO at h
 split at h
 ·rename_i t off
  cases hv
  split at h
  ·rename_i ty cs' hb
   injection h with h
   subst h
   have:=hs.bx t
   rw [hb] at this
   obtain ⟨qs,h1,h2⟩:=this
   exact ⟨qs.drop off,by simp [vE,h1],h2.drop off⟩
  ·cases h
 ·injection h with h
  subst h
  cases hv with
  | fe _ ds hd hn=>exact ⟨_,rfl,by rw [hd]; exact Fy _ hn⟩
 ·rename_i t pi off
  split at h
  ·rename_i e k ty xs pins hb
   split at h
   ·rename_i j cs' hp
    injection h with h
    subst h
    have hbx:=hs.bx t
    rw [hb] at hbx
    obtain ⟨h1,h2⟩:=hbx
    obtain ⟨h3,h4⟩:=h2 pi _ hp
    obtain ⟨x,h5,h6⟩:=h4 cs' rfl
    cases hv with
    | re _ _ _ n i e2 k2 ty2 xs2 pins2 pin2 hb2 hn2 hp2 hi2 =>
     rw [hb] at hb2
     injection hb2 with hb2
     injection hb2 with e1 e2 e3 e4 e5
     subst e3
     have e4:=eq_of_heq e4
     subst e4 e5
     rw [hp] at hp2
     injection hp2 with hp2
     subst hp2
     refine ⟨((bK ty x).drop off).map .d,by simp [vE,h1,hn2,hi2,h5],?_⟩
     have:=Fy (B:=s.bx) (cs'.drop off) (fun c hc=>by rw [h6] at hc; exact TM ty x c (List.mem_of_mem_drop hc))
     rw [h6] at this ⊢
     rw [List.map_drop,Em] at this
     simpa [List.map_drop] using this
   ·cases h
  ·cases h
 ·cases h
theorem Nq (hs:Sim s p) {t:TypeId} {v w:SV} {q:PV} (hv:bf s.bx v q) (h:To P s t v=some w) : ∃ r,rG P p.b t q=some r∧bf s.bx w r:=by
 unfold To at h
 split at h
 ·rename_i i cl h1 h2
  obtain ⟨qs,h3,h4⟩:=YN hs hv h2
  obtain ⟨r,h5,h6⟩:=Nd h4 h
  exact ⟨r,by simp [rG,h1,h3,h5],h6⟩
 ·cases h
theorem UR {v:SV} {q:PV} {i:Int} (hv:bf B v q) (h:BM v=some i) : ∃ k,q = .d (.v (.int k i)):=by
 unfold BM at h
 split at h
 ·injection h with h; subst h; exact ⟨_,lq hv⟩
 ·cases h
theorem lJ {q:PV} {k:IntKind} {i:Int} {n:Nat} (h:q = .d (.v (.int k i))) (h0 : 0≤i) : wY (some q) n=some i.toNat:=by
 subst h
 simp [wY,asI,h0]
end
section
variable {B:List (Nat×Option aY)} {s:SS} {p:PS} {P:Program} {ρ : Type}
def PA (s:SS) (p:PS) (dst:Option Nat) (k:SV→Upd→Option ρ) (res : ρ) (e:Option (PV×Option (Nat×Box))) : Prop :=
 ∃ v u q w,e=some (q,w)∧k v u=some res∧Sim (s.upd dst v u) (p.upd dst q w)∧OkU s u∧OkW s dst u w
theorem yO.done (hs:Sim s p) {dst:Option Nat} {k:SV→Upd→Option ρ} {res : ρ} {e:Option PV} (h:yO s (fun v=>k v .no) res e) : PA s p dst k res (e.map fun r=>(r,none)):=by
 obtain ⟨v,q,rfl,h2,h3⟩:=h
 exact ⟨v,.no,q,none,rfl,h2,lB hs h3,trivial,dX⟩
theorem Js {α : Type} {xs:List α} {i:Int} {x : α} (h:ar xs i=some x) : 0≤i∧xs[i.toNat]? = some x∧i.toNat < xs.length:=by
 unfold ar at h
 split at h
 ·rename_i h0
  exact ⟨h0,h,(zg.1 h).1⟩
 ·cases h
theorem Iq (hs:Sim s p) {dst:Option Nat} {t:TypeId} {v w:SV} {q r:PV} {k:SV→Upd→Option ρ} {res : ρ} (hv:bf s.bx v q) (hw:bf s.bx w r) (h:yf P s dst t v w k=some res) :
  PA s p dst k res ((ei P p.b t q r).map fun r=>(r,none)):=by
 unfold yf at h
 split at h
 ·rename_i e kd i d hu
  obtain rfl:=lq hw
  split at h
  ·rename_i ie hie
   split at h
   ·rename_i ty xs
    obtain ⟨h1,h2⟩:=aq h
    obtain ⟨x,h3,h4⟩:=cQ h2
    obtain ⟨k0,k1,k2⟩:=Js h3
    have hl:(bK ty x).length=ie.size:=by rw [lQ]; simpa using h1
    rcases SO hv with rfl | ⟨rfl,_⟩
    ·refine ⟨_,.no,.fe (bK ty x),none,?_,h4,lB hs (.fe _ _ (Em ty x).symm (TM ty x)),trivial,dX⟩
     simp [ei,hu,asI,hie,k0,k1,hl]
    ·simp at k2
   ·rename_i t'
    split at h
    ·rename_i e' kk ty xs pins hb
     obtain ⟨h1,h2⟩:=aq h
     obtain ⟨h2,h3⟩:=aq h2
     obtain ⟨x,h4,h5⟩:=cQ h3
     obtain ⟨k0,k1,k2⟩:=Js h4
     have hbx:=hs.bx t'
     rw [hb] at hbx
     obtain ⟨hbx,hpins⟩:=hbx
     have hkk:kk=ie.size:=by simpa using h1
     have hnp:lkP pins d=none:=by simpa using h2
     cases hv with
     | row _ n e2 k2' ty2 xs2 pins2 hb2 hn2 =>
      rw [hb] at hb2
      injection hb2 with hb2
      injection hb2 with e1 e2 e3 e4 e5
      subst e3
      have e4:=eq_of_heq e4
      subst e4 e5 hn2
      refine ⟨_,_,.re t' xs.length i.toNat 0,none,?_,h5,?_,(show lc (lkB s.bx t') _ from by rw [hb]; exact ⟨_,rfl⟩),dX⟩
      ·simp [ei,hu,asI,hie,k0,hbx,hkk,k2]
      ·have hble:BLe s.bx ((t',some (.rw e' kk ty xs ((d,⟨i,some (BT ty x)⟩)::pins)))::s.bx):=QY hb rfl (fun p pin hp=>⟨pin,by
        rw [sK,if_neg (fun e=>by rw [e,hnp] at hp; cases hp)]; exact hp,rfl⟩)
       refine ZB hs hble (fun _=>⟨hbx,fun p pin hp=>?_⟩) (.re t' d 0 xs.length i.toNat e' kk ty xs _ ⟨i,some (BT ty x)⟩ (by rw [au,if_pos rfl]) rfl (by rw [sK,if_pos rfl]) rfl)
       rw [sK] at hp
       split at hp
       ·injection hp with hp
        subst hp
        exact ⟨k2,fun cs hc=>⟨x,k1,by injection hc with hc; exact hc.symm⟩⟩
       ·exact hpins p pin hp
    ·cases h
   ·cases h
  ·cases h
 ·cases h
theorem wn {cs:List SV} {qs:List PV} {ds:List SD} (h:ch B cs qs) (hd:uD cs=some ds) : qs.mapM toD=some (ds.map SD.toD):=by
 induction cs generalizing qs ds with
 | nil =>
  rcases h.cases with ⟨_,rfl⟩ | ⟨_,_,_,_,h1,_⟩
  ·injection hd with hd; subst hd; rfl
  ·cases h1
 | cons c cs ih =>
  rcases h.cases with ⟨h1,_⟩ | ⟨c',q,cs',qs',h1,rfl,h2,h3⟩
  ·cases h1
  ·injection h1 with e1 e2
   subst e1 e2
   simp only [uD] at hd
   split at hd
   ·rename_i d ds' k1 k2
    injection hd with hd
    subst hd
    have:=ih h3 k2
    unfold abe at k1
    split at k1
    ·injection k1 with k1
     subst k1
     cases h2 with
     | d _ y hy=>simp [List.mapM_cons,toD,hy.nrm,this]
    ·cases k1
   ·cases hd
theorem Bv:∀ {cs:List SV} {ds:List SD},uD cs=some ds→cs.length=ds.length
 | [],ds,h=>by injection h with h; subst h; rfl
 | c::cs,ds,h=>by
  simp only [uD] at h
  split at h
  ·rename_i d ds' k1 k2
   injection h with h
   subst h
   simp [Bv k2]
  ·cases h
theorem ni:∀ (l:List (Nat×Pin)) (i:Nat),lkP (xl l) i=(lkP l i).map fun pin=>⟨pin.i,none⟩
 | [],_=>rfl
 | (j,⟨n,cs⟩)::l,i=>by simp only [xl,sK,ni l i]; split <;> rfl
theorem Uf (hs:Sim s p) {dst:Option Nat} (hd:dst=none) {t:TypeId} {v w:SV} {q r:PV} {k:SV→Upd→Option ρ} {res : ρ} (hv:bf s.bx v q) (hw:bf s.bx w r) (h:PP P s t v w k=some res) :
  PA s p dst k res ((lR P p.b t q r).map fun u=>(.junk,some u)):=by
 unfold PP at h
 split at h
 ·rename_i i ns hi hns
  obtain ⟨ws,hws,hcs⟩:=B7 hw hns
  split at h
  ·rename_i x off
   cases hv
   split at h
   ·rename_i ty cs hb
    obtain ⟨h1,h2⟩:=aq h
    obtain ⟨h2,h3⟩:=aq h2
    obtain ⟨h3,h4⟩:=aq h3
    have h1:ns.length=i.size:=by simpa using h1
    have h2:=zd h2
    obtain ⟨hro,h3⟩:=yP h3
    have hbx:=hs.bx x
    rw [hb] at hbx
    obtain ⟨qs,hq1,hq2⟩:=hbx
    have l1:=hcs.len
    have l2:=hq2.len
    refine ⟨_,_,.junk,some (x,.st ty (splice qs off ws)),?_,h4,?_,⟨h3,fun ty2 cs2 h=>?_⟩,Qf hro⟩
    ·simp only [lR,hi,hws,hq1]
     rw [if_pos ⟨by omega,by omega⟩]
     rfl
    ·refine pu hs (QX hb) (fun _=>⟨_,rfl,?_⟩) (.junk _)
     rw [mY cs off ns h2]
     exact (hq2.splice hcs off).mono (QX hb)
    ·rw [hb] at h
     injection h with h
     injection h with e1 e2
     subst e1 e2
     refine ⟨_,rfl,?_⟩
     rw [mY cs off ns h2]
     unfold splice
     simp
     omega
   ·cases h
  ·rename_i x pi off
   split at h
   ·rename_i e kk ty xs pins ds hb hds
    split at h
    ·rename_i j cs0 hp
     obtain ⟨h1,h2⟩:=aq h
     obtain ⟨h2,h3⟩:=aq h2
     obtain ⟨h3,h4⟩:=aq h3
     have h1:ns.length=i.size:=by simpa using h1
     have h2:=zd h2
     obtain ⟨hro,h3⟩:=yP h3
     split at h4
     ·rename_i cs' hcs'
      split at h4
      ·rename_i y hy
       have hbx:=hs.bx x
       rw [hb] at hbx
       obtain ⟨hbx,hpins⟩:=hbx
       obtain ⟨k1,k2⟩:=hpins pi _ hp
       have hy2:=Lq hy
       cases hv with
       | re _ _ _ n i2 e2 k2' ty2 xs2 pins2 pin2 hb2 hn2 hp2 hi2 =>
        rw [hb] at hb2
        injection hb2 with hb2
        injection hb2 with e1 e2 e3 e4 e5
        subst e3
        have e4:=eq_of_heq e4
        subst e4 e5 hn2
        rw [hp] at hp2
        injection hp2 with hp2
        subst hp2
        simp only at hi2 k1 k2
        subst hi2
        obtain ⟨x0,hx0⟩ : ∃ x0,xs[j.toNat]? = some x0:=⟨xs[j.toNat],by simp [k1]⟩
        have hds':ws.mapM toD=some (ds.map SD.toD):=wn hcs hds
        have hlen0:(bK ty x0).length=tyN ty:=lQ ty x0
        have hsp:splice (bK ty x0) off (ds.map SD.toD)=bK ty y:=by
         split at hcs'
         ·rename_i hfull
          injection hcs' with hcs'
          subst hcs'
          have h0:off=0:=by omega
          subst h0
          rw [← hy2]
          have:(ds.map SD.toD).length=(bK ty x0).length:=by simp [hfull,hlen0]
          simp [splice,this]
         ·cases cs0 with
          | none=>cases hcs'
          | some cs0 =>
           injection hcs' with hcs'
           obtain ⟨x1,h7,h8⟩:=k2 cs0 rfl
           rw [hx0] at h7
           injection h7 with h7
           subst h7
           have h9:cs0.length=tyN ty:=by
            have:=Em ty x0
            rw [← h8] at this
            have:=congrArg List.length this
            simpa [hlen0] using this
           rw [← hy2,← hcs']
           show _ = List.map SD.toD (nQ cs0 off ds)
           rw [mY cs0 off ds (by omega),xP,h8,Em]
        have hble:BLe s.bx ((x,some (.rw e kk ty (xs.set j.toNat y) ((pi,⟨j,some (BT ty y)⟩)::xl pins)))::s.bx):=QY hb (by simp) (fun p2 pin2 hp2=>by
         rw [sK]
         by_cases e:p2=pi
         ·subst e
          rw [hp] at hp2
          injection hp2 with hp2
          subst hp2
          exact ⟨_,if_pos rfl,rfl⟩
         ·rw [if_neg e,ni,hp2]
          exact ⟨_,rfl,rfl⟩)
        refine ⟨_,_,.junk,some (x,.rw e kk ((xs.map (bK ty)).set j.toNat (splice (bK ty x0) off (ds.map SD.toD)))),?_,h4,?_,⟨h3,fun ty2 cs2 h=>by rw [hb] at h; cases h⟩,Qf hro⟩
        ·have hl2:(ds.map SD.toD).length=i.size:=by rw [List.length_map,← Bv hds]; exact h1
         have hl3:off + (ds.map SD.toD).length≤(bK ty x0).length:=by rw [hlen0,List.length_map]; exact h2
         simp only [lR,hi,hws,hbx,hds',List.getElem?_map,hx0,Option.map_some,List.length_map]
         rw [List.length_map] at hl2 hl3
         rw [if_pos ⟨trivial,hl2,hl3⟩]
         rfl
        ·rw [hsp,← List.map_set]
         refine pu hs hble (fun _=>⟨rfl,fun p2 pin2 hp2=>?_⟩) (.junk _)
         rw [sK] at hp2
         split at hp2
         ·injection hp2 with hp2
          subst hp2
          exact ⟨by simpa using k1,fun cs hc=>⟨y,by simp [k1],by injection hc with hc; exact hc.symm⟩⟩
         ·rw [ni,zm] at hp2
          obtain ⟨pin3,h7,rfl⟩:=hp2
          exact ⟨by simpa using (hpins p2 pin3 h7).1,fun cs hc=>by cases hc⟩
      ·cases h4
     ·cases h4
    ·cases h
   ·cases h
  ·cases h
 ·cases h
end
section
variable {B:List (Nat×Option aY)} {s:SS} {p:PS} {P:Program} {ρ : Type}
theorem Gb (hs:Sim s p) (place:Nat→Option (Nat×Nat)) : ∀ {l:List (Nat×Operand)} {cs cs':List SV} {qs:List PV},ch s.bx cs qs→NR place cs (xX s l)=some cs'→∃ qs',Gc place qs (l.map fun (i,x)=>(i,ev p x))=some qs'∧ch s.bx cs' qs'
 | [],cs,cs',qs,h,hf=>by injection hf with hf; subst hf; exact ⟨qs,rfl,h⟩
 | (i,x)::l,cs,cs',qs,h,hf=>by
  simp only [xX,NR] at hf
  split at hf
  ·rename_i off size ns h1 h2
   obtain ⟨h3,h4⟩:=aq hf
   obtain ⟨h4,h5⟩:=aq h4
   obtain ⟨ws,h6,h7⟩:=B7 (cf hs x) h2
   replace h3:ns.length=size:=by simpa using h3
   replace h4:=zd h4
   rw [mY cs off ns h4] at h5
   obtain ⟨qs',h8,h9⟩:=Gb hs place (h.splice h7 off) h5
   refine ⟨qs',?_,h9⟩
   have l1:=h7.len
   have l2:=h.len
   simp only [List.map_cons,Gc,h1,h6]
   rw [if_pos ⟨by omega,by omega⟩]
   exact h8
  ·cases hf
theorem wj {i:TI} {z:List SV} (h:EC i=some z) : ch B z (pZ i):=(yw h).1
theorem M2 {cs:List SV} {qs:List PV} (h:ch B cs qs) : ∀ n,ch B (Xb n cs) (List.replicate n qs).flatten
 | 0=>.nil
 | n + 1=>by rw [List.replicate_succ,List.flatten_cons]; exact h.append (M2 h n)
theorem JX (k:Nat) : ∀ (n:Nat) (l:List SD),(LI k n l).map (List.map SD.toD)=ta k n (l.map SD.toD)
 | 0,_=>rfl
 | n + 1,l=>by simp only [LI,ta,List.map_cons,List.map_take,JX k n,List.map_drop]
theorem JV {t:Ty} : ∀ {l:List (List SD)} {xs:List t.den},Lu t l=some xs→l.map (List.map SD.toD)=xs.map (bK t)
 | [],xs,h=>by injection h with h; subst h; rfl
 | c::l,xs,h=>by
  simp only [Lu] at h
  split at h
  ·rename_i x xs' h1 h2
   injection h with h
   subst h
   simp only [List.map_cons,Lq h1,JV h2]
  ·cases h
theorem GW (hs:Sim s p) {dst:Option Nat} {t:TypeId} {n:Nat} {l:List (Nat×Operand)} {k:SV→Upd→Option ρ} {res : ρ} (h:vD P s dst t n (xX s l) k=some res) :
  PA s p dst k res (iK P p.b dst t n (l.map fun (i,x)=>(i,ev p x))):=by
 unfold vD at h
 split at h
 ·rename_i d e hu
  split at h
  ·rename_i i ty hi hb hty
   split at h
   ·rename_i z hz
    have h1:=(aq h).1
    replace h:=(aq h).2
    have h2:=(aq h).1
    replace h:=(aq h).2
    have h3:=(aq h).1
    replace h:=(aq h).2
    have h4:=(aq h).1
    replace h:=(aq h).2
    replace h1:=zd h1
    replace h2:=zd h2
    replace h3:=zd h3
    obtain ⟨hfr,h4⟩:=ng h4
    split at h
    ·rename_i cs hcs
     split at h
     ·rename_i ds hds
      split at h
      ·rename_i xs hxs
       obtain ⟨h5,h6⟩:=aq h
       obtain ⟨qs,h7,h8⟩:=Gb hs _ (M2 (wj (B:=s.bx) hz) n) hcs
       have h9:=wn h8 hds
       have hbd:p.b d=none:=by have:=hs.bx d; rw [hb] at this; exact this hfr
       have hch:ta i.size n (ds.map SD.toD)=xs.map (bK ty):=by rw [← JX,JV hxs]
       have hlen:xs.length=n:=by
        have:=congrArg List.length hch
        rw [B6,List.length_map] at this
        exact this.symm
       refine ⟨_,_,.row d n,some (d,.rw e i.size (xs.map (bK ty))),?_,h6,?_,⟨h4,hb⟩,zj hb rfl⟩
       ·simp only [iK,hu,hi,hbd]
        rw [if_pos ⟨h1,h2,h3⟩]
        simp only [h7,h9,hch]
       ·exact pu hs (rJ hb) (fun _=>⟨rfl,fun p pin hp=>by cases hp⟩) (.row d n e i.size ty xs [] (by rw [au,if_pos rfl]) hlen)
      ·cases h
     ·cases h
    ·cases h
   ·cases h
  ·cases h
 ·cases h
theorem J8 {α : Type} {l m z:List α} (h:aP l m=some z) : l.length + m.length≤1000000∧z=l++m:=by
 unfold aP at h
 split at h
 ·rename_i hl; injection h with h; exact ⟨hl,h.symm⟩
 ·cases h
theorem J2 {t:Ty} (h:t=t) (xs:List t.den) : zG h xs=xs:=rfl
theorem Q0 (hs:Sim s p) {dst:Option Nat} {t:TypeId} {v w:SV} {q r:PV} {k:SV→Upd→Option ρ} {res : ρ} (hv:bf s.bx v q) (hw:bf s.bx w r) (h:LU P s dst t v w k=some res) :
  PA s p dst k res (jC P p.b dst t q r)∧True:=by
 refine ⟨?_,trivial⟩
 unfold LU at h
 split at h
 ·rename_i e ty ys hu hdw
  have hr:=Lw hs hw hdw
  split at h
  ·rename_i i hi
   have h1:=(aq h).1
   replace h:=(aq h).2
   have h2:=(aq h).1
   replace h:=(aq h).2
   have h3:=(aq h).1
   replace h:=(aq h).2
   have h4:=(aq h).1
   replace h:=(aq h).2
   replace h1:=zd h1
   replace h2:=zd h2
   replace h3:=zd h3
   replace h4:tyN ty=i.size:=by simpa using h4
   have hla:yb i.size (ys.map (bK ty)):=by
    intro x hx
    obtain ⟨y,_,rfl⟩:=List.mem_map.1 hx
    rw [lQ,h4]
   have sm:∀ n,n≤1000000→small n i.bytes:=fun n hn=>by
    unfold small
    exact Nat.le_trans (Nat.mul_le_mul hn h3) (by decide)
   split at h
   ·rename_i x
    split at h
    ·rename_i e' kk ty' xs pins hb
     split at h
     ·rename_i hty hsame
      obtain rfl:=hty
      have h5:=(aq h).1
      replace h:=(aq h).2
      have h6:=(aq h).1
      replace h:=(aq h).2
      have h7:=(aq h).1
      replace h:=(aq h).2
      replace h5:e' = e:=by simpa using h5
      replace h6:kk=i.size:=by simpa using h6
      obtain ⟨hfr,h7⟩:=yP h7
      obtain ⟨zs,h8,h9⟩:=cQ h
      rw [J2] at h8
      obtain ⟨h10,rfl⟩:=J8 h8
      have hbx:=hs.bx x
      rw [hb] at hbx
      obtain ⟨hbx,_⟩:=hbx
      cases hv with
      | row _ n e2 k2 ty2 xs2 pins2 hb2 hn2 =>
       rw [hb] at hb2
       injection hb2 with hb2
       injection hb2 with q1 q2 q3 q4 q5
       subst q3
       have q4:=eq_of_heq q4
       subst q4 hn2
       refine ⟨_,_,.row x (xs.length + ys.length),some (x,.rw e' kk (xs.map (bK ty)++ys.map (bK ty))),?_,h9,?_,⟨h7,fun ty2 cs2 h=>by rw [hb] at h; cases h⟩,abk hfr⟩
       ·simp only [jC,hu,hr,hi,hbx]
        rw [if_pos ⟨h1,h2,hla⟩,if_pos ⟨by simp,h5,h6,by simpa using sm _ h10⟩]
        simp [h5]
       ·rw [← List.map_append]
        exact W3 hs hb (.row x _ e' kk ty (xs++ys) [] (by rw [au,if_pos rfl]) (by simp))
     ·cases h
    ·cases h
   ·obtain rfl:=SP hv
    split at h
    ·rename_i d
     split at h
     ·rename_i hb
      have h7:=(aq h).1
      replace h:=(aq h).2
      obtain ⟨hfr,h7⟩:=ng h7
      obtain ⟨zs,h8,h9⟩:=cQ h
      obtain ⟨h10,rfl⟩:=J8 h8
      have hbd:p.b d=none:=by have:=hs.bx d; rw [hb] at this; exact this hfr
      refine ⟨_,_,.row d zs.length,some (d,.rw e i.size (zs.map (bK ty))),?_,h9,?_,⟨h7,hb⟩,zj hb rfl⟩
      ·simp only [jC,hu,hr,hi,hbd]
       rw [if_pos ⟨h1,h2,hla⟩,if_pos ⟨trivial,trivial⟩,if_pos (by simpa using sm _ (by simpa using h10))]
       simp
      ·exact pu hs (rJ hb) (fun _=>⟨rfl,fun p pin hp=>by cases hp⟩) (.row d _ e i.size ty _ [] (by rw [au,if_pos rfl]) (by simp))
     ·cases h
    ·cases h
   ·cases h
  ·cases h
 ·cases h
theorem Uh (hs:Sim s p) {t:TypeId} {v:SV} {q:PV} {lo hi:Option Operand} {k:SV→Option ρ} {res : ρ} (hv:bf s.bx v q) (h:PR P s t v (lo.map (evX s)) (hi.map (evX s)) k=some res) : yO s k res (eE P p.b t q (lo.map (ev p)) (hi.map (ev p))):=by
 have int:∀ {x:Operand} {i:Int},BM (evX s x)=some i→∃ kd,ev p x = .d (.v (.int kd i)):=fun {x i} h=>UR (cf hs x) h
 unfold PR at h
 split at h
 ·rename_i e ty xs hu
  have hq:ln p.b q=some (xs.map (bK ty))∧∃ y,q = .d y:=by
   rcases SO hv with rfl | ⟨rfl,rfl⟩
   ·exact ⟨rfl,_,rfl⟩
   ·exact ⟨by simp [ln],_,rfl⟩
  obtain ⟨hq,y,rfl⟩:=hq
  split at h
  ·rename_i i hi'
   have h1:=(aq h).1
   replace h:=(aq h).2
   replace h1:tyN ty=i.size:=by simpa using h1
   have hla:yb i.size (xs.map (bK ty)):=by
    intro x hx
    obtain ⟨y,_,rfl⟩:=List.mem_map.1 hx
    rw [lQ,h1]
   split at h
   ·rename_i hl hh
    rw [Option.map_eq_none_iff] at hl hh
    subst hl hh
    refine dA ?_ h (PF ty xs)
    simp only [eE,hu,hi',hq,Option.map_none,wY]
    rw [if_pos ⟨Nat.zero_le _,Nat.le_refl _,hla⟩]
    simp [List.take_of_length_le]
   ·rename_i l hl hh
    rw [Option.map_eq_none_iff] at hh
    rw [zm] at hl
    obtain ⟨lo,rfl,rfl⟩:=hl
    subst hh
    split at h
    ·rename_i li hli
     obtain ⟨kd,hkd⟩:=int hli
     obtain ⟨z,h2,h3⟩:=cQ h
     unfold loO at h2
     split at h2
     ·rename_i hc
      injection h2 with h2
      subst h2
      refine dA ?_ h3 (PF ty _)
      simp only [eE,hu,hi',hq,Option.map_none,Option.map_some,hkd,lJ rfl hc.1]
      simp only [wY,List.length_map]
      rw [if_pos ⟨hc.2,Nat.le_refl _,hla⟩]
      rw [← List.map_drop,← List.map_take,List.take_of_length_le (by simp)]
     ·cases h2
    ·cases h
   ·rename_i l hl hh
    rw [Option.map_eq_none_iff] at hl
    rw [zm] at hh
    obtain ⟨hi2,rfl,rfl⟩:=hh
    subst hl
    split at h
    ·rename_i li hli
     obtain ⟨kd,hkd⟩:=int hli
     obtain ⟨z,h2,h3⟩:=cQ h
     unfold hiO at h2
     split at h2
     ·rename_i hc
      injection h2 with h2
      subst h2
      refine dA ?_ h3 (PF ty _)
      simp only [eE,hu,hi',hq,Option.map_none,Option.map_some,hkd,lJ rfl hc.1]
      simp only [wY,List.length_map]
      rw [if_pos ⟨Nat.zero_le _,hc.2,hla⟩]
      simp
     ·cases h2
    ·cases h
   ·rename_i l l' hl hh
    rw [zm] at hl hh
    obtain ⟨lo,rfl,rfl⟩:=hl
    obtain ⟨hi2,rfl,rfl⟩:=hh
    split at h
    ·rename_i li hi3 hli hhi
     obtain ⟨kd,hkd⟩:=int hli
     obtain ⟨kd2,hkd2⟩:=int hhi
     obtain ⟨z,h2,h3⟩:=cQ h
     unfold lhO at h2
     split at h2
     ·rename_i hc
      injection h2 with h2
      subst h2
      refine dA ?_ h3 (PF ty _)
      simp only [eE,hu,hi',hq,Option.map_some,hkd,hkd2,lJ rfl hc.1,lJ rfl hc.2.1,List.length_map]
      rw [if_pos ⟨hc.2.2.1,hc.2.2.2,hla⟩]
      simp
     ·cases h2
    ·cases h
  ·cases h
 ·rename_i e x hu
  split at h
  ·rename_i i e' kk ty xs pins hi' hb
   have h1:=(aq h).1
   replace h:=(aq h).2
   replace h1:kk=i.size:=by simpa using h1
   have hbx:=hs.bx x
   rw [hb] at hbx
   obtain ⟨hbx,_⟩:=hbx
   have ox:∀ {o:Option Operand} {n:Nat} {l:Int},abj (o.map (evX s)) (n:Int)=some l→0≤l→wY (o.map (ev p)) n=some l.toNat:=by
    intro o n l ho h0
    cases o with
    | none=>injection ho with ho; subst ho; rfl
    | some y =>
     obtain ⟨kd,hkd⟩:=int (show BM (evX s y)=some l from ho)
     rw [Option.map_some,lJ hkd h0]
   cases hv with
   | row _ n e2 k2 ty2 xs2 pins2 hb2 hn2 =>
    rw [hb] at hb2
    injection hb2 with hb2
    injection hb2 with q1 q2 q3 q4 q5
    subst q3
    have q4:=eq_of_heq q4
    subst q4 hn2
    split at h
    ·rename_i l h' hl hh
     obtain ⟨_,h2,h3⟩:=cQ h
     unfold vwO at h2
     split at h2
     ·rename_i hc
      refine dA (q:=.vw x xs.length l.toNat h'.toNat) ?_ h3 (.vw x _ _ _ e' kk ty xs pins hb rfl)
      have hl':=ox (n:=0) hl hc.1
      have hh':=ox (n:=xs.length) hh hc.2.1
      simp only [eE,hu,hi',hbx,hl',hh',List.length_map]
      rw [if_pos ⟨trivial,h1,hc.2.2.1,hc.2.2.2⟩]
     ·cases h2
    ·cases h
  ·cases h
 ·rename_i x hu
  obtain rfl:=rN hv
  split at h
  ·rename_i l hl hh
   rw [Option.map_eq_none_iff] at hh
   rw [zm] at hl
   obtain ⟨lo,rfl,rfl⟩:=hl
   subst hh
   split at h
   ·rename_i li hli
    obtain ⟨kd,hkd⟩:=int hli
    obtain ⟨z,h2,h3⟩:=cQ h
    unfold Uk at h2
    split at h2
    ·rename_i hc
     injection h2 with h2
     subst h2
     refine dA ?_ h3 (xk _)
     simp only [eE,hu,asS,Option.map_none,Option.map_some,hkd,lJ rfl hc.1]
     simp only [wY]
     rw [if_pos ⟨hc.2,Nat.le_refl _⟩]
    ·cases h2
   ·cases h
  ·rename_i l hl hh
   rw [Option.map_eq_none_iff] at hl
   rw [zm] at hh
   obtain ⟨hi2,rfl,rfl⟩:=hh
   subst hl
   split at h
   ·rename_i li hli
    obtain ⟨kd,hkd⟩:=int hli
    obtain ⟨z,h2,h3⟩:=cQ h
    unfold Ij at h2
    split at h2
    ·rename_i hc
     injection h2 with h2
     subst h2
     refine dA ?_ h3 (xk _)
     simp only [eE,hu,asS,Option.map_none,Option.map_some,hkd,lJ rfl hc.1]
     simp only [wY]
     rw [if_pos ⟨Nat.zero_le _,hc.2⟩]
    ·cases h2
   ·cases h
  ·rename_i l l' hl hh
   rw [zm] at hl hh
   obtain ⟨lo,rfl,rfl⟩:=hl
   obtain ⟨hi2,rfl,rfl⟩:=hh
   split at h
   ·rename_i li hi3 hli hhi
    obtain ⟨kd,hkd⟩:=int hli
    obtain ⟨kd2,hkd2⟩:=int hhi
    obtain ⟨z,h2,h3⟩:=cQ h
    unfold KL at h2
    split at h2
    ·rename_i hc
     injection h2 with h2
     subst h2
     refine dA ?_ h3 (xk _)
     simp only [eE,hu,asS,Option.map_some,hkd,hkd2,lJ rfl hc.1,lJ rfl hc.2.1]
     rw [if_pos ⟨hc.2.2.1,hc.2.2.2⟩]
    ·cases h2
   ·cases h
  ·cases h
 ·cases h
theorem ZA (hs:Sim s p) {v:SV} {q:PV} {ty:Ty} {ys:List ty.den} (hv:bf s.bx v q) (h:abc s v=some (.sl ty ys)) : ln p.b q=some (ys.map (bK ty)):=by
 unfold abc at h
 split at h
 ·rename_i t lo hi
  split at h
  ·rename_i e kk ty2 xs pins hb
   injection h with h
   injection h with e1 e2
   subst e1
   have e2:=eq_of_heq e2
   subst e2
   have hbx:=hs.bx t
   rw [hb] at hbx
   obtain ⟨hbx,_⟩:=hbx
   cases hv with
   | vw _ _ _ n e2 k2 ty2 xs2 pins2 hb2 hn2 =>
    rw [hb] at hb2
    injection hb2 with hb2
    injection hb2 with q1 q2 q3 q4 q5
    subst q3
    have q4:=eq_of_heq q4
    subst q4 hn2
    simp only [ln,hbx,List.length_map,if_true]
    rw [← List.map_drop,← List.map_take]
  ·cases h
 ·exact Lw hs hv h
theorem Xm (hs:Sim s p) {v:SV} {q:PV} {x lo hi:Nat} {e kk:Nat} {ty:Ty} {xs:List ty.den} {pins:List (Nat×Pin)} (hb:lkB s.bx x=some (.rw e kk ty xs pins)) (hv:bf s.bx v q) (h:Xn s v=some (x,lo,hi)) : Tc q=some (x,xs.length,lo,hi):=by
 unfold Xn at h
 split at h
 ·rename_i t
  split at h
  ·rename_i e2 k2 ty2 xs2 pins2 hb2
   injection h with h
   injection h with q1 q2
   injection q2 with q2 q3
   subst q1 q2 q3
   cases hv with
   | row _ n e3 k3 ty3 xs3 pins3 hb3 hn3 =>
    rw [hb] at hb2 hb3
    injection hb2 with hb2
    injection hb2 with r1 r2 r3 r4 r5
    subst r3
    have r4:=eq_of_heq r4
    subst r4
    injection hb3 with hb3
    injection hb3 with r1 r2 r3 r4 r5
    subst r3
    have r4:=eq_of_heq r4
    subst r4 hn3
    rfl
  ·cases h
 ·injection h with h
  injection h with q1 q2
  injection q2 with q2 q3
  subst q1 q2 q3
  cases hv with
  | vw _ _ _ n e3 k3 ty3 xs3 pins3 hb3 hn3 =>
   rw [hb] at hb3
   injection hb3 with hb3
   injection hb3 with r1 r2 r3 r4 r5
   subst r3
   have r4:=eq_of_heq r4
   subst r4 hn3
   rfl
 ·cases h
theorem UJ {α β : Type} (f : α→β) (xs ys:List α) (lo:Nat) : (lG xs lo ys).map f=lG (xs.map f) lo (ys.map f):=by
 simp [lG,List.map_take,List.map_drop]
theorem Yv (hs:Sim s p) {dst:Option Nat} {t:TypeId} {v w:SV} {q r:PV} {k:SV→Upd→Option ρ} {res : ρ} (hv:bf s.bx v q) (hw:bf s.bx w r) (h:Yw P s t v w k=some res) :
  PA s p dst k res ((rH P p.b t q r).map fun r=>(r.1,some r.2)):=by
 unfold Yw at h
 split at h
 ·rename_i e ty ys x lo hi hu hsrc hpart
  split at h
  ·rename_i i e' kk ty' xs pins hi' hb
   split at h
   ·rename_i hty hsame
    obtain rfl:=hty
    have h1:=(aq h).1
    replace h:=(aq h).2
    have h2:=(aq h).1
    replace h:=(aq h).2
    have h3:=(aq h).1
    replace h:=(aq h).2
    replace h1:kk=i.size:=by simpa using h1
    replace h2:tyN ty=i.size:=by simpa using h2
    obtain ⟨hro,h3⟩:=yP h3
    obtain ⟨zs,h4,h5⟩:=cQ h
    rw [J2] at h4
    unfold sZ at h4
    split at h4
    ·rename_i hc
     injection h4 with h4
     subst h4
     have hbx:=hs.bx x
     rw [hb] at hbx
     obtain ⟨hbx,hpins⟩:=hbx
     have hr:=ZA hs hw hsrc
     have hp:=Xm hs hb hv hpart
     have hla:yb i.size (ys.map (bK ty)):=by
      intro x hx
      obtain ⟨y,_,rfl⟩:=List.mem_map.1 hx
      rw [lQ,h2]
     have hlen:(lG xs lo (ys.take (hi - lo))).length=xs.length:=Jd (by rw [List.length_take]; omega)
     have hble:BLe s.bx ((x,some (.rw e' kk ty (lG xs lo (ys.take (hi - lo))) (xl pins)))::s.bx):=QY hb hlen (fun p2 pin2 hp2=>by
      rw [ni,hp2]
      exact ⟨_,rfl,rfl⟩)
     refine ⟨_,_,.d (.v (.int .i64 (min ys.length (hi - lo) : Nat))),some (x,.rw e' kk ((lG xs lo (ys.take (hi - lo))).map (bK ty))),?_,h5,?_,⟨h3,fun ty2 cs2 h=>by rw [hb] at h; cases h⟩,Qf hro⟩
     ·simp only [rH,hu,hr,hp,hi',hbx,List.length_map]
      rw [if_pos ⟨trivial,h1,hla,hc.1,hc.2⟩,UJ,List.map_take]
      rfl
     ·refine pu hs hble (fun _=>⟨rfl,fun p2 pin2 hp2=>?_⟩) (fX _ _)
      rw [ni,zm] at hp2
      obtain ⟨pin3,h7,rfl⟩:=hp2
      exact ⟨by rw [hlen]; exact (hpins p2 pin3 h7).1,fun cs hc=>by cases hc⟩
    ·cases h4
   ·cases h
  ·cases h
 ·cases h
theorem ED:∀ (l:List Value),(l.map fun z=>PV.d (.v z)).mapM toD=some (l.map fun z=>nrm (.v z))
 | []=>rfl
 | z::l=>by simp only [List.map_cons,List.mapM_cons,ED l,toD]; rfl
theorem XD (hs:Sim s p) {dst:Option Nat} {t:TypeId} {x y:Operand} {k:SV→Upd→Option ρ} {res : ρ} (h:XE P s dst t (PZ x y) (evX s x) k=some res) :
  PA s p dst k res (wC P p.b dst t (ev p x) (ev p y)):=by
 unfold XE at h
 split at h
 ·rename_i d e kd n hu hx hsame
  have hpx:=cf hs x
  rw [hx] at hpx
  have hpx:=lq hpx
  have hpy:∃ kd',ev p y = .d (.v (.int kd' n)):=by
   unfold PZ at hsame
   split at hsame
   ·rename_i i j hq
    have:i=j:=by simpa using hsame
    subst this
    exact ⟨kd,hpx⟩
   ·rename_i k1 n1 k2 m1 hq
    have:n1=m1:=by simpa using hsame
    subst this
    have:ev p (.const (.int k1 n1)) = .d (.v (.int k1 n1)):=rfl
    rw [this] at hpx
    injection hpx with hpx
    injection hpx with hpx
    injection hpx with q1 q2
    subst q2
    exact ⟨k2,rfl⟩
   ·cases hsame
  obtain ⟨kd',hpy⟩:=hpy
  split at h
  ·rename_i i ty hi hb hty
   split at h
   ·rename_i z hz
    split at h
    ·rename_i ds hds
     split at h
     ·rename_i z0 hz0
      have h1:=(aq h).1
      replace h:=(aq h).2
      have h2:=(aq h).1
      replace h:=(aq h).2
      have h3:=(aq h).1
      replace h:=(aq h).2
      have h4:=(aq h).1
      replace h:=(aq h).2
      replace h1:=zd h1
      replace h2:=zd h2
      obtain ⟨hfr,h4⟩:=ng h4
      obtain ⟨xs,h5,h6⟩:=cQ h
      unfold mkO at h5
      split at h5
      ·rename_i hc
       injection h5 with h5
       subst h5
       have hbd:p.b d=none:=by have:=hs.bx d; rw [hb] at this; exact this hfr
       have e1:(i.zero.map fun z=>nrm (.v z))=bK ty z0:=by
        have h7:=wn (wj (B:=s.bx) hz) hds
        rw [show pZ i=i.zero.map (fun z=>PV.d (.v z)) from rfl,ED] at h7
        injection h7 with h7
        rw [h7]; exact Lq hz0
       refine ⟨_,_,.row d n.toNat,some (d,.rw e i.size ((List.replicate n.toNat z0).map (bK ty))),?_,h6,?_,⟨h4,hb⟩,zj hb rfl⟩
       ·simp only [wC,hu,hpx,hpy,asI,hi,hbd]
        rw [if_pos ⟨trivial,hc.1,hc.2,h1,h2⟩,List.map_replicate,e1]
       ·exact pu hs (rJ hb) (fun _=>⟨rfl,fun p pin hp=>by cases hp⟩) (.row d _ e i.size ty _ [] (by rw [au,if_pos rfl]) (by simp))
      ·cases h5
     ·cases h
    ·cases h
   ·cases h
  ·cases h
 ·cases h
theorem BG (mx:Bool) : ∀ (l:List SV) (v w:SV) (q:PV) (qs:List PV),bf B v q→ch B l qs→zl mx v l=some w→∃ r,(match mx with | true=>tY q qs | false=>tX q qs)=some r∧bf B w r
 | [],v,w,q,qs,hv,hl,h=>by
  rcases hl.cases with ⟨_,rfl⟩ | ⟨_,_,_,_,h1,_⟩
  ·have:v=w:=by cases v <;> (injection h)
   subst this
   exact ⟨q,by cases mx <;> rfl,hv⟩
  ·cases h1
 | u::l,v,w,q,qs,hv,hl,h=>by
  rcases hl.cases with ⟨h1,_⟩ | ⟨u',r,l',qs',h1,rfl,h2,h3⟩
  ·cases h1
  ·injection h1 with e1 e2
   subst e1 e2
   unfold zl at h
   split at h
   ·rename_i heq; cases heq
   ·rename_i k x k' y l2 heq
    injection heq with e1 e2
    subst e1 e2
    obtain rfl:=lq hv
    obtain rfl:=lq h2
    obtain ⟨r',h4,h5⟩:=BG mx l _ w _ qs' (fX _ _) h3 h
    refine ⟨r',?_,h5⟩
    cases mx
    ·simp only [tX,Gn,asI]; exact h4
    ·simp only [tY,Gq,asI]; exact h4
   ·cases h
theorem Z4 (hs:Sim s p) {t:TypeId} {v:SV} {q:PV} {k:SV→Option ρ} {res : ρ} (hv:bf s.bx v q) (h:abp P s t v k=some res) : yO s k res (vx P t q):=by
 unfold abp at h
 split at h
 ·rename_i e hu
  split at h
  ·rename_i ty xs hd
   refine dA ?_ h (fX _ _)
   have:Qk q=some xs.length:=by
    unfold sY at hd
    split at hd
    ·injection hd with hd
     subst hd
     rcases SO hv with rfl | ⟨rfl,rfl⟩
     ·simp [Qk]
     ·rfl
    ·obtain ⟨e,k,ty2,xs2,pins,h1,h2,rfl,h4⟩:=KN hs hv hd
     injection h2 with e1 e2
     subst e1
     have e2:=eq_of_heq e2
     subst e2
     rfl
    ·cases hd
   simp [vx,hu,this]
  ·rename_i hd
   obtain rfl:=aat hv hd
   exact dA (by simp [vx,hu,Qk]) h (fX _ _)
  ·split at h
   ·cases hv
    exact dA (by simp [vx,hu,Qk]) h (fX _ _)
   ·cases h
 ·rename_i hu
  split at h
  ·obtain rfl:=rN hv
   exact dA (by simp [vx,hu,asS]) h (fX _ _)
  ·cases h
 ·cases h
end
section
mutual
def rr:PV→PV
 | .d x=>.d (nrm x)
 | .ag cs=>.ag (dQ cs)
 | .tup cs=>.tup (dQ cs)
 | .fn f ps qs=>.fn f (dQ ps) (dQ qs)
 | p=>p
def dQ:List PV→List PV
 | []=>[]
 | c::cs=>rr c::dQ cs
end
def sJ:Box→Box
 | .st ty cs=>.st ty (dQ cs)
 | b=>b
theorem gb:∀ cs:List PV,(dQ cs).length=cs.length
 | []=>rfl
 | c::cs=>by simp [dQ,gb cs]
theorem kZ:∀ (cs:List PV) (j:Nat) (c:PV),(dQ cs)[j]? = some c→∃ d,cs[j]? = some d∧c=rr d
 | [],j,c,h=>by simp [dQ] at h
 | d::cs,0,c,h=>by simp [dQ] at h; exact ⟨d,rfl,h.symm⟩
 | d::cs,j + 1,c,h=>by simp [dQ] at h; simpa using kZ cs j c h
section
variable {P:Program} {ρ ρ' ρ2:Nat→Value} {b b' b2:Nat→Option Box} {w w':World} {w0:WM} {F F' F0:Nat→Prop} {n:Nat} {σ τ : Nat→Nat}
theorem aJ.nrmd {x:Value} {p:PV} (h:aJ ρ b w F x p) : aJ ρ b w F x (rr p):=by
 induction h with
 | junk x=>exact .junk x
 | d x d h=>exact .d x _ h.nrm
 | ag xs cs hl h1 hr ih=>exact .ag xs _ (by rw [gb]; exact hl) h1 (fun j x c h2 h3=>by obtain ⟨d,h4,rfl⟩:=kZ cs j c h3; exact ih j x d h2 h4)
 | tup xs cs hl hr ih=>exact .tup xs _ (by rw [gb]; exact hl) (fun j x c h2 h3=>by obtain ⟨d,h4,rfl⟩:=kZ cs j c h3; exact ih j x d h2 h4)
 | ptr t off g ty cs hb hρ=>exact .ptr t off g ty cs hb hρ
 | row t n A c e k es hb hn hc hA hρ=>exact .row t n A c e k es hb hn hc hA hρ
 | re t n i off a e k es hb hn hi hρ=>exact .re t n i off a e k es hb hn hi hρ
 | vw t n lo hi A m c e k es hb hn hl hh hm hρ=>exact .vw t n lo hi A m c e k es hb hn hl hh hm hρ
 | fe a cs us hF hcell hrep=>exact .fe a cs us hF hcell hrep
 | fn f xs ys ps qs hl hr hl2 hr2 ih ih2 =>
  exact .fn f xs ys _ _ (by rw [gb]; exact hl) (fun j x c h2 h3=>by obtain ⟨d,h4,rfl⟩:=kZ ps j c h3; exact ih j x d h2 h4)
   (by rw [gb]; exact hl2) (fun j x c h2 h3=>by obtain ⟨d,h4,rfl⟩:=kZ qs j c h3; exact ih2 j x d h2 h4)
end
mutual
def mL (σ : Nat→Nat) : PV→PV
 | .ptr t o=>.ptr (σ t) o
 | .row t n=>.row (σ t) n
 | .re t n i o=>.re (σ t) n i o
 | .vw t n i o=>.vw (σ t) n i o
 | .ag cs=>.ag (fm σ cs)
 | .tup cs=>.tup (fm σ cs)
 | .fn f ps qs=>.fn f (fm σ ps) (fm σ qs)
 | p=>p
def fm (σ : Nat→Nat) : List PV→List PV
 | []=>[]
 | c::cs=>mL σ c::fm σ cs
end
def wX (σ : Nat→Nat) : Box→Box
 | .st ty cs=>.st ty (fm σ cs)
 | b=>b
def M5:Box→List Nat
 | .st _ cs=>bO cs
 | .rw ..=>[]
def mJ (σ : Nat→Nat) : BU→BU
 | []=>[]
 | (t,B)::l=>(σ t,wX σ B)::mJ σ l
def ca:BU→List Nat
 | []=>[]
 | (t,_)::l=>t::ca l
theorem kY (σ : Nat→Nat) : ∀ cs:List PV,(fm σ cs).length=cs.length
 | []=>rfl
 | c::cs=>by simp [fm,kY σ cs]
theorem na (σ : Nat→Nat) : ∀ (cs:List PV) (j:Nat) (c:PV),(fm σ cs)[j]? = some c→∃ d,cs[j]? = some d∧c=mL σ d
 | [],j,c,h=>by simp [fm] at h
 | d::cs,0,c,h=>by simp [fm] at h; exact ⟨d,rfl,h.symm⟩
 | d::cs,j + 1,c,h=>by simp [fm] at h; simpa using na σ cs j c h
theorem dU {t:Nat} : ∀ {cs:List PV} {j:Nat} {c:PV},cs[j]? = some c→t∈bg c→t∈bO cs
 | [],j,c,h,_=>by simp at h
 | d::cs,0,c,h,ht=>by simp at h; subst h; simp [bO,ht]
 | d::cs,j + 1,c,h,ht=>by simp [bO]; exact .inr (dU (by simpa using h) ht)
theorem cT:∀ {l:BU} {t:Nat},t∈ca l↔∃ B,lkU l t=some B
 | [],t=>by simp [ca,lkU]
 | (j,B)::l,t=>by
  simp only [ca,List.mem_cons,lkU]
  by_cases h:t=j
  ·subst h; simp
  ·simp only [h,false_or,if_false]; exact cT
mutual
theorem M3 (σ : Nat→Nat) : ∀ p:PV,bg (mL σ p)=(bg p).map σ
 | .junk=>rfl
 | .d _=>rfl
 | .ptr _ _=>rfl
 | .row _ _=>rfl
 | .re _ _ _ _=>rfl
 | .vw _ _ _ _=>rfl
 | .fe _=>rfl
 | .ag cs=>by simp only [mL,bg,pN σ cs]
 | .tup cs=>by simp only [mL,bg,pN σ cs]
 | .fn f ps qs=>by simp only [mL,bg,pN σ ps,pN σ qs,List.map_append]
theorem pN (σ : Nat→Nat) : ∀ cs:List PV,bO (fm σ cs)=(bO cs).map σ
 | []=>rfl
 | c::cs=>by simp only [fm,bO,M3 σ c,pN σ cs,List.map_append]
end
mutual
theorem S7 {σ τ : Nat→Nat} : ∀ (p:PV),(∀ t∈bg p,σ (τ t)=t)→mL σ (mL τ p)=p
 | .junk,_=>rfl
 | .d _,_=>rfl
 | .ptr t o,h=>by simp only [mL]; rw [h t (by simp [bg])]
 | .row t o,h=>by simp only [mL]; rw [h t (by simp [bg])]
 | .re t _ _ _,h=>by simp only [mL]; rw [h t (by simp [bg])]
 | .vw t _ _ _,h=>by simp only [mL]; rw [h t (by simp [bg])]
 | .fe _,_=>rfl
 | .ag cs,h=>by simp only [mL]; rw [sH cs h]
 | .tup cs,h=>by simp only [mL]; rw [sH cs h]
 | .fn f ps qs,h=>by simp only [mL]; rw [sH ps (fun t ht=>h t (by simp [bg,ht])),sH qs (fun t ht=>h t (by simp [bg,ht]))]
theorem sH {σ τ : Nat→Nat} : ∀ (cs:List PV),(∀ t∈bO cs,σ (τ t)=t)→fm σ (fm τ cs)=cs
 | [],_=>rfl
 | c::cs,h=>by simp only [fm]; rw [S7 c (fun t ht=>h t (by simp [bO,ht])),sH cs (fun t ht=>h t (by simp [bO,ht]))]
end
theorem Eh {σ : Nat→Nat} : ∀ {l:BU} {t:Nat} {B:Box},(∀ s∈ca l,∀ s'∈ca l,σ s = σ s'→s=s')→lkU l t=some B→lkU (mJ σ l) (σ t)=some (wX σ B)
 | [],t,B,_,h=>by cases h
 | (j,C)::l,t,B,hinj,h=>by
  simp only [lkU] at h
  simp only [mJ,lkU]
  by_cases ht:t=j
  ·subst ht
   rw [if_pos rfl] at h
   injection h with h
   subst h
   rw [if_pos rfl]
  ·rw [if_neg ht] at h
   have hm:t∈ca l:=cT.2 ⟨B,h⟩
   rw [if_neg (fun e=>ht (hinj t (by simp [ca,hm]) j (by simp [ca]) e))]
   exact Eh (fun s hs s' hs' e=>hinj s (by simp [ca,hs]) s' (by simp [ca,hs']) e) h
theorem vm {σ : Nat→Nat} : ∀ {l:BU} {i:Nat} {B:Box},lkU (mJ σ l) i=some B→∃ t∈ca l,i = σ t
 | [],i,B,h=>by cases h
 | (j,C)::l,i,B,h=>by
  simp only [mJ,lkU] at h
  by_cases hi:i = σ j
  ·exact ⟨j,by simp [ca],hi⟩
  ·rw [if_neg hi] at h
   obtain ⟨t,h1,h2⟩:=vm h
   exact ⟨t,by simp [ca,h1],h2⟩
section
variable {P:Program} {ρ ρ' ρ2:Nat→Value} {b b' b2:Nat→Option Box} {w w':World} {w0:WM} {F F' F0:Nat→Prop} {n:Nat} {σ τ : Nat→Nat}
theorem aJ.ren {x:Value} {p:PV} (h:aJ ρ b w F x p) : (∀ t∈bg p,∀ B,b t=some B→b2 (σ t)=some (wX σ B)∧ρ2 (σ t) = ρ t)→aJ ρ2 b2 w F x (mL σ p):=by
 induction h with
 | junk x=>exact fun _=>.junk x
 | d x d h=>exact fun _=>.d x d h
 | ag xs cs hl h1 hr ih=>exact fun hc=>.ag xs _ (by rw [kY]; exact hl) h1 (fun j x c h2 h3=>by obtain ⟨d,h4,rfl⟩:=na σ cs j c h3; exact ih j x d h2 h4 (fun t ht=>hc t (dU h4 ht)))
 | tup xs cs hl hr ih=>exact fun hc=>.tup xs _ (by rw [kY]; exact hl) (fun j x c h2 h3=>by obtain ⟨d,h4,rfl⟩:=na σ cs j c h3; exact ih j x d h2 h4 (fun t ht=>hc t (dU h4 ht)))
 | ptr t off g ty cs hb hρ =>
  intro hc
  obtain ⟨h1,h2⟩:=hc t (by simp [bg]) _ hb
  exact .ptr _ off g ty _ h1 (h2.trans hρ)
 | row t n A c e k es hb hn hcc hA hρ =>
  intro hc
  obtain ⟨h1,h2⟩:=hc t (by simp [bg]) _ hb
  exact .row _ n A c e k es h1 hn hcc hA (fun h=>h2.trans (hρ h))
 | re t n i off a e k es hb hn hi hρ =>
  intro hc
  obtain ⟨h1,h2⟩:=hc t (by simp [bg]) _ hb
  exact .re _ n i off a e k es h1 hn hi (fun h=>by obtain ⟨g,c,h3,h4⟩:=hρ h; exact ⟨g,c,h2.trans h3,h4⟩)
 | vw t n lo hi A m c e k es hb hn hl hh hm hρ =>
  intro hc
  obtain ⟨h1,h2⟩:=hc t (by simp [bg]) _ hb
  exact .vw _ n lo hi A m c e k es h1 hn hl hh hm (fun h=>by obtain ⟨g,c,h3,h4⟩:=hρ h; exact ⟨g,c,h2.trans h3,h4⟩)
 | fe a cs us hF hcell hrep=>exact fun _=>.fe a cs us hF hcell hrep
 | fn f xs ys ps qs hl hr hl2 hr2 ih ih2 =>
  intro hc
  exact .fn f xs ys _ _ (by rw [kY]; exact hl) (fun j x c h2 h3=>by obtain ⟨d,h4,rfl⟩:=na σ ps j c h3; exact ih j x d h2 h4 (fun t ht=>hc t (by simp only [bg,List.mem_append]; exact .inl (dU h4 ht))))
   (by rw [kY]; exact hl2) (fun j x c h2 h3=>by obtain ⟨d,h4,rfl⟩:=na σ qs j c h3; exact ih2 j x d h2 h4 (fun t ht=>hc t (by simp only [bg,List.mem_append]; exact .inr (dU h4 ht))))
theorem jy.ren {own own':Nat→Prop} {t:Nat} {B:Box} (h:jy ρ b own w F t B) (hρ : ρ2 (σ t) = ρ t) (ho:∀ g,blk (ρ t)=some g→own' g) (hc:∀ t∈M5 B,∀ B,b t=some B→b2 (σ t)=some (wX σ B)∧ρ2 (σ t) = ρ t) : jy ρ2 b2 own' w F (σ t) (wX σ B):=by
 cases h with
 | st ty cs g xs hr0 hg hF0 hh hl h1 hr =>
  exact .st ty _ g xs (hρ.trans hr0) (ho g (by rw [hr0]; rfl)) hF0 hh (by rw [kY]; exact hl) h1 (fun j x c h2 h3=>by obtain ⟨d,h4,rfl⟩:=na σ cs j c h3; exact (hr j x d h2 h4).ren (fun t ht=>hc t (dU h4 ht)))
 | rw e k es xs hk0 h1 hF0 hk hl hr hown =>
  exact .rw e k es xs hk0 (by rw [hρ]; exact h1) (by rw [hρ]; exact hF0) hk hl hr (by rw [hρ]; exact ho)
 | gn e k es hr0=>exact .gn e k es (hρ.trans hr0)
theorem aJ.nb {x:Value} {p:PV} (h:aJ ρ b w F x p) : aJ ρ (fun i=>(b i).map sJ) w F x p:=by
 induction h with
 | junk x=>exact .junk x
 | d x d h=>exact .d x d h
 | ag xs cs hl h1 hr ih=>exact .ag xs _ hl h1 ih
 | tup xs cs hl hr ih=>exact .tup xs _ hl ih
 | ptr t off g ty cs hb hρ=>exact .ptr _ off g ty (dQ cs) (by rw [hb]; rfl) hρ
 | row t n A c e k es hb hn hcc hA hρ=>exact .row _ n A c e k es (by rw [hb]; rfl) hn hcc hA hρ
 | re t n i off a e k es hb hn hi hρ=>exact .re _ n i off a e k es (by rw [hb]; rfl) hn hi hρ
 | vw t n lo hi A m c e k es hb hn hl hh hm hρ=>exact .vw _ n lo hi A m c e k es (by rw [hb]; rfl) hn hl hh hm hρ
 | fe a cs us hF hcell hrep=>exact .fe a cs us hF hcell hrep
 | fn f xs ys ps qs hl hr hl2 hr2 ih ih2=>exact .fn f xs ys _ _ hl ih hl2 ih2
theorem jy.nb {own:Nat→Prop} {t:Nat} {B:Box} (h:jy ρ b own w F t B) : jy ρ (fun i=>(b i).map sJ) own w F t (sJ B):=by
 cases h with
 | st ty cs g xs hr0 hg hF0 hh hl h1 hr=>exact .st ty _ g xs hr0 hg hF0 hh (by rw [gb]; exact hl) h1 (fun j x c h2 h3=>by obtain ⟨d,h4,rfl⟩:=kZ cs j c h3; exact (hr j x d h2 h4).nb.nrmd)
 | rw e k es xs hk0 h1 hF0 hk hl hr hown=>exact .rw e k es xs hk0 h1 hF0 hk hl hr hown
 | gn e k es hr0=>exact .gn e k es hr0
def DB (ρ : Nat→Value) (b:Nat→Option Box) : Nat→Prop:=fun g=>∃ t B,b t=some B∧blk (ρ t)=some g
def FJ (bi:BU) (K:List Nat) : Nat→Option Box:=fun t=>if t∈K then lkU bi t else none
def PCm (P:Program) (f:FuncId) (args:List PV) (bi:BU) (K:List Nat) (Q:PV→BU→Prop) : Prop :=
 dH P f=true∧∀ (w:World) (F:Nat→Prop) (ρ : Nat→Value) (vs:Array Value),Inv ⟨w,DB ρ (lkU bi),fun _=>none⟩ F ρ (lkU bi) w F→cM ρ (lkU bi) w F vs.toList args →
  Calls P f vs w fun e w'=>∃ v ρ' F' r bo,Q r bo∧e = .returned v∧Inv ⟨w,DB ρ (lkU bi),fun _=>none⟩ F ρ' (lkU bo) w' F'∧Stp ρ (FJ bi K) w F ρ' (lkU bo) w' F'∧aJ ρ' (lkU bo) w' F' v r
def LA (l:BU) : Prop:=∀ t B,lkU l t=some B→∀ s∈M5 B,s∈ca l
structure ack (τi τ : Nat→Nat) (bi bo:BU) (K:List Nat) (u:BU) : Prop where
 out:∀ s B,lkU bo s=some B→lkU u (τ s)=some (wX τ B)
 gone:∀ s B,lkU bi s=some B→s ∉ K→∃ e k es es',B = .rw e k es∧lkU u (τi s)=some (.rw e k es')∧es.length < es'.length
 only:∀ i B,lkU u i=some B→(∃ s∈ca bo,i = τ s)∨(∃ s∈ca bi,s ∉ K∧i = τi s)
structure acm (τi τ : Nat→Nat) (bi bo:BU) (K:List Nat) : Prop where
 ii:∀ s∈ca bi,∀ s'∈ca bi,τi s = τi s'→s=s'
 oo:∀ s∈ca bo,∀ s'∈ca bo,τ s = τ s'→s=s'
 io:∀ s∈ca bi,∀ s'∈ca bo,τi s = τ s'→s=s'∧s∈K
 k:∀ s∈K,s∈ca bi∧s∈ca bo∧τi s = τ s
theorem YD {f:FuncId} {τi:Nat→Nat} {args args':List PV} {bi u:BU} {K N:List Nat} {Q:PV→BU→Prop} {r':PV} (h:PCm P f args bi K Q) (hii:∀ s∈ca bi,∀ s'∈ca bi,τi s = τi s'→s=s')
  (hQ:∀ r bo,Q r bo→∃ τ,acm τi τ bi bo K∧ack τi τ bi bo K u∧mL τ r=r'∧∀ s∈ca bo,s ∉ K→τ s∈N) (hnew:∀ t∈N,t < 1000000)
  (ha:∀ s∈bO args,s∈ca bi) (hargs:dQ args' = fm τi args) (hbi:LA bi)
  (w0:WM) (F0:Nat→Prop) (ρ : Nat→Value) (b:Nat→Option Box) (w:World) (F:Nat→Prop) (vs:Array Value) (hb:∀ s B,lkU bi s=some B→∃ B',b (τi s)=some B'∧sJ B' = wX τi B) (hbn:∀ t∈N,b t=none)
  (hi:Inv w0 F0 ρ b w F) (hv:cM ρ b w F vs.toList args') :
  Calls P f vs w fun e w'=>∃ v ρ' F',e = .returned v∧Inv w0 F0 ρ' (dD b u) w' F'∧Stp ρ b w F ρ' (dD b u) w' F'∧aJ ρ' (dD b u) w' F' v r':=by
 classical
 obtain ⟨_,hcall⟩:=h
 have mkσ : ∀ (τ : Nat→Nat) (dom:Nat→Prop),(∀ s,dom s→∀ s',dom s'→τ s = τ s'→s=s')→∃ σ : Nat→Nat,∀ s,dom s→σ (τ s)=s:=fun τ dom hinj=>by
  refine ⟨fun i=>if h:∃ s,dom s∧τ s=i then h.choose else i,fun s hs=>?_⟩
  have hex:∃ s',dom s'∧τ s' = τ s:=⟨s,hs,rfl⟩
  show (if h:∃ s',dom s'∧τ s' = τ s then h.choose else τ s)=s
  rw [dif_pos hex]
  exact hinj _ hex.choose_spec.1 s hs hex.choose_spec.2
 obtain ⟨σ,hσ⟩:=mkσ τi (fun s=>s∈ca bi) hii
 let ρ0:Nat→Value:=fun s=>ρ (τi s)
 let bn:Nat→Option Box:=fun i=>(b i).map sJ
 have hbt:∀ s B,lkU bi s=some B→bn (τi s)=some (wX τi B):=fun s B hs=>by
  obtain ⟨B',h1,h2⟩:=hb s B hs
  show (b (τi s)).map sJ = _
  rw [h1,← h2]; rfl
 have hdi:∀ {s B},lkU bi s=some B→s∈ca bi:=fun h=>cT.2 ⟨_,h⟩
 have hback:∀ s B,lkU bi s=some B→wX σ (wX τi B)=B:=fun s B hs=>by
  cases B with
  | st ty cs=>simp only [wX]; rw [sH cs (fun t ht=>hσ t (hbi s _ hs t ht))]
  | rw=>rfl
 have hgo:∀ s∈ca bi,∀ B',bn (τi s)=some B'→lkU bi (σ (τi s))=some (wX σ B')∧ρ0 (σ (τi s)) = ρ (τi s):=fun s hs B' hB'=>by
  obtain ⟨B,hB⟩:=cT.1 hs
  rw [hbt s B hB] at hB'
  injection hB' with hB'
  subst hB'
  rw [hσ s hs,hback s B hB]
  exact ⟨hB,rfl⟩
 have hin:∀ {x:Value} {p:PV},(∀ s∈bg p,s∈ca bi)→aJ ρ bn w F x (mL τi p)→aJ ρ0 (lkU bi) w F x p:=fun {x p} hp hx=>by
  have:=hx.ren (σ:=σ) (b2:=lkU bi) (ρ2:=ρ0) (fun t ht B hB=>by
   rw [M3] at ht
   obtain ⟨s,hs,rfl⟩:=List.mem_map.1 ht
   exact hgo s (hp s hs) B hB)
  rw [S7 p (fun t ht=>hσ t (hp t ht))] at this
  exact this
 have hown:∀ s B g,lkU bi s=some B→blk (ρ0 s)=some g→g < w.heap.size∧w0.own g∧¬ F g:=fun s B g hs hg=>by
  obtain ⟨B',h1,_⟩:=hb s B hs
  exact (hi.box _ _ h1).lt hg
 have hi0:Inv ⟨w,DB ρ0 (lkU bi),fun _=>none⟩ F ρ0 (lkU bi) w F:=by
  refine ⟨.of w rfl,fun _ h=>h,hi.flt,fun _ h=>.inl h,fun s B hs=>?_,fun s s' B B' g h1 h2 hne hg=>?_,fun t q h=>by cases h⟩
  ·obtain ⟨B1,h1,h2⟩:=hb s B hs
   have hbx:=(hi.box _ _ h1).nb
   rw [h2] at hbx
   have:=hbx.ren (σ:=σ) (ρ2:=ρ0) (b2:=lkU bi) (own':=WM.own ⟨w,DB ρ0 (lkU bi),fun _=>none⟩) (by show ρ (τi (σ (τi s))) = ρ (τi s); rw [hσ s (hdi hs)]) (fun g hg=>.inr ⟨s,B,hs,hg⟩) (fun t ht B' hB'=>by
    have ht:t∈(M5 B).map τi:=by
     cases B with
     | st ty cs=>show t∈(bO cs).map τi; rw [← pN]; exact ht
     | rw=>exact ht
    obtain ⟨s',hs',rfl⟩:=List.mem_map.1 ht
    exact hgo s' (hbi s B hs s' hs') B' hB')
   rw [hσ s (hdi hs),hback s B hs] at this
   exact this
  ·obtain ⟨B1,m1,_⟩:=hb s B h1
   obtain ⟨B2,m2,_⟩:=hb s' B' h2
   exact hi.dist _ _ _ _ g m1 m2 (fun e=>hne (hii s (hdi h1) s' (hdi h2) e)) hg
 have hv0:cM ρ0 (lkU bi) w F vs.toList args:=by
  have hlen:args'.length=args.length:=by rw [← gb args',hargs,kY]
  refine ⟨by rw [hv.len,hlen],fun j x c h1 h2=>hin (fun s hs=>ha s (dU h2 hs)) ?_⟩
  have hlt:j < args.length:=(zg.1 h2).1
  have h3:args'[j]? = some args'[j]:=by simp [hlen,hlt]
  have h4:=(hv.rep j x _ h1 h3).nb.nrmd
  have h5:(dQ args')[j]? = some (rr args'[j]):=by
   have hl2:j < (dQ args').length:=by rw [gb,hlen]; exact hlt
   obtain ⟨d,h6,h7⟩:=kZ args' j _ (zq hl2)
   rw [h3] at h6
   injection h6 with h6
   rw [zq hl2,h7,h6]
  have h8:(fm τi args)[j]? = some (mL τi c):=by
   have hl2:j < (fm τi args).length:=by rw [kY]; exact hlt
   obtain ⟨d,h6,h7⟩:=na τi args j _ (zq hl2)
   rw [h2] at h6
   injection h6 with h6
   rw [zq hl2,h7,h6]
  rw [hargs,h8] at h5
  injection h5 with h5
  rw [h5]
  exact h4
 refine (hcall w F ρ0 vs hi0 hv0).mono ?_
 rintro e w' ⟨v,ρ1,F',r,bo,hq,rfl,k1,k2,k3⟩
 obtain ⟨τ,hfit,hu,hr',hN⟩:=hQ r bo hq
 rw [← hr']
 have hnew:∀ s∈ca bo,s ∉ K→τ s < 1000000:=fun s h1 h2=>hnew _ (hN s h1 h2)
 have hbn:∀ s∈ca bo,s ∉ K→b (τ s)=none:=fun s h1 h2=>hbn _ (hN s h1 h2)
 obtain ⟨σo,hσo⟩:=mkσ τ (fun s=>s∈ca bo) hfit.oo
 have hdo:∀ {s B},lkU bo s=some B→s∈ca bo:=fun h=>cT.2 ⟨_,h⟩
 let ρ':Nat→Value:=fun i=>match lkU u i with | none=>ρ i | some _=>if ∃ s,s∈ca bo∧τ s=i then ρ1 (σo i) else .tuple #[]
 have hρin:∀ s B,lkU bo s=some B→ρ' (τ s) = ρ1 s:=fun s B hs=>by
  show (match lkU u (τ s) with | none=>ρ (τ s) | some _=>if ∃ s',s'∈ca bo∧τ s' = τ s then ρ1 (σo (τ s)) else .tuple #[]) = ρ1 s
  rw [hu.out s B hs]
  simp only [hσo s (hdo hs)]
  rw [if_pos ⟨s,hdo hs,rfl⟩]
 have hρgone:∀ s B,lkU bi s=some B→s ∉ K→ρ' (τi s) = .tuple #[]:=fun s B hs hn=>by
  obtain ⟨e,k,es,es',_,h1,_⟩:=hu.gone s B hs hn
  show (match lkU u (τi s) with | none=>ρ (τi s) | some _=>if ∃ s',s'∈ca bo∧τ s' = τi s then ρ1 (σo (τi s)) else .tuple #[]) = .tuple #[]
  rw [h1]
  simp only
  rw [if_neg]
  rintro ⟨s',h2,h3⟩
  exact hn (hfit.io s (hdi hs) s' h2 h3.symm).2
 have hρout:∀ i,lkU u i=none→ρ' i = ρ i:=fun i h=>by
  show (match lkU u i with | none=>ρ i | some _=>if ∃ s,s∈ca bo∧τ s=i then ρ1 (σo i) else .tuple #[]) = ρ i
  rw [h]
 have hbin:∀ s B,lkU bo s=some B→dD b u (τ s)=some (wX τ B):=fun s B hs=>by
  simp only [dD,hu.out s B hs]
 have hbout:∀ i,lkU u i=none→dD b u i=b i:=fun i h=>by simp only [dD,h]
 have hgo':∀ s B,lkU bo s=some B→dD b u (τ s)=some (wX τ B)∧ρ' (τ s) = ρ1 s:=fun s B hs=>⟨hbin s B hs,hρin s B hs⟩
 have huse:∀ s B,lkU bi s=some B→∃ C,lkU u (τi s)=some C:=fun s B hs=>by
  by_cases hk:s∈K
  ·obtain ⟨_,h2,h3⟩:=hfit.k s hk
   obtain ⟨C,hC⟩:=cT.1 h2
   exact ⟨_,by rw [h3]; exact hu.out s C hC⟩
  ·obtain ⟨e,k,es,es',_,h1,_⟩:=hu.gone s B hs hk; exact ⟨_,h1⟩
 have houtside:∀ i B,lkU u i=none→b i=some B→∀ g,blk (ρ i)=some g→g < w.heap.size∧¬ DB ρ0 (lkU bi) g:=fun i B h hB g hg=>by
  refine ⟨((hi.box i B hB).lt hg).1,?_⟩
  rintro ⟨s,C,hs,hg2⟩
  obtain ⟨B1,m1,_⟩:=hb s C hs
  refine hi.dist i (τi s) B _ g hB m1 (fun e=>?_) hg hg2
  obtain ⟨D,hD⟩:=huse s C hs
  rw [e,hD] at h
  cases h
 have hown':∀ g,WM.own ⟨w,DB ρ0 (lkU bi),fun _=>none⟩ g→w0.own g:=by
  rintro g (hg | ⟨s,B,hs,hg⟩)
  ·exact .inl (Nat.le_trans hi.ext.size hg)
  ·exact (hown s B g hs hg).2.1
 have hcase:∀ i B,dD b u i=some B→(∃ s C,lkU bo s=some C∧i = τ s∧B=wX τ C)∨(lkU u i=none∧b i=some B)∨(∃ e k es,B = .rw e k es∧ρ' i = .tuple #[]):=fun i B hB=>by
  cases hl:lkU u i with
  | none=>exact .inr (.inl ⟨rfl,by rw [hbout i hl] at hB; exact hB⟩)
  | some C =>
   rcases hu.only i C hl with ⟨s,hs,rfl⟩ | ⟨s,hs,hk,rfl⟩
   ·obtain ⟨C',hC'⟩:=cT.1 hs
    rw [hbin s C' hC'] at hB
    injection hB with hB
    exact .inl ⟨s,C',hC',rfl,hB.symm⟩
   ·obtain ⟨B0,hB0⟩:=cT.1 hs
    obtain ⟨e,k,es,es',_,h1,_⟩:=hu.gone s B0 hB0 hk
    simp only [dD,h1] at hB
    injection hB with hB
    exact .inr (.inr ⟨e,k,es',hB.symm,hρgone s B0 hB0 hk⟩)
 have hold:∀ s∈ca bo,∀ B,b (τ s)=some B→∃ B0,lkU bi s=some B0∧sJ B=wX τi B0∧FJ bi K s=some B0∧ρ (τ s) = ρ0 s:=fun s hs B hB=>by
  by_cases hk:s∈K
  ·obtain ⟨h1,h2,h3⟩:=hfit.k s hk
   obtain ⟨B0,hB0⟩:=cT.1 h1
   obtain ⟨B1,m1,m2⟩:=hb s B0 hB0
   rw [h3,hB] at m1
   injection m1 with m1
   subst m1
   exact ⟨B0,hB0,m2,by unfold FJ; rw [if_pos hk]; exact hB0,by show ρ (τ s) = ρ (τi s); rw [h3]⟩
  ·rw [hbn s hs hk] at hB
   cases hB
 have hs:Stp ρ b w F ρ' (dD b u) w' F':=by
  refine ⟨k2.hF,k2.hw,fun t ty cs ht=>?_,fun t e k es ht=>?_⟩
  ·cases hl:lkU u t with
   | none=>exact ⟨⟨ty,cs,by rw [hbout t hl]; exact ht⟩,hρout t hl⟩
   | some C =>
    rcases hu.only t C hl with ⟨s,hs,rfl⟩ | ⟨s,hs,hk,rfl⟩
    ·obtain ⟨B0,h1,h2,h3,h4⟩:=hold s hs _ ht
     cases B0 with
     | rw=>cases h2
     | st ty0 cs0 =>
      obtain ⟨⟨ty1,cs1,h5⟩,h6⟩:=k2.hst s ty0 cs0 h3
      exact ⟨⟨ty1,_,hbin s _ h5⟩,by rw [hρin s _ h5,h6,h4]⟩
    ·exfalso
     obtain ⟨B0,hB0⟩:=cT.1 hs
     obtain ⟨e,k,es,es',rfl,_⟩:=hu.gone s B0 hB0 hk
     obtain ⟨B1,m1,m2⟩:=hb s _ hB0
     rw [m1] at ht
     injection ht with ht
     subst ht
     cases m2
  ·cases hl:lkU u t with
   | none=>exact ⟨e,es,by rw [hbout t hl]; exact ht,Nat.le_refl _,fun _=>hρout t hl⟩
   | some C =>
    rcases hu.only t C hl with ⟨s,hs,rfl⟩ | ⟨s,hs,hk,rfl⟩
    ·obtain ⟨B0,h1,h2,h3,h4⟩:=hold s hs _ ht
     cases B0 with
     | st=>cases h2
     | rw e0 k0 es0 =>
      injection h2 with q1 q2 q3
      subst q1 q2 q3
      obtain ⟨e1,es1,h5,h6,h7⟩:=k2.hrw s _ _ _ h3
      exact ⟨e1,es1,hbin s _ h5,h6,fun he=>by rw [hρin s _ h5,h7 he,h4]⟩
    ·obtain ⟨B0,hB0⟩:=cT.1 hs
     obtain ⟨e1,k1',es1,es',rfl,h1,h2⟩:=hu.gone s B0 hB0 hk
     obtain ⟨B1,m1,m2⟩:=hb s _ hB0
     rw [m1] at ht
     injection ht with ht
     subst ht
     injection m2 with q1 q2 q3
     subst q1 q2 q3
     exact ⟨e,es',by simp only [dD,h1],Nat.le_of_lt h2,fun he=>by omega⟩
 refine ⟨v,ρ',F',rfl,⟨?_,fun g hg=>k1.f0 g (hi.f0 g hg),k1.flt,fun g hg=>?_,fun i B hB=>?_,fun i i' B B' g hB hB' hne hg=>?_,hi.reg_stp hs fun t ht hn=>?_⟩,hs,k3.ren fun t ht B hB=>hgo' t B hB⟩
 ·exact hi.ext.step k1.ext.os k1.ext.tape k1.ext.output k1.ext.size fun g hg hM=>k1.ext.block g (Nat.lt_of_lt_of_le hg hi.ext.size) fun ⟨s,B,hs,hg2⟩=>wo hg hM (hown s B g hs hg2).2.1
 ·rcases k1.fnew g hg with h | h
  ·exact hi.fnew g h
  ·exact .inr (hown' g h)
 ·rcases hcase i B hB with ⟨s,C,hC,rfl,rfl⟩ | ⟨hl,hB⟩ | ⟨e,k,es,rfl,hg⟩
  ·exact (k1.box s C hC).ren (hρin s C hC) (fun g hg=>hown' g ((k1.box s C hC).lt hg).2.1) (fun t ht B hB=>hgo' t B hB)
  ·refine (hi.box i B hB).mono hs (hρout i hl) (fun g hg=>?_) (fun g hg hF=>?_)
   ·obtain ⟨h1,h2⟩:=houtside i B hl hB g hg
    exact k1.ext.block g h1 h2
   ·obtain ⟨h1,h2⟩:=houtside i B hl hB g hg
    rcases k1.fnew g hF with h | h | h
    ·exact ((hi.box i B hB).lt hg).2.2 h
    ·exact absurd h1 (Nat.not_lt.2 h)
    ·exact h2 h
  ·exact .gn e k es hg
 ·have mixed:∀ s C i B,lkU bo s=some C→lkU u i=none→b i=some B→blk (ρ1 s)=some g→blk (ρ i)≠some g:=fun s C i B hC hl hB h1 h2=>by
   obtain ⟨m1,m2⟩:=houtside i B hl hB g h2
   rcases ((k1.box s C hC).lt h1).2.1 with h | h
   ·exact absurd m1 (Nat.not_lt.2 h)
   ·exact m2 h
  rcases hcase i B hB with ⟨s,C,hC,rfl,rfl⟩ | ⟨hl,hB⟩ | ⟨e,k,es,rfl,hgo⟩
  ·rw [hρin s C hC] at hg
   rcases hcase i' B' hB' with ⟨s',C',hC',rfl,rfl⟩ | ⟨hl',hB'⟩ | ⟨e,k,es,rfl,hgo⟩
   ·rw [hρin s' C' hC']
    exact k1.dist s s' C C' g hC hC' (fun e=>hne (by rw [e])) hg
   ·rw [hρout i' hl']
    exact mixed s C i' B' hC hl' hB' hg
   ·rw [hgo]; exact fun h=>by cases h
  ·rw [hρout i hl] at hg
   rcases hcase i' B' hB' with ⟨s',C',hC',rfl,rfl⟩ | ⟨hl',hB'⟩ | ⟨e,k,es,rfl,hgo⟩
   ·rw [hρin s' C' hC']
    exact fun h=>mixed s' C' i B hC' hl hB h hg
   ·rw [hρout i' hl']
    exact hi.dist i i' B B' g hB hB' hne hg
   ·rw [hgo]; exact fun h=>by cases h
  ·rw [hgo] at hg; cases hg
 ·cases hl:lkU u t with
  | none=>rw [hbout t hl]; exact hn
  | some C =>
   exfalso
   rcases hu.only t C hl with ⟨s,hs,rfl⟩ | ⟨s,hs,hk,rfl⟩
   ·by_cases hk:s∈K
    ·obtain ⟨h1,h2,h3⟩:=hfit.k s hk
     obtain ⟨B0,hB0⟩:=cT.1 h1
     obtain ⟨B1,m1,_⟩:=hb s B0 hB0
     rw [h3,hn] at m1
     cases m1
    ·have:=hnew s hs hk
     omega
   ·obtain ⟨B0,hB0⟩:=cT.1 hs
    obtain ⟨B1,m1,_⟩:=hb s B0 hB0
    rw [m1] at hn
    cases hn
end
end
section
section
variable {P:Program} {ρ ρ' ρ2:Nat→Value} {b b' b2:Nat→Option Box} {w w':World} {w0:WM} {F F' F0:Nat→Prop} {n:Nat}
theorem aJ.to {x:Value} {p:PV} (h:aJ ρ b w F x p) : (∀ t∈bg p,(∀ ty cs,b t=some (.st ty cs)→∃ cs',b2 t=some (.st ty cs'))∧∀ e k es,b t=some (.rw e k es)→b2 t=some (.rw e k es))→aJ ρ b2 w F x p:=by
 induction h with
 | junk x=>exact fun _=>.junk x
 | d x d h=>exact fun _=>.d x d h
 | ag xs cs hl h1 hr ih=>exact fun hc=>.ag xs _ hl h1 (fun j x c h2 h3=>ih j x c h2 h3 (fun t ht=>hc t (dU h3 ht)))
 | tup xs cs hl hr ih=>exact fun hc=>.tup xs _ hl (fun j x c h2 h3=>ih j x c h2 h3 (fun t ht=>hc t (dU h3 ht)))
 | ptr t off g ty cs hb hρ =>
  intro hc
  obtain ⟨cs',h1⟩:=(hc t (by simp [bg])).1 _ _ hb
  exact .ptr _ off g ty _ h1 hρ
 | row t n A c e k es hb hn hcc hA hρ =>
  intro hc
  exact .row _ n A c e k es ((hc t (by simp [bg])).2 _ _ _ hb) hn hcc hA hρ
 | re t n i off a e k es hb hn hi hρ =>
  intro hc
  exact .re _ n i off a e k es ((hc t (by simp [bg])).2 _ _ _ hb) hn hi hρ
 | vw t n lo hi A m c e k es hb hn hl hh hm hρ =>
  intro hc
  exact .vw _ n lo hi A m c e k es ((hc t (by simp [bg])).2 _ _ _ hb) hn hl hh hm hρ
 | fe a cs us hF hcell hrep=>exact fun _=>.fe a cs us hF hcell hrep
 | fn f xs ys ps qs hl hr hl2 hr2 ih ih2 =>
  intro hc
  exact .fn f xs ys _ _ hl (fun j x c h2 h3=>ih j x c h2 h3 (fun t ht=>hc t (by simp only [bg,List.mem_append]; exact .inl (dU h3 ht))))
   hl2 (fun j x c h2 h3=>ih2 j x c h2 h3 (fun t ht=>hc t (by simp only [bg,List.mem_append]; exact .inr (dU h3 ht))))
mutual
theorem M4:∀ p:PV,bg (rr p)=bg p
 | .junk=>rfl
 | .d _=>rfl
 | .ptr _ _=>rfl
 | .row _ _=>rfl
 | .re _ _ _ _=>rfl
 | .vw _ _ _ _=>rfl
 | .fe _=>rfl
 | .ag cs=>by simp only [rr,bg,pO cs]
 | .tup cs=>by simp only [rr,bg,pO cs]
 | .fn f ps qs=>by simp only [rr,bg,pO ps,pO qs]
theorem pO:∀ cs:List PV,bO (dQ cs)=bO cs
 | []=>rfl
 | c::cs=>by simp only [dQ,bO,M4 c,pO cs]
end
def y8 (ρ : Nat→Value) (bi:BU) (K:List Nat) : Nat→Option (Value×Option (Nat×Nat)):=fun t=>if t∈K then (match lkU bi t with
 | some (.st _ _)=>some (ρ t,none)
 | some (.rw _ k es)=>some (ρ t,some (k,es.length))
 | none=>none) else none
def aci (P:Program) (fn:Func) (K:List Nat) (Q:PV→BU→Prop) (e:Exit) (s:PS) : Prop :=
 (match e with | .normal=>True | .ret=>True | _=>False)∧∃ r bo,Q r bo∧(∀ t∈K,t∈ca bo)∧(∀ s∈bg r,s∈ca bo)∧LA bo∧(∃ p,rP P fn s=some p∧rr p=r)∧∀ t B,lkU bo t=some B→∃ B',s.b t=some B'∧sJ B' = B
theorem UC {f:FuncId} {fn:Func} {c:Code} {args:List PV} {bi:BU} {K:List Nat} {Q:PV→BU→Prop} (hf:P.funcs[f]? = some fn) (hb:fn.body=some c) (hcb:dH P f=true) (hlen:args.length≤fn.ntmps)
  (hid:∀ t∈K,1000000≤t) (h:PWP P fn.ntmps c (aci P fn K Q) ⟨mO args,lkU bi⟩) : PCm P f args bi K Q:=by
 refine ⟨hcb,fun w F ρ vs hi0 hv=>?_⟩
 refine calls_of_wp hf hb ?_
 have hl:vs.size=args.length:=by have:=hv.len; simpa using this
 have hi1:Inv ⟨w,DB ρ (lkU bi),y8 ρ bi K⟩ F ρ (lkU bi) w F:=by
  refine ⟨⟨hi0.ext.os,hi0.ext.tape,hi0.ext.output,hi0.ext.size,hi0.ext.block⟩,hi0.f0,hi0.flt,hi0.fnew,hi0.box,hi0.dist,fun t q hq=>?_⟩
  have hq:y8 ρ bi K t=some q:=hq
  unfold y8 at hq
  split at hq
  ·rename_i hk
   split at hq
   ·rename_i ty cs hB
    injection hq with hq
    subst hq
    exact ⟨hid t hk,.inr ⟨⟨ty,cs,hB⟩,rfl⟩⟩
   ·rename_i e k es hB
    injection hq with hq
    subst hq
    exact ⟨hid t hk,.inr ⟨e,es,hB,Nat.le_refl _,fun _=>rfl⟩⟩
   ·cases hq
  ·cases hq
 have hc:oH fn.ntmps ⟨w,DB ρ (lkU bi),y8 ρ bi K⟩ F ⟨mO args,lkU bi⟩ { tmps:=vs++Array.replicate (fn.ntmps - vs.size) undef,defers:=[] } w:=by
  refine ⟨by simp; omega,rfl,ρ,F,hi1,fun i=>?_⟩
  by_cases hi:i < vs.size
  ·have e1:(vs++Array.replicate (fn.ntmps - vs.size) undef).getD i undef=vs[i]:=by simp [Array.getElem?_append,hi]
   show aJ ρ (lkU bi) w F _ (mO args i)
   rw [e1]
   have hia:i < args.length:=by omega
   unfold mO
   rw [zq hia]
   exact hv.rep i _ _ (by simp [hi]) (zq hia)
  ·show aJ ρ (lkU bi) w F _ (mO args i)
   unfold mO
   rw [List.getElem?_eq_none (by omega)]
   exact .junk _
 refine wp_mono (h ⟨w,DB ρ (lkU bi),y8 ρ bi K⟩ F _ w hc) fun e a' w' ⟨s',⟨hex,r,bo,hq,hid2,hr,hbo,⟨p,h1,h2⟩,h3⟩,_,hd,ρ',F',hi,hev⟩=>?_
 obtain ⟨v,hv1,hv2⟩:=E6 (P:=P) hi hev h1
 have hto:∀ t∈ca bo,(∀ ty cs,s'.b t=some (.st ty cs)→∃ cs',lkU bo t=some (.st ty cs'))∧∀ e k es,s'.b t=some (.rw e k es)→lkU bo t=some (.rw e k es):=fun t ht=>by
  obtain ⟨B,hB⟩:=cT.1 ht
  obtain ⟨B',hB',hn⟩:=h3 t B hB
  refine ⟨fun ty cs k=>?_,fun e k es k1=>?_⟩
  ·rw [hB'] at k
   injection k with k
   subst k
   exact ⟨_,by rw [hB,← hn]; rfl⟩
  ·rw [hB'] at k1
   injection k1 with k1
   subst k1
   rw [hB,← hn]; rfl
 have hbox:∀ t B,lkU bo t=some B→jy ρ' (lkU bo) (WM.own ⟨w,DB ρ (lkU bi),fun _=>none⟩) w' F' t B:=fun t B hB=>by
  obtain ⟨B',hB',rfl⟩:=h3 t B hB
  have hbx:=hi.box t B' hB'
  have hcl:=hbo t _ hB
  cases hbx with
  | st ty cs g xs hr0 hg hF0 hh hl h1 hr =>
   refine .st ty _ g xs hr0 hg hF0 hh (by rw [gb]; exact hl) h1 (fun j x c k1 k2=>?_)
   obtain ⟨d,k3,rfl⟩:=kZ cs j c k2
   refine ((hr j x d k1 k3).to fun s hs=>hto s (hcl s ?_)).nrmd
   show s∈bO (dQ cs)
   rw [pO]
   exact dU k3 hs
  | rw e k es xs hk0 m1 m2 m3 m4 m5 m6=>exact .rw e k es xs hk0 m1 m2 m3 m4 m5 m6
  | gn e k es m1=>exact .gn e k es m1
 have hstp:Stp ρ (FJ bi K) w F ρ' (lkU bo) w' F':=by
  have hk:∀ t B,FJ bi K t=some B→lkU bi t=some B∧t∈K∧t∈ca bo:=fun t B ht=>by
   unfold FJ at ht
   split at ht
   ·rename_i hk; exact ⟨ht,hk,hid2 t hk⟩
   ·cases ht
  refine ⟨fun g hg=>hi.f0 g hg,fun g hg=>?_,fun t ty cs ht=>?_,fun t e k es ht=>?_⟩
  ·exact hi.ext.block g (hi0.flt g hg) fun ⟨t,B,hB,hg2⟩=>((hi0.box t B hB).lt hg2).2.2 hg
  ·obtain ⟨ht,hkt,m1⟩:=hk t _ ht
   have m2:=(hi.reg t (ρ t,none) (by show y8 ρ bi K t = _; unfold y8; rw [if_pos hkt,ht])).2
   rcases m2 with m2 | ⟨⟨ty',cs',m2⟩,m3⟩
   ·obtain ⟨B,hB⟩:=cT.1 m1
    obtain ⟨B',hB',_⟩:=h3 t B hB
    rw [m2] at hB'
    cases hB'
   ·obtain ⟨cs2,h5⟩:=(hto t m1).1 _ _ m2
    exact ⟨⟨_,_,h5⟩,m3⟩
  ·obtain ⟨ht,hkt,m1⟩:=hk t _ ht
   have m2:=(hi.reg t (ρ t,some (k,es.length)) (by show y8 ρ bi K t = _; unfold y8; rw [if_pos hkt,ht])).2
   rcases m2 with m2 | ⟨e',es',m2,m3,m4⟩
   ·obtain ⟨B,hB⟩:=cT.1 m1
    obtain ⟨B',hB',_⟩:=h3 t B hB
    rw [m2] at hB'
    cases hB'
   ·exact ⟨e',es',(hto t m1).2 _ _ _ m2,m3,m4⟩
 have hinv:Inv ⟨w,DB ρ (lkU bi),fun _=>none⟩ F ρ' (lkU bo) w' F':=by
  refine ⟨⟨hi.ext.os,hi.ext.tape,hi.ext.output,hi.ext.size,hi.ext.block⟩,hi.f0,hi.flt,hi.fnew,hbox,fun t t' B B' g k1 k2 hne hg=>?_,fun t q hq=>by cases hq⟩
  obtain ⟨_,m1,_⟩:=h3 t B k1
  obtain ⟨_,m2,_⟩:=h3 t' B' k2
  exact hi.dist t t' _ _ g m1 m2 hne hg
 have hres:aJ ρ' (lkU bo) w' F' v r:=by
  rw [← h2]
  exact (hv2.to fun s hs=>hto s (hr s (by rw [← h2,M4]; exact hs))).nrmd
 have fin:a'.defers = []∧∃ v,(results fn a'.tmps).run P w' = .ok v w'∧∃ v' ρ'' F'' r bo,Q r bo∧Ending.returned v = .returned v'∧Inv ⟨w,DB ρ (lkU bi),fun _=>none⟩ F ρ'' (lkU bo) w' F''∧Stp ρ (FJ bi K) w F ρ'' (lkU bo) w' F''∧aJ ρ'' (lkU bo) w' F'' v' r :=
  ⟨hd,v,hv1,v,ρ',F',r,bo,hq,rfl,hinv,hstp,hres⟩
 cases e with
 | normal=>exact fin
 | ret=>exact fin
 | exit _=>exact hex.elim
 | goto _=>exact hex.elim
 | panic _=>exact hex.elim
 | outgrown=>exact hex.elim
end
end
section
variable {B:List (Nat×Option aY)} {s:SS} {p:PS} {P:Program} {ρ : Type}
theorem ow (hs:Sim s p) : ∀ l:List Operand,ch s.bx (wZ s l) (l.map (ev p))
 | []=>.nil
 | x::l=>.cons (cf hs x) (ow hs l)
theorem Xj {c:Bool} {v w z:SV} {q r:PV} (hv:bf B v q) (hw:bf B w r) (h:Xk c v w=some z) : bf B z (if c then q else r):=by
 unfold Xk at h
 split at h
 ·split at h
  ·rename_i hk
   subst hk
   injection h with h
   subst h
   obtain rfl:=lq hv
   obtain rfl:=lq hw
   cases c
   ·exact fX _ _
   ·exact fX _ _
  ·cases h
 ·injection h with h
  subst h
  obtain rfl:=lr hv
  obtain rfl:=lr hw
  cases c
  ·exact fa _
  ·exact fa _
 ·injection h with h
  subst h
  obtain rfl:=rN hv
  obtain rfl:=rN hw
  cases c
  ·exact xk _
  ·exact xk _
 ·cases c
  ·injection h with h; subst h; exact hw
  ·injection h with h; subst h; exact hv
theorem Ul {x:ByteArray} {i z:Int} (h:ke x i=some z) : 0≤i∧∃ c:UInt8,x.data.toList[i.toNat]? = some c∧z=(c.toNat:Int):=by
 unfold ke at h
 split at h
 ·rename_i h0
  rw [zm] at h
  obtain ⟨c,h1,h2⟩:=h
  exact ⟨h0,c,h1,h2.symm⟩
 ·cases h
theorem aah {o:Oper} (hs:Sim s p) {k:SV→Upd→Option ρ} {res : ρ} (hst:∀ t x y,o.op = .store t x y→o.dst=none) (h:aai P o s k=some res) : PA s p o.dst k res (eff P o p):=by
 unfold aai at h
 unfold eff
 split at h
 all_goals
  rename_i ho
  simp only [ho]
 ·exact ⟨_,.no,_,none,rfl,h,lB hs (cf hs _),trivial,dX⟩
 ·exact ⟨_,.no,_,none,rfl,h,lB hs (cf hs _),trivial,dX⟩
 ·rename_i c x y
  split at h
  ·rename_i t hc
   split at h
   ·rename_i v hv
    have hq:=cf hs c
    rw [hc] at hq
    have hb:asB (ev p c)=some t:=by rw [lr hq]; rfl
    simp only [hb]
    exact ⟨_,.no,_,none,rfl,h,lB hs (Xj (cf hs x) (cf hs y) hv),trivial,dX⟩
   ·cases h
  ·cases h
 ·rename_i e
  split at h
  ·rename_i t i hd hi
   split at h
   ·rename_i z hb hz
    obtain ⟨h1,h2⟩:=aq h
    obtain ⟨hfr,h1⟩:=ng h1
    have hbd:p.b t=none:=by have:=hs.bx t; rw [hb] at this; exact this hfr
    refine ⟨_,_,.ptr t 0,some (t,.st e (pZ i)),?_,h2,?_,⟨h1,hb⟩,zj hb hd⟩
    ·simp [vz,hd,hi,hbd]
    ·exact pu hs (rJ hb) (fun _=>⟨_,rfl,wj hz⟩) (.ptr t 0 _ _ (by rw [au,if_pos rfl]))
   ·cases h
  ·cases h
 ·rename_i e x
  split at h
  ·rename_i t cs hd hc
   split at h
   ·rename_i hb
    obtain ⟨h1,h2⟩:=aq h
    obtain ⟨hfr,h1⟩:=ng h1
    have hbd:p.b t=none:=by have:=hs.bx t; rw [hb] at this; exact this hfr
    obtain ⟨qs,h3,h4⟩:=B7 (cf hs x) hc
    refine ⟨_,_,.ptr t 0,some (t,.st e qs),?_,h2,?_,⟨h1,hb⟩,zj hb hd⟩
    ·simp [Gx,hd,h3,hbd]
    ·exact pu hs (rJ hb) (fun _=>⟨_,rfl,h4.mono (rJ hb)⟩) (.ptr t 0 _ _ (by rw [au,if_pos rfl]))
   ·cases h
  ·cases h
 ·rename_i t ps
  split at h
  ·rename_i i fl hi hf
   split at h
   ·rename_i z hz
    split at h
    ·rename_i cs hcs
     obtain ⟨qs,h1,h2⟩:=Gb hs _ (wj hz) hcs
     refine ⟨_,.no,.ag qs,none,?_,h,lB hs (.ag _ _ h2.len h2.rep),trivial,dX⟩
     simp only [zF,hi,hf,h1]
     rfl
    ·cases h
   ·cases h
  ·cases h
 ·exact GW hs h
 ·rename_i t x
  split at h
  ·rename_i v hv
   obtain ⟨r,h1,h2⟩:=Nq hs (cf hs x) hv
   exact ⟨_,.no,r,none,by simp [h1],h,lB hs h2,trivial,dX⟩
  ·cases h
 ·rename_i t x y
  exact Uf hs (hst _ _ _ ho) (cf hs x) (cf hs y) h
 ·rename_i op t x y yt
  exact (aaC (cf hs x) (cf hs y) (fun n kd z hn hz=>XF hn hz) h).done hs
 ·rename_i op t x
  exact (aa9 (cf hs x) h).done hs
 ·rename_i src dst x
  exact (Yx hs (cf hs x) h).done hs
 ·rename_i t x lo hi
  exact (Uh hs (cf hs x) h).done hs
 ·rename_i t x f
  exact (Ir (cf hs x) h).done hs
 ·rename_i t x f
  exact (U8 (cf hs x) h).done hs
 ·rename_i t x i
  exact Iq hs (cf hs x) (cf hs i) h
 ·rename_i x i
  split at h
  ·rename_i vs hv
   split at h
   ·rename_i v hvi
    have hq:=cf hs x
    rw [hv] at hq
    obtain ⟨qs,h1,h2⟩:=WO hq
    have hlt:i < qs.length:=by rw [← h2.len]; exact (zg.1 hvi).1
    have hqi:qs[i]? = some qs[i]:=by simp [hlt]
    refine ⟨_,.no,qs[i],none,?_,h,lB hs (h2.rep i _ _ hvi hqi),trivial,dX⟩
    simp [tZ,h1,hqi]
   ·cases h
  ·cases h
 ·rename_i t x i
  split at h
  ·rename_i sx kd ix hu hx hi
   obtain ⟨z,h1,h2⟩:=cQ h
   obtain ⟨h3,c,h4,rfl⟩:=Ul h1
   have hq:=cf hs x
   rw [hx] at hq
   have hr:=cf hs i
   rw [hi] at hr
   refine ⟨_,.no,_,none,?_,h2,lB hs (fX .u8 _),trivial,dX⟩
   simp [Lm,hu,rN hq,lq hr,asS,asI,h3,h4]
  ·cases h
 ·rename_i c
  split at h
  ·rename_i f hf
   simp only [hf]
   unfold Ou at h
   unfold ub
   have hargs:=ow hs c.args.toList
   split at h
   ·split at h
    ·rename_i x t hx ht
     rw [hx] at hargs
     rcases hargs.cases with ⟨h1,_⟩ | ⟨v,q,vs,qs,h1,h2,h3,h4⟩
     ·cases h1
     ·injection h1 with e1 e2
      subst e1 e2
      rcases h4.cases with ⟨_,rfl⟩ | ⟨_,_,_,_,h5,_⟩
      ·simp only [h2,ht]
       exact (Z4 hs h3 h).done hs
      ·cases h5
    ·cases h
   ·split at h
    ·rename_i x y t t' hx ht
     rw [hx] at hargs
     rcases hargs.cases with ⟨h1,_⟩ | ⟨v,q,vs,qs,h1,h2,h3,h4⟩
     ·cases h1
     ·injection h1 with e1 e2
      subst e1 e2
      rcases h4.cases with ⟨h5,_⟩ | ⟨v2,q2,vs2,qs2,h5,h6,h7,h8⟩
      ·cases h5
      ·injection h5 with e1 e2
       subst e1 e2
       rcases h8.cases with ⟨_,rfl⟩ | ⟨_,_,_,_,h9,_⟩
       ·subst h6
        simp only [h2,ht]
        split at h
        ·rename_i htt
         have htt:t' = t:=by simpa using htt
         rw [if_pos htt]
         exact (Q0 hs h3 h7 h).1
        ·cases h
       ·cases h9
    ·cases h
   ·split at h
    ·rename_i x xs hx
     rw [hx] at hargs
     rcases hargs.cases with ⟨h1,_⟩ | ⟨v,q,vs,qs,h1,h2,h3,h4⟩
     ·cases h1
     ·injection h1 with e1 e2
      subst e1 e2
      split at h
      ·rename_i w hw
       obtain ⟨r,h5,h6⟩:=BG false xs x w q qs h3 h4 hw
       simp only [h2]
       exact ⟨_,.no,r,none,by simp [show tX q qs=some r from h5],h,lB hs h6,trivial,dX⟩
      ·cases h
    ·cases h
   ·split at h
    ·rename_i x xs hx
     rw [hx] at hargs
     rcases hargs.cases with ⟨h1,_⟩ | ⟨v,q,vs,qs,h1,h2,h3,h4⟩
     ·cases h1
     ·injection h1 with e1 e2
      subst e1 e2
      split at h
      ·rename_i w hw
       obtain ⟨r,h5,h6⟩:=BG true xs x w q qs h3 h4 hw
       simp only [h2]
       exact ⟨_,.no,r,none,by simp [show tY q qs=some r from h5],h,lB hs h6,trivial,dX⟩
      ·cases h
    ·cases h
   ·split at h
    ·rename_i x y t t' hx ht
     rw [hx] at hargs
     rcases hargs.cases with ⟨h1,_⟩ | ⟨v,q,vs,qs,h1,h2,h3,h4⟩
     ·cases h1
     ·injection h1 with e1 e2
      subst e1 e2
      rcases h4.cases with ⟨h5,_⟩ | ⟨v2,q2,vs2,qs2,h5,h6,h7,h8⟩
      ·cases h5
      ·injection h5 with e1 e2
       subst e1 e2
       rcases h8.cases with ⟨_,rfl⟩ | ⟨_,_,_,_,h9,_⟩
       ·subst h6
        simp only [h2,ht]
        exact Yv hs h3 h7 h
       ·cases h9
    ·cases h
   ·cases h
  ·cases h
 ·rename_i f ps qs
  have h1:=ow hs ps.toList
  have h2:=ow hs qs.toList
  exact ⟨_,.no,_,none,rfl,h,lB hs (.fn f _ _ _ _ h1.len h1.rep h2.len h2.rep),trivial,dX⟩
 ·rename_i t x y
  exact XD hs h
 ·rename_i x
  exact (ZX (cf hs x) h).done hs
 ·cases h
def toC:(c:CT)→c.den→PV
 | .v t,x=>.d (ru t x).toD
 | .a i,x=>.ag ((stD i x).map .d)
 | .pl t,x=>.fe [(ru t x).toD]
 | .ps i,x=>.fe (stD i x)
def EL:(cs:List CT)→vB cs→List PV
 | [],_=>[]
 | c::cs,x=>toC c x.1::EL cs x.2
def p5:(p:PT)→p.den→PV
 | .lf t,x=>.d (ru t x).toD
 | .ag i,x=>.ag ((stD i x).map .d)
 | .pl t,x=>.fe [(ru t x).toD]
 | .ps i,x=>.fe (stD i x)
 | .fn f a b,x=>.fn f (EL a x.1) (EL b x.2)
 | .own ..,_=>.junk
 | .mv ..,_=>.junk
 | .bx ..,_=>.junk
 | .agr ..,_=>.junk
 | .io _,_=>.junk
def sy:(ps:List PT)→cg ps→List PV
 | [],_=>[]
 | p::ps,x=>p5 p x.1::sy ps x.2
def yY:(rs:List PT)→aX rs→List PV
 | [],_=>[]
 | [p],x=>[p5 p x]
 | p::q::l,x=>p5 p x.1::yY (q::l) x.2
def toR (rs:List PT) (x:aX rs) : PV:=match rs,x with
 | [p],x=>p5 p x
 | rs,x=>.tup (yY rs x)
def eh (rows:List (Nat×Nat×Nat×Nat×Ty)) : Nat→List D→List PV
 | _,[]=>[]
 | j,d::ds=>(match qk rows j with
  | some (R,_,_,_)=>(match d with | .sl es=>.row R es.length | .v _=>.junk)
  | none=>.d d)::eh rows (j + 1) ds
def cn (rows:List (Nat×Nat×Nat×Nat×Ty)) : Nat→List D→BU
 | _,[]=>[]
 | j,d::ds=>match qk rows j with
  | some (R,e,k,_)=>(match d with | .sl es=>(R,.rw e k es)::cn rows (j + 1) ds | .v _=>cn rows (j + 1) ds)
  | none=>cn rows (j + 1) ds
def rwU (e k:Nat) (t:Ty) (xs:List t.den) : Box:=.rw e k (xs.map (bK t))
def toI:(p:PT)→List Nat→p.den→PV×BU
 | .own e k t,is,xs=>(match is with | [i]=>(.row i (show List t.den from xs).length,[(i,rwU e k t xs)]) | _=>(.junk,[]))
 | .mv e k t,is,xs=>(match is with | [i]=>(.row i (show List t.den from xs).length,[(i,rwU e k t xs)]) | _=>(.junk,[]))
 | .bx ty n rows,is,x=>(match is with | i::is=>(.ptr i 0,(i,.st ty (eh (mI rows is) 0 (stD n x)))::cn (mI rows is) 0 (stD n x)) | _=>(.junk,[]))
 | .agr n rows,is,x=>(.ag (eh (mI rows is) 0 (stD n x)),cn (mI rows is) 0 (stD n x))
 | .io _,_,_=>(.junk,[])
 | .lf t,_,x=>(p5 (.lf t) x,[])
 | .ag i,_,x=>(p5 (.ag i) x,[])
 | .pl t,_,x=>(p5 (.pl t) x,[])
 | .ps i,_,x=>(p5 (.ps i) x,[])
 | .fn f a b,_,x=>(p5 (.fn f a b) x,[])
def dP:(ps:List PT)→List (List Nat)→cg ps→List PV×BU
 | [],_,_=>([],[])
 | p::ps,is::iss,x=>((toI p is x.1).1::(dP ps iss x.2).1,(toI p is x.1).2++(dP ps iss x.2).2)
 | _ :: _,[],_=>([],[])
def X4:Box→Box
 | .rw e k es=>.rw e k (es ++ [[]])
 | B=>B
def CW (l:BU) : List Nat→BU
 | []=>[]
 | t::ts=>(t,match lkU l t with | some B=>X4 B | none=>.st 0 [])::CW l ts
def toO:(p:PT)→(b:IB)→List Nat→List Nat→p.den→b.den→BU
 | .own ..,.own e k t,is,_,_,xs=>(match is with | [i]=>[(i,rwU e k t xs)] | _=>[])
 | .bx ..,.bx ty n rows,is,js,_,x=>(match is with | i :: _=>(i,.st ty (eh (mI rows js) 0 (stD n x)))::cn (mI rows js) 0 (stD n x) | _=>[])
 | _,_,_,_,_,_=>[]
def FV:PT→List Nat→List Nat
 | .mv ..,is=>is
 | .bx ..,_ :: is=>is
 | _,_=>[]
def pg:List PT→List (List Nat)→List Nat
 | p::ps,is::iss=>FV p is++pg ps iss
 | _,_=>[]
def PI:(ps:List PT)→(ls:List IB)→List (List Nat)→List (List Nat)→cg ps→ze ls→BU
 | p::ps,b::ls,is::iss,js::kss,x,o=>toO p b is js x.1 o.1++PI ps ls iss kss x.2 o.2
 | _,_,_,_,_,_=>[]
def cW:(rs:List PT)→List (List Nat)→aX rs→List PV×BU
 | [p],is :: _,x=>([(toI p is x).1],(toI p is x).2)
 | p::q::l,is::iss,x=>((toI p is x.1).1::(cW (q::l) iss x.2).1,(toI p is x.1).2++(cW (q::l) iss x.2).2)
 | _,_,_=>([],[])
def zi:List PV→PV
 | [v]=>v
 | vs=>.tup vs
def ab1:(p:PT)→(b:IB)→p.den→b.den→Prop
 | .own _ _ t,.own _ _ t',x,o=>(show List t'.den from o).length=(show List t.den from x).length
 | _,_,_,_=>True
def Nt:(ps:List PT)→(ls:List IB)→cg ps→ze ls→Prop
 | p::ps,b::ls,x,o=>ab1 p b x.1 o.1∧Nt ps ls x.2 o.2
 | _,_,_,_=>True
def iV:List PT→List (List Nat)→Prop
 | [],[]=>True
 | p::ps,is::iss=>is.length=p.nI∧iV ps iss
 | _,_=>False
def kt:List IB→List (List Nat)→Prop
 | [],[]=>True
 | b::ls,js::kss=>js.length=b.nJ∧kt ls kss
 | _,_=>False
def qf (ps rs:List PT) (iss kss jss:List (List Nat)) (x:cg ps) (r:aX rs) : BU:=PI ps (cA rs) iss kss x (jT rs r)++((cW (fc rs) jss (ic rs r)).2++CW (dP ps iss x).2 (pg ps iss))
def acn (P:Program) (f:FuncId) (ps rs:List PT) (x:cg ps) (r:aX rs) : Prop :=
 Nt ps (cA rs) x (jT rs r)∧∀ iss kss jss,iV ps iss→kt (cA rs) kss→iV (fc rs) jss→(br iss++(br kss++br jss)).Nodup→(∀ j∈br kss++br jss,j < 1000000)→(∀ i∈br iss,i∈ca (dP ps iss x).2)→dH P f=true ∧
  ∀ (w0:WM) (F0:Nat→Prop) (ρ : Nat→Value) (b:Nat→Option Box) (w:World) (F:Nat→Prop) (vs:Array Value) (args:List PV),dQ args=(dP ps iss x).1→(∀ t B,lkU (dP ps iss x).2 t=some B→∃ B',b t=some B'∧sJ B' = B)→(∀ t∈br kss++br jss,b t=none) →
   Inv w0 F0 ρ b w F→cM ρ b w F vs.toList args→Calls P f vs w fun e w'=>∃ v ρ' F',e = .returned v∧Inv w0 F0 ρ' (dD b (qf ps rs iss kss jss x r)) w' F'∧Stp ρ b w F ρ' (dD b (qf ps rs iss kss jss x r)) w' F'∧aJ ρ' (dD b (qf ps rs iss kss jss x r)) w' F' v (zi (cW (fc rs) jss (ic rs r)).1)
def bI (P:Program) (f:FuncId) (ps rs:List PT) (F:cg ps→Option (aX rs)) : Prop:=∀ x r,F x=some r→((pD ps||pD rs)=false→PC P f (sy ps x) (toR rs r))∧((pD ps||pD rs)=true→acn P f ps rs x r)
def rK (P:Program) (T:List (Nat×Ent)) : Prop:=∀ f vs en,lkE T f vs=some en→bI P f en.ps en.rs en.f
theorem rK.nil:rK P []:=fun f vs en h=>by cases h
theorem rK.cons {T:List (Nat×Ent)} {f:FuncId} {ps rs:List PT} {F:cg ps→Option (aX rs)} (h:bI P f ps rs F) (hT:rK P T) : rK P ((f,⟨ps,rs,F⟩)::T):=by
 intro g vs en hg
 simp only [lkE,db] at hg
 by_cases e:g=f
 ·subst e
  simp only [decide_true] at hg
  split at hg
  ·injection hg with hg
   subst hg
   exact h
  ·exact hT g vs en hg
 ·simp only [e,decide_false] at hg
  exact hT g vs en hg
theorem En {t:Ty} {c:SD} {x:t.den} (h:c.as t=some x) : (ru t x).toD=c.toD:=by
 have h1:=SD.as_ok h
 cases t with
 | st i=>simp [SD.as] at h
 | _=>simp only [bK,List.cons.injEq,and_true] at h1; exact h1
theorem Yq (hs:Sim s p) {t:Ty} {v:SV} {q:PV} {x:t.den} (hv:bf s.bx v q) (h:aam s t v=some x) : asData p.b q = .d (ru t x).toD∧(qd v=true→clean q=true∧asData dZ q = .d (ru t x).toD):=by
 unfold aam at h
 split at h
 ·rename_i c hc
  have:=Yp hs hv hc
  simp only [En h]
  exact this
 ·cases h
theorem ach (hs:Sim s p) {i:Nat} {v:SV} {q:PV} {x:ST i} (hv:bf s.bx v q) (h:aap s i v=some x) : asData p.b q = .ag ((stD i x).map .d)∧(qd v=true→clean q=true∧asData dZ q = .ag ((stD i x).map .d)):=by
 unfold aap at h
 split at h
 ·rename_i cs
  split at h
  ·rename_i ds hds
   obtain ⟨qs,rfl,hq⟩:=I0 hv
   obtain ⟨h1,h2⟩:=TX hs hq hds
   have h3:=Bq h
   have e:ds.map (fun c=>PV.d c.toD)=(stD i x).map .d:=by rw [← h3,List.map_map]; rfl
   refine ⟨by simp only [asData,h1,e],fun hn=>?_⟩
   obtain ⟨h4,h5⟩:=h2 hn
   exact ⟨by simpa [clean] using h4,by simp only [asData,h5,e]⟩
  ·cases h
 ·cases h
theorem ab7 {cs:List SD} {q:PV} (b:Nat→Option Box) (hv:bf B (.fe cs) q) : asData b q = .fe (cs.map SD.toD)∧clean q=true:=by
 cases hv with
 | fe _ ds h hn=>subst h; exact ⟨rfl,rfl⟩
theorem U9 {t:Ty} {v:SV} {q:PV} {x:t.den} (b:Nat→Option Box) (hv:bf B v q) (h:TV t v=some x) : asData b q = .fe [(ru t x).toD]∧clean q=true:=by
 unfold TV at h
 split at h
 ·rename_i c
  have e:(ru t x).toD=c.toD:=En h
  rw [e]
  exact ab7 b hv
 ·cases h
theorem UY {i:Nat} {v:SV} {q:PV} {x:ST i} (b:Nat→Option Box) (hv:bf B v q) (h:TU i v=some x) : asData b q = .fe (stD i x)∧clean q=true:=by
 unfold TU at h
 split at h
 ·rename_i cs
  rw [← Bq h]
  exact ab7 b hv
 ·cases h
theorem aaq (hs:Sim s p) {t:CT} {v:SV} {q:PV} {x:t.den} (hv:bf s.bx v q) (h:acb s t v=some x) : asData p.b q=toC t x∧(qd v=true→clean q=true∧asData dZ q=toC t x):=by
 cases t with
 | v t=>exact Yq hs hv h
 | a i=>exact ach hs hv h
 | pl t=>exact ⟨(U9 p.b hv h).1,fun _=>⟨(U9 p.b hv h).2,(U9 dZ hv h).1⟩⟩
 | ps i=>exact ⟨(UY p.b hv h).1,fun _=>⟨(UY p.b hv h).2,(UY dZ hv h).1⟩⟩
theorem GD (hs:Sim s p) : ∀ {ps:List CT} {vs:List SV} {qs:List PV} {x:vB ps},ch s.bx vs qs→Og s ps vs=some x→bR p.b qs=EL ps x∧(cF vs=true→cO qs=true∧bR dZ qs=EL ps x)
 | [],[],qs,x,hv,h=>by
  rcases hv.cases with ⟨_,rfl⟩ | ⟨_,_,_,_,h1,_⟩
  ·simp [bR,EL,cO]
  ·cases h1
 | [],_ :: _,_,_,_,h=>by cases h
 | _ :: _,[],_,_,_,h=>by cases h
 | t::ps,v::vs,qs,x,hv,h=>by
  rcases hv.cases with ⟨h1,_⟩ | ⟨v',q,vs',qs',h1,rfl,h2,h3⟩
  ·cases h1
  ·injection h1 with e1 e2
   subst e1 e2
   simp only [Og] at h
   obtain ⟨y,h4,h5⟩:=cQ h
   obtain ⟨ys,h6,h7⟩:=cQ h5
   injection h7 with h7
   subst h7
   obtain ⟨m1,m2⟩:=aaq hs h2 h4
   obtain ⟨m3,m4⟩:=GD hs h3 h6
   refine ⟨by simp [bR,EL,m1,m3],fun hn=>?_⟩
   simp only [cF] at hn
   split at hn
   ·rename_i hn1
    obtain ⟨n1,n2⟩:=m2 hn1
    obtain ⟨n3,n4⟩:=m4 hn
    simp [bR,cO,EL,n1,n2,n3,n4]
   ·cases hn
theorem aaH {f:FuncId} {ps qs:List SV} {q:PV} (h:bf B (.fn f ps qs) q) : ∃ ps' qs',q = .fn f ps' qs'∧ch B ps ps'∧ch B qs qs':=by
 cases h with
 | fn _ _ _ ps' qs' hl hr hl2 hr2=>exact ⟨ps',qs',rfl,⟨hl,hr⟩,hl2,hr2⟩
theorem Eo (hs:Sim s p) {t:PT} {v:SV} {q:PV} {x:t.den} (hv:bf s.bx v q) (h:Oj s t v=some x) : asData p.b q=p5 t x∧(qd v=true→clean q=true∧asData dZ q=p5 t x):=by
 cases t with
 | lf t=>exact Yq hs hv h
 | ag i=>exact ach hs hv h
 | pl t=>exact ⟨(U9 p.b hv h).1,fun _=>⟨(U9 p.b hv h).2,(U9 dZ hv h).1⟩⟩
 | ps i=>exact ⟨(UY p.b hv h).1,fun _=>⟨(UY p.b hv h).2,(UY dZ hv h).1⟩⟩
 | fn f a b =>
  have h:aby s f a b v=some x:=h
  unfold aby at h
  split at h
  ·rename_i f' ps qs
   split at h
   ·rename_i hf
    rw [db] at hf
    have hf:=zd hf
    subst hf
    obtain ⟨y,h4,h5⟩:=cQ h
    obtain ⟨ys,h6,h7⟩:=cQ h5
    injection h7 with h7
    subst h7
    obtain ⟨ps',qs',rfl,k1,k2⟩:=aaH hv
    obtain ⟨m1,m2⟩:=GD hs k1 h4
    obtain ⟨m3,m4⟩:=GD hs k2 h6
    refine ⟨by simp only [asData,p5,m1,m3],fun hn=>?_⟩
    simp only [qd] at hn
    split at hn
    ·rename_i hn1
     obtain ⟨n1,n2⟩:=m2 hn1
     obtain ⟨n3,n4⟩:=m4 hn
     exact ⟨by simp only [clean,n1,n3,Bool.and_self],by simp only [asData,p5,n2,n4]⟩
    ·cases hn
   ·cases h
  ·cases h
 | own=>exact dR (x:=x) h
 | mv=>exact dR (x:=x) h
 | bx=>exact dR (x:=x) h
 | agr=>exact dR (x:=x) h
 | io=>exact dR (x:=x) h
theorem Oi (hs:Sim s p) : ∀ {ps:List PT} {vs:List SV} {qs:List PV} {x:cg ps},ch s.bx vs qs→TW s ps vs=some x→bR p.b qs=sy ps x∧(cF vs=true→cO qs=true∧bR dZ qs=sy ps x)
 | [],[],qs,x,hv,h=>by
  rcases hv.cases with ⟨_,rfl⟩ | ⟨_,_,_,_,h1,_⟩
  ·simp [bR,sy,cO]
  ·cases h1
 | [],_ :: _,_,_,_,h=>by cases h
 | _ :: _,[],_,_,_,h=>by cases h
 | t::ps,v::vs,qs,x,hv,h=>by
  rcases hv.cases with ⟨h1,_⟩ | ⟨v',q,vs',qs',h1,rfl,h2,h3⟩
  ·cases h1
  ·injection h1 with e1 e2
   subst e1 e2
   simp only [TW] at h
   obtain ⟨y,h4,h5⟩:=cQ h
   obtain ⟨ys,h6,h7⟩:=cQ h5
   injection h7 with h7
   subst h7
   obtain ⟨m1,m2⟩:=Eo hs h2 h4
   obtain ⟨m3,m4⟩:=Oi hs h3 h6
   refine ⟨by simp [bR,sy,m1,m3],fun hn=>?_⟩
   simp only [cF] at hn
   split at hn
   ·rename_i hn1
    obtain ⟨n1,n2⟩:=m2 hn1
    obtain ⟨n3,n4⟩:=m4 hn
    simp [bR,cO,sy,n1,n2,n3,n4]
   ·cases hn
theorem KG (i:Nat) (x:ST i) : ch B (BI (stC i x)) ((stD i x).map .d):=by
 rw [← uX i x]
 exact Fy _ (xN i x)
theorem TH {t:Ty} (x:t.den) (h:∀ i,t≠.st i) : bf B (.fe [ru t x]) (.fe [(ru t x).toD]):=by
 refine .fe _ _ rfl fun c hc=>?_
 simp only [List.mem_cons,List.not_mem_nil,or_false] at hc
 subst hc
 cases t with
 | st i=>exact absurd rfl (h i)
 | _=>exact fun e=>by cases e
theorem Yl:∀ (t:CT) (x:t.den),acd t=true→bf B (ab9 t x) (toC t x)
 | .v (.int _),x,_=>fX _ _
 | .v .bool,x,_=>fa _
 | .v .str,x,_=>xk _
 | .v (.sl t),x,_=>PF t x
 | .v (.st i),x,h=>by cases h
 | .a i,x,_=>.ag _ _ (KG (B:=B) i x).len (KG i x).rep
 | .pl t,x,h=>TH x fun i e=>by subst e; cases h
 | .ps i,x,_=>.fe _ _ (uX i x).symm (xN i x)
theorem BW:∀ (ps:List CT) (x:vB ps),GG ps=true→ch B (JL ps x) (EL ps x)
 | [],_,_=>.nil
 | p::ps,x,h=>by
  simp only [GG] at h
  split at h
  ·rename_i hp; exact .cons (Yl p x.1 hp) (BW ps x.2 h)
  ·cases h
theorem zD:∀ (t:PT) (x:t.den),UA t=true→bf B (Vb t x) (p5 t x)
 | .lf (.int _),x,_=>fX _ _
 | .lf .bool,x,_=>fa _
 | .lf .str,x,_=>xk _
 | .lf (.sl t),x,_=>PF t x
 | .lf (.st i),x,h=>by cases h
 | .ag i,x,_=>.ag _ _ (KG (B:=B) i x).len (KG i x).rep
 | .pl t,x,h=>TH x fun i e=>by subst e; cases h
 | .ps i,x,_=>.fe _ _ (uX i x).symm (xN i x)
 | .fn f a b,x,h=>by
  have h:(match GG a with | true=>GG b | false=>false)=true:=h
  split at h
  ·rename_i h1
   have k1:=BW (B:=B) a x.1 h1
   have k2:=BW (B:=B) b x.2 h
   exact .fn f _ _ _ _ k1.len k1.rep k2.len k2.rep
  ·cases h
 | .own ..,x,h=>by cases h
 | .mv ..,x,h=>by cases h
 | .bx ..,x,h=>by cases h
 | .agr ..,x,h=>by cases h
 | .io _,x,h=>by cases h
theorem JM:∀ (ps:List PT) (x:cg ps),vd ps=true→ch B (C2 ps x) (sy ps x)
 | [],_,_=>.nil
 | p::ps,x,h=>by
  simp only [vd] at h
  split at h
  ·rename_i hp; exact .cons (zD p x.1 hp) (JM ps x.2 h)
  ·cases h
theorem BV:∀ (rs:List PT) (x:aX rs),vd rs=true→ch B (TN rs x) (yY rs x)
 | [],_,_=>.nil
 | [p],x,h=>by
  simp only [vd] at h
  split at h
  ·rename_i hp; exact .cons (zD p x hp) .nil
  ·cases h
 | p::q::l,x,h=>by
  have h':UA p=true∧vd (q::l)=true:=by
   rw [vd] at h
   split at h
   ·rename_i hp; exact ⟨hp,h⟩
   ·cases h
  exact .cons (zD p x.1 h'.1) (BV (q::l) x.2 h'.2)
theorem Yk (rs:List PT) (x:aX rs) (h:vd rs=true) : bf B (ab8 rs x) (toR rs x):=by
 match rs,x,h with
 | [],x,h=>exact .tup _ _ rfl (fun j c q h1=>by simp [TN] at h1)
 | [p],x,h =>
  have:=BV (B:=B) [p] x h
  exact this.head
 | p::q::l,x,h =>
  have:=BV (B:=B) (p::q::l) x h
  exact .tup _ _ this.len this.rep
theorem F9:∀ {ds:List D},(∀ d∈ds,∃ x,d = .v x)→vu (ds.map .d)=true
 | [],_=>rfl
 | d::ds,h=>by
  obtain ⟨x,rfl⟩:=h d List.mem_cons_self
  simp [vu,flat,F9 (fun d hd=>h d (List.mem_cons_of_mem _ hd))]
theorem JB:∀ (t:PT) (x:t.den),t.flat=true→flat (p5 t x)=true
 | .lf (.int _),_,_=>rfl
 | .lf .bool,_,_=>rfl
 | .lf .str,_,_=>rfl
 | .lf (.sl _),_,h=>by cases h
 | .lf (.st _),_,h=>by cases h
 | .ag i,x,h=>by
  simp only [p5,flat]
  exact F9 (abb i x h)
 | .pl _,_,h=>by cases h
 | .ps _,_,h=>by cases h
 | .fn _ _ _,_,h=>by cases h
 | .own ..,_,h=>by cases h
 | .mv ..,_,h=>by cases h
 | .bx ..,_,h=>by cases h
 | .agr ..,_,h=>by cases h
 | .io _,_,h=>by cases h
theorem JA:∀ (rs:List PT) (x:aX rs),rF rs=true→vu (yY rs x)=true
 | [],_,_=>rfl
 | [p],x,h=>by
  simp only [rF] at h
  split at h
  ·rename_i hp; simp [yY,vu,JB p x hp]
  ·cases h
 | p::q::l,x,h=>by
  have h':p.flat=true∧rF (q::l)=true:=by
   rw [rF] at h
   split at h
   ·rename_i hp; exact ⟨hp,h⟩
   ·cases h
  simp [yY,vu,JB p x.1 h'.1,JA (q::l) x.2 h'.2]
theorem vA:∀ (ds:List D),cO (ds.map .d)=true
 | []=>rfl
 | d::ds=>by simp [cO,clean,vA ds]
theorem Vp:∀ (t:CT) (x:t.den),clean (toC t x)=true
 | .v _,_=>rfl
 | .a i,x=>by simp [toC,clean,vA]
 | .pl _,_=>rfl
 | .ps _,_=>rfl
theorem GQ:∀ (cs:List CT) (x:vB cs),cO (EL cs x)=true
 | [],_=>rfl
 | c::cs,x=>by simp only [EL,cO,Vp c x.1,GQ cs x.2,Bool.and_self]
theorem dV:∀ (t:PT) (x:t.den),clean (p5 t x)=true
 | .lf _,_=>rfl
 | .ag i,x=>by simp [p5,clean,vA]
 | .pl _,_=>rfl
 | .ps _,_=>rfl
 | .fn _ a b,x=>by simp only [p5,clean,GQ,Bool.and_self]
 | .own ..,_=>rfl
 | .mv ..,_=>rfl
 | .bx ..,_=>rfl
 | .agr ..,_=>rfl
 | .io _,_=>rfl
theorem GP:∀ (rs:List PT) (x:aX rs),cO (yY rs x)=true
 | [],_=>rfl
 | [p],x=>by simp only [yY,cO,Bool.and_true]; exact dV p x
 | p::q::l,x=>by simp only [yY,cO,Bool.and_eq_true]; exact ⟨dV p x.1,GP (q::l) x.2⟩
theorem sw (rs:List PT) (x:aX rs) : (∃ p,yY rs x = [p]∧toR rs x=p)∨toR rs x = .tup (yY rs x):=by
 match rs,x with
 | [],x=>exact .inr rfl
 | [p],x=>exact .inl ⟨_,rfl,rfl⟩
 | p::q::l,x=>exact .inr rfl
theorem Ye (rs:List PT) (x:aX rs) (h:rF rs=true) : flat (toR rs x)=true:=by
 have:=JA rs x h
 rcases sw rs x with ⟨p,h1,h2⟩ | h1
 ·rw [h1] at this
  rw [h2]
  simpa [vu] using this
 ·rw [h1]
  simpa [flat] using this
theorem Vo (rs:List PT) (x:aX rs) : clean (toR rs x)=true:=by
 have:=GP rs x
 rcases sw rs x with ⟨p,h1,h2⟩ | h1
 ·rw [h1] at this
  rw [h2]
  simpa [cO] using this
 ·rw [h1]
  simpa [clean] using this
theorem YA {T:List (Nat×Ent)} (hT:rK P T) (hs:Sim s p) {f:Nat} {vs:List SV} {qs:List PV} (hM:UP T f vs=false) (hv:ch s.bx vs qs) {k:SV→Option ρ} {res : ρ} (h:T0 T f s vs k=some res) : ∃ v r,MA P f p.b qs r∧k v=some res∧bf s.bx v r:=by
 unfold T0 at h
 split at h
 ·cases h
 ·rename_i en hen
  have h0:=(aq h).1
  replace h:=(aq h).2
  have h1:=(aq h).1
  replace h:=(aq h).2
  obtain ⟨x,h2,h⟩:=cQ h
  obtain ⟨r,h3,h4⟩:=cQ h
  obtain ⟨m1,m2⟩:=Oi hs hv h2
  have hc:=(hT f _ en hen x r h3).1 (by unfold UP at hM; rw [hen] at hM; exact hM)
  refine ⟨_,toR en.rs r,?_,h4,Yk en.rs r h0⟩
  simp only [Bool.or_eq_true] at h1
  rcases h1 with h1 | h1
  ·obtain ⟨n1,n2⟩:=m2 h1
   exact .inl ⟨n1,Vo _ _,by rw [n2]; exact hc⟩
  ·exact .inr ⟨Ye _ _ h1,by rw [m1]; exact hc⟩
end
section
section
variable {P:Program} {n:Nat} {Qs:Exit→PS→Prop} {c:Code}
end
end
end Go.Proofs.YtmjkjaahbgikjaaGreat
