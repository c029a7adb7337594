/- My texts, in one. -/
import Derived.Test.YtmjkjaahbgikjaaGreatZA
set_option linter.all false
set_option maxRecDepth 100000
set_option maxHeartbeats 4000000
namespace Go.Proofs.YtmjkjaahbgikjaaGreat
open Go.RowKit
open IntKind (i64)
open Go.Proofs.Tryz (prog)
section
section
variable {α σ τ S:Type}
theorem aL {f : σ→Option (σ⊕τ)} (I : σ→Prop) (μ : σ→Nat) (Q : τ→Prop) (h:∀ s,I s→(∃ s',f s=some (.inl s')∧I s'∧μ s' < μ s)∨(∃ r,f s=some (.inr r)∧Q r)) : ∀ (N:Nat) (s : σ),I s→μ s < N→∃ r,ah f N s=some r∧Q r
 | 0,s,_,hm=>absurd hm (Nat.not_lt_zero _)
 | N + 1,s,hI,hm=>by
  rcases h s hI with ⟨s',h1,h2,h3⟩ | ⟨r,h1,h2⟩
  ·obtain ⟨r,h4,h5⟩:=aL I μ Q h N s' h2 (by omega)
   exact ⟨r,by simp only [ah,h1]; exact h4,h5⟩
  ·exact ⟨r,by simp only [ah,h1],h2⟩
def bh (g : σ→α→Option (σ⊕τ)) (fin : σ→τ) : σ→List α→Option τ
 | a,[]=>some (fin a)
 | a,x::l=>match g a x with
  | none=>none
  | some (.inl a')=>bh g fin a' l
  | some (.inr r)=>some r
def nT (g : σ→Int→α→Option (σ⊕τ)) (fin : σ→τ) : σ→Nat→List α→Option τ
 | a,_,[]=>some (fin a)
 | a,k,x::l=>match g a (k:Int) x with
  | none=>none
  | some (.inl a')=>nT g fin a' (k + 1) l
  | some (.inr r)=>some r
theorem uO (l:List α) (mk : σ→Int→S) (f:S→Option (S⊕τ)) (g : σ→Int→α→Option (σ⊕τ)) (fin : σ→τ)
  (hstep:∀ (k:Nat) (a : σ) (x : α),l[k]? = some x→f (mk a (k:Int))=(g a (k:Int) x).map (fun o=>match o with | .inl a'=>.inl (mk a' ((k + 1:Nat) : Int)) | .inr r=>.inr r))
  (hend:∀ a,f (mk a (l.length:Int))=some (.inr (fin a))) : ∀ (N k:Nat) (a : σ),k≤l.length→l.length - k < N→ah f N (mk a (k:Int))=nT g fin a k (l.drop k)
 | 0,k,a,_,hN=>absurd hN (Nat.not_lt_zero _)
 | N + 1,k,a,hk,hN=>by
  by_cases hlt:k < l.length
  ·have hx:l[k]? = some l[k]:=zq hlt
   have hd:l.drop k=l[k] :: l.drop (k + 1):=(List.getElem_cons_drop hlt).symm
   rw [hd]
   simp only [ah,hstep k a _ hx,nT]
   cases hg:g a (k:Int) l[k] with
   | none=>rfl
   | some o =>
    cases o with
    | inl a'=>exact uO l mk f g fin hstep hend N (k + 1) a' hlt (by omega)
    | inr r=>rfl
  ·have:k=l.length:=by omega
   subst this
   simp only [ah,hend a,List.drop_length,nT]
theorem fh (l:List α) (mk : σ→Int→S) {f:S→Option (S⊕τ)} (g : σ→Int→α→Option (σ⊕τ)) (fin : σ→τ) {N:Nat} (hN:l.length < N)
  (hstep:∀ (k:Nat) (a : σ) (x : α),l[k]? = some x→f (mk a (k:Int))=(g a (k:Int) x).map (fun o=>match o with | .inl a'=>.inl (mk a' ((k + 1:Nat) : Int)) | .inr r=>.inr r))
  (hend:∀ a,f (mk a (l.length:Int))=some (.inr (fin a))) (a : σ) : ah f N (mk a 0)=nT g fin a 0 l:=by
 have:=uO l mk f g fin hstep hend N 0 a (Nat.zero_le _) (by omega)
 rwa [List.drop_zero] at this
theorem Ib {β γ δ : Type} (o:Option β) (k : β→Option γ) (f : γ→δ) : (o.bind k).map f=o.bind fun x=>(k x).map f:=by cases o <;> rfl
theorem Wi {γ δ : Type} {c:Bool} (a b:Option γ) (f : γ→δ) : (if c=true then a else b).map f=if c=true then a.map f else b.map f:=by cases c <;> rfl
theorem YK {β γ δ ε : Type} (o : β⊕γ) (a : β→Option δ) (b : γ→Option δ) (f : δ→ε) : (match o with | .inr y=>b y | .inl x=>a x).map f=match o with | .inr y=>(b y).map f | .inl x=>(a x).map f:=by cases o <;> rfl
theorem wP (l:List α) (mk : σ→Int→S) (f:S→Option (S⊕τ)) (g : σ→α→Option (σ⊕τ)) (fin : σ→τ)
  (hstep:∀ (k:Nat) (a : σ) (x : α),l[k]? = some x→f (mk a (k:Int))=(g a x).map (fun o=>match o with | .inl a'=>.inl (mk a' ((k + 1:Nat) : Int)) | .inr r=>.inr r))
  (hend:∀ a,f (mk a (l.length:Int))=some (.inr (fin a))) : ∀ (N k:Nat) (a : σ),k≤l.length→l.length - k < N→ah f N (mk a (k:Int))=bh g fin a (l.drop k)
 | 0,k,a,_,hN=>absurd hN (Nat.not_lt_zero _)
 | N + 1,k,a,hk,hN=>by
  by_cases hlt:k < l.length
  ·have hx:l[k]? = some l[k]:=zq hlt
   have hd:l.drop k=l[k] :: l.drop (k + 1):=(List.getElem_cons_drop hlt).symm
   rw [hd]
   simp only [ah,hstep k a _ hx,bh]
   cases hg:g a l[k] with
   | none=>rfl
   | some o =>
    cases o with
    | inl a'=>exact wP l mk f g fin hstep hend N (k + 1) a' hlt (by omega)
    | inr r=>rfl
  ·have:k=l.length:=by omega
   subst this
   simp only [ah,hend a,List.drop_length,bh]
theorem ay (l:List α) (mk : σ→Int→S) {f:S→Option (S⊕τ)} (g : σ→α→Option (σ⊕τ)) (fin : σ→τ) {N:Nat} (hN:l.length < N)
  (hstep:∀ (k:Nat) (a : σ) (x : α),l[k]? = some x→f (mk a (k:Int))=(g a x).map (fun o=>match o with | .inl a'=>.inl (mk a' ((k + 1:Nat) : Int)) | .inr r=>.inr r))
  (hend:∀ a,f (mk a (l.length:Int))=some (.inr (fin a))) (a : σ) : ah f N (mk a 0)=bh g fin a l:=by
 have:=wP l mk f g fin hstep hend N 0 a (Nat.zero_le _) (by omega)
 rwa [List.drop_zero] at this
theorem wO (l:List α) (p : α→Bool) {f:Int→Option (Int⊕Int)} (hstep:∀ (k:Nat) (x : α),l[k]? = some x→f (k:Int)=if p x=true then some (.inl ((k + 1:Nat) : Int)) else some (.inr (k:Int))) (hend:f (l.length:Int)=some (.inr (l.length:Int))) :
  ∀ (N k:Nat),k≤l.length→l.length - k < N→ah f N (k:Int)=some ((k + ((l.drop k).takeWhile p).length:Nat) : Int)
 | 0,k,_,hN=>absurd hN (Nat.not_lt_zero _)
 | N + 1,k,hk,hN=>by
  by_cases hlt:k < l.length
  ·have hx:l[k]? = some l[k]:=zq hlt
   have hd:l.drop k=l[k] :: l.drop (k + 1):=(List.getElem_cons_drop hlt).symm
   simp only [ah,hstep k _ hx]
   rw [hd,List.takeWhile_cons]
   cases hp:p l[k] with
   | true =>
    simp only [if_true]
    rw [wO l p hstep hend N (k + 1) hlt (by omega)]
    simp only [List.length_cons]
    congr 2
    omega
   | false=>simp
  ·have:k=l.length:=by omega
   subst this
   simp only [ah,hend,List.drop_length,List.takeWhile_nil,List.length_nil,Nat.add_zero]
theorem xy (l:List α) (p : α→Bool) {f:Int→Option (Int⊕Int)} {N:Nat} (hN:l.length < N) (hstep:∀ (k:Nat) (x : α),l[k]? = some x→f (k:Int)=if p x=true then some (.inl ((k + 1:Nat) : Int)) else some (.inr (k:Int))) (hend:f (l.length:Int)=some (.inr (l.length:Int))) :
  ah f N 0=some ((l.takeWhile p).length:Int):=by
 have:=wO l p hstep hend N 0 (Nat.zero_le _) (by omega)
 simpa using this
theorem oX (p : α→Bool) (l:List α) : (l.takeWhile p).length≤l.length:=(List.takeWhile_sublist p).length_le
theorem mS {l:List α} {k:Nat} (h:k≤l.length) : hiO l (k:Int)=some (l.take k):=by
 unfold hiO
 rw [if_pos ⟨Int.natCast_nonneg k,by rw [zt]; exact h⟩,zt]
theorem jQ {l:List α} {k:Nat} (h:k≤l.length) : loO l (k:Int)=some (l.drop k):=by
 unfold loO
 rw [if_pos ⟨Int.natCast_nonneg k,by rw [zt]; exact h⟩,zt]
theorem aE {l m:List α} (h:l.length + m.length≤1000000) : aU l m=some (l++m):=by unfold aU; rw [if_pos h]
theorem aR {g : σ→α→Option (σ⊕τ)} {fin : σ→τ} (I:Nat→σ→Prop) (Q : τ→Prop) : ∀ (l:List α) (k:Nat) (a : σ),(∀ (j:Nat) (a : σ) (x : α),l[j]? = some x→I (k + j) a→∃ o,g a x=some o∧(∀ a',o = .inl a'→I (k + j + 1) a')∧∀ r,o = .inr r→Q r)→(∀ a,I (k + l.length) a→Q (fin a))→I k a→∃ r,bh g fin a l=some r∧Q r
 | [],k,a,_,hf,hI=>⟨fin a,rfl,hf a hI⟩
 | x::l,k,a,h,hf,hI=>by
  obtain ⟨o,h1,h2,h3⟩:=h 0 a x rfl hI
  cases o with
  | inl a' =>
   obtain ⟨r,h4,h5⟩:=aR I Q l (k + 1) a' (fun j a x hj hI=>by
    have:=h (j + 1) a x hj (by rw [show k + (j + 1)=k + 1 + j by omega]; exact hI)
    rw [show k + (j + 1) + 1=k + 1 + j + 1 by omega] at this
    exact this) (fun a hI=>hf a (by rw [List.length_cons,show k + (l.length + 1)=k + 1 + l.length by omega]; exact hI)) (h2 a' rfl)
   exact ⟨r,by simp only [bh,h1]; exact h4,h5⟩
  | inr r=>exact ⟨r,by simp only [bh,h1],h3 r rfl⟩
theorem Mt {l:List α} {i:Int} (h0 : 0≤i) (h1:i < (l.length:Int)) : ∃ x,aw l i=some x∧x∈l:=by
 unfold aw
 rw [if_pos h0]
 have:i.toNat < l.length:=by omega
 exact ⟨l[i.toNat],zq this,List.getElem_mem this⟩
theorem orB (a b:Bool) : (if a=true then some true else some b)=some (a||b):=by cases a <;> rfl
theorem du (a b:Bool) : (if a=true then some b else some false)=some (a&&b):=by cases a <;> rfl
theorem cg (p : α→Bool) (q : α→σ) {ρ : Type} (fin:List σ→ρ) : ∀ (l:List α) (acc:List σ),acc.length + l.length≤1000000→bh (fun acc x=>if p x=true then (aU acc [q x]).map (fun a=>(.inl a:List σ⊕ρ)) else some (.inl acc)) fin acc l=some (fin (acc++(l.filter p).map q))
 | [],acc,_=>by simp [bh]
 | x::l,acc,h=>by
  simp only [List.length_cons] at h
  simp only [bh,List.filter_cons]
  cases hp:p x with
  | true =>
   simp only [if_true,aE (show acc.length + [q x].length≤1000000 by simp; omega),Option.map_some]
   rw [cg p q fin l _ (by simp; omega)]
   simp
  | false=>simpa using cg p q fin l acc (by omega)
def dn (key : α→Int) (l:List α) (a : α) : List α :=
 l.take (l.takeWhile fun x=>decide (key x < key a)).length++a::l.drop (match l[(l.takeWhile fun x=>decide (key x < key a)).length]? with | some x=>if (key x==key a)=true then (l.takeWhile fun x=>decide (key x < key a)).length + 1 else (l.takeWhile fun x=>decide (key x < key a)).length | none=>(l.takeWhile fun x=>decide (key x < key a)).length)
theorem aD {l:List α} {k:Nat} {x : α} (h:l[k]? = some x) : aw l (k:Int)=some x:=by
 unfold aw
 rw [if_pos (Int.natCast_nonneg k),zt,h]
theorem bM {l:List α} {k:Nat} {x : α} (h:l[k]? = some x) : decide ((k:Int) < (l.length:Int))=true:=by
 have:=(zg.1 h).1
 simpa using this
theorem bE (l:List α) : decide ((l.length:Int) < (l.length:Int))=false:=by simp
theorem a6 {k n:Nat} (h:k < n) (hn:n≤1000000) : i64.wrap ((k:Int) + 1)=((k + 1:Nat) : Int):=aaB k (by omega)
theorem an {n:Nat} (h:n≤1000000) : n < ab:=by unfold ab; omega
theorem td (h : σ→α→σ) (fin : σ→τ) : ∀ (l:List α) (a : σ),bh (fun a x=>some (.inl (h a x))) fin a l=some (fin (l.foldl h a))
 | [],_=>rfl
 | x::l,a=>td h fin l (h a x)
theorem te (p : α→Bool) (q : α→τ) (d : τ) : ∀ l:List α,bh (fun (_:Unit) x=>if p x=true then some (.inr (q x)) else some (.inl ())) (fun _=>d) () l=some (((l.find? p).map q).getD d)
 | []=>rfl
 | x::l=>by
  simp only [bh,List.find?_cons]
  cases hp:p x with
  | true=>rfl
  | false=>simpa using te p q d l
end
theorem bK {α : Type} {a b:Option α} (h:a=b:=by (have hk:=(zg.1 hx).1; simp only [bM hx,if_true,aD hx,zb,a6 hk hl,Ib,Wi,YK,Option.map_some]; all_goals (repeat (first | rfl | (refine congrArg (Option.bind _) (funext fun r_=>?_)) | (refine iteB ?_ ?_) | (cases r_ <;> rfl))))) : a=b:=h
theorem cI {α : Type} {a b:Option α} (h:a=b:=by simp only [bE,zf,if_false]) : a=b:=h
end
inductive Ty where
 | int (k:IntKind)
 | bool
 | str
 | sl (t:Ty)
 | st (i:Nat)
def Ty.same:(a b:Ty)→Option (PLift (a=b))
 | .int j,.int k=>if h:j=k then some ⟨by rw [h]⟩ else none
 | .bool,.bool=>some ⟨rfl⟩
 | .str,.str=>some ⟨rfl⟩
 | .sl a,.sl b=>match Ty.same a b with | some ⟨h⟩=>some ⟨by rw [h]⟩ | none=>none
 | .st i,.st j=>if h:i=j then some ⟨by rw [h]⟩ else none
 | _,_=>none
def lhO {α : Type} (l:List α) (a b:Int) : Option (List α):=if 0≤a∧0≤b∧a.toNat≤b.toNat∧b.toNat≤l.length then some ((l.drop a.toNat).take (b.toNat - a.toNat)) else none
def ST:Nat→Type
 | 0=>az
 | 1=>aM
 | 2=>aq
 | 3=>eu
 | 4=>ax
 | 5=>av
 | 6=>am
 | 7=>aX
 | 8=>a7
 | 9=>aK
 | 10=>bw
 | 11=>bz
 | 12=>aa
 | 15=>aP
 | 16=>aH
 | 17=>bb
 | 18=>ai
 | _=>Unit
def Ty.den:Ty→Type
 | .int _=>Int
 | .bool=>Bool
 | .str=>ByteArray
 | .sl t=>List (Ty.den t)
 | .st i=>ST i
inductive SD where
 | int (k:IntKind) (x:Int)
 | bool (b:Bool)
 | str (s:ByteArray)
 | sl (t:Ty) (xs:List t.den)
 | nl
def stD:(i:Nat)→ST i→List D
 | 0,x=>az.d x
 | 1,x=>aM.d x
 | 2,x=>aq.d x
 | 3,x=>eu.d x
 | 4,x=>ax.d x
 | 5,x=>av.d x
 | 6,x=>am.d x
 | 7,x=>aX.d x
 | 8,x=>a7.d x
 | 9,x=>aK.d x
 | 10,x=>bw.d x
 | 11,x=>bz.d x
 | 12,x=>aa.d x
 | 15,x=>aP.d x
 | 16,x=>aH.d x
 | 17,x=>bb.d x
 | 18,x=>ai.d x
 | 13,_=>[]
 | 14,_=>[]
 | _ + 19,_=>[]
def bH:(t:Ty)→t.den→List D
 | .int k,x=>[.v (.int k x)]
 | .bool,x=>[.v (.bool x)]
 | .str,x=>[.v (.string x)]
 | .sl t,xs=>[.sl (List.map (bH t) xs)]
 | .st i,x=>stD i x
def yV {t u:Ty} (h:t=u) (xs:List t.den) : List u.den:=h ▸ xs
def SD.toD:SD→D
 | .int k x=>.v (.int k x)
 | .bool x=>.v (.bool x)
 | .str x=>.v (.string x)
 | .sl t xs=>.sl (List.map (bH t) xs)
 | .nl=>.sl []
def SD.as:(t:Ty)→SD→Option t.den
 | .int k,.int k' x=>if k' = k then some x else none
 | .bool,.bool x=>some x
 | .str,.str x=>some x
 | .sl t,.sl t' xs=>match Ty.same t' t with | some ⟨h⟩=>some (yV h xs) | none=>none
 | .sl t,.nl=>some ([] : List t.den)
 | _,_=>none
def qL:(t:Ty)→t.den→SD
 | .int k,x=>.int k x
 | .bool,x=>.bool x
 | .str,x=>.str x
 | .sl t,xs=>.sl t xs
 | .st _,_=>.nl
def stN:Nat→Nat
 | 0=>2
 | 1=>8
 | 2=>14
 | 3=>2
 | 4=>3
 | 5=>2
 | 6=>9
 | 7=>8
 | 8=>6
 | 9=>35
 | 10=>5
 | 11=>3
 | 12=>10
 | 15=>5
 | 16=>3
 | 17=>2
 | 18=>2
 | _=>0
def abl:TypeId→Option Nat
 | 27=>some 0
 | 123=>some 1
 | 30=>some 2
 | 98=>some 3
 | 63=>some 4
 | 36=>some 5
 | 91=>some 6
 | 72=>some 7
 | 74=>some 8
 | 76=>some 9
 | 66=>some 10
 | 93=>some 11
 | 43=>some 12
 | 78=>some 15
 | 25=>some 16
 | 243=>some 17
 | 199=>some 18
 | _=>none
def stF:Nat→Bool
 | 0=>true
 | 1=>true
 | 2=>false
 | 3=>true
 | 4=>false
 | 5=>false
 | 6=>true
 | 7=>true
 | 8=>true
 | 9=>false
 | 10=>false
 | 11=>true
 | 12=>false
 | 15=>true
 | 16=>false
 | 17=>true
 | 18=>true
 | _=>true
def stC:(i:Nat)→ST i→List SD
 | 0,(x:az)=>[.int .i64 x.bD,.int .i64 x.be]
 | 1,(x:aM)=>[.int .i64 x.bq,.int .i64 x.aY,.int .i64 x.cF.bD,.int .i64 x.cF.be,.int .i64 x.fZ,.int .i64 x.bJ,.int .i64 x.eX,.int .i64 x.gV]
 | 2,(x:aq)=>[.int .i64 x.fId,.int .i64 x.da,.str x.bC,.int .i64 x.cy,.int .i64 x.bq,.int .i64 x.a8.bD,.int .i64 x.a8.be,.sl (.st 1) x.bI,.int .i64 x.cH,.int .i64 x.cd,.sl (.int .i64) x.bP,.sl (.int .i64) x.dr,.sl (.int .i64) x.jO,.sl (.int .i64) x.jW]
 | 3,(x:eu)=>[.int .i64 x.kz,.int .i64 x.sr]
 | 4,(x:ax)=>[.str x.aC,.sl (.st 3) x.bu,.int .i64 x.cy]
 | 5,(x:av)=>[.sl (.str) x.ak,.sl (.st 4) x.ae]
 | 6,(x:am)=>[.int .i64 x.fId,.int .i64 x.bG,.int .i64 x.bJ,.int .i64 x.cF.bD,.int .i64 x.cF.be,.int .i64 x.bq,.int .i64 x.aY,.bool x.a8,.int .i64 x.ju]
 | 7,(x:aX)=>[.int .i64 x.fId,.int .i64 x.aY,.int .i64 x.eX,.int .i64 x.kT.bD,.int .i64 x.kT.be,.int .i64 x.cH,.int .i64 x.cd,.bool x.fUp]
 | 8,(x:a7)=>[.int .i64 x.fId,.int .i64 x.aY,.int .i64 x.n6,.int .i64 x.jR,.int .i64 x.iR.bD,.int .i64 x.iR.be]
 | 9,(x:aK)=>[.int .i64 x.ig,.int .i64 x.fId,.int .i64 x.cd,.int .i64 x.fN,.str x.MF,.int .i64 x.bJ.fId,.int .i64 x.bJ.aY,.int .i64 x.bJ.eX,.int .i64 x.bJ.kT.bD,.int .i64 x.bJ.kT.be,.int .i64 x.bJ.cH,.int .i64 x.bJ.cd,.bool x.bJ.fUp,.int .i64 x.bG.fId,.int .i64 x.bG.da,.str x.bG.bC,.int .i64 x.bG.cy,.int .i64 x.bG.bq,.int .i64 x.bG.a8.bD,.int .i64 x.bG.a8.be,.sl (.st 1) x.bG.bI,.int .i64 x.bG.cH,.int .i64 x.bG.cd,.sl (.int .i64) x.bG.bP,.sl (.int .i64) x.bG.dr,.sl (.int .i64) x.bG.jO,.sl (.int .i64) x.bG.jW,.sl (.st 1) x.bI,.sl (.int .i64) x.fY,.int .i64 x.pR.fId,.int .i64 x.pR.aY,.int .i64 x.pR.n6,.int .i64 x.pR.jR,.int .i64 x.pR.iR.bD,.int .i64 x.pR.iR.be]
 | 10,(x:bw)=>[.int .i64 x.aah,.sl (.st 6) x.ac,.sl (.int .i64) x.fY,.sl (.int .i64) x.ZG,.int .i64 x.fN]
 | 11,(x:bz)=>[.int .i64 x.bJ,.int .i64 x.bG,.int .i64 x.bq]
 | 12,(x:aa)=>[.sl (.str) x.bN.ak,.sl (.st 4) x.bN.ae,.sl (.st 7) x.aB,.sl (.st 2) x.aj,.sl (.st 6) x.ac,.sl (.st 11) x.aQ,.sl (.st 8) x.bl,.int .i64 x.cO,.int .i64 x.pT,.int .i64 x.sq]
 | 15,(x:aP)=>[.int .i64 x.ig,.int .i64 x.fA,.int .i64 x.fB,.int .i64 x.fC,.int .i64 x.fD]
 | 16,(x:aH)=>[.int .i64 x.J7,.sl (.int .i64) x.fNs,.sl (.st 15) x.mz]
 | 17,(x:bb)=>[.int .i64 x.fA,.int .i64 x.fP]
 | 18,(x:ai)=>[.str x.aC,.int .i64 x.bD]
 | 13,_=>[]
 | 14,_=>[]
 | _ + 19,_=>[]
def az.k:List SD→Option az
 | c0::c1 :: []=>Option.bind (c0.as (.int .i64)) fun x0=>Option.bind (c1.as (.int .i64)) fun x1=>some (⟨x0,x1⟩ : az)
 | _=>none
def aM.k:List SD→Option aM
 | c0::c1::c2::c3::c4::c5::c6::c7 :: []=>Option.bind (c0.as (.int .i64)) fun x0=>Option.bind (c1.as (.int .i64)) fun x1=>Option.bind (c2.as (.int .i64)) fun x2=>Option.bind (c3.as (.int .i64)) fun x3=>Option.bind (c4.as (.int .i64)) fun x4=>Option.bind (c5.as (.int .i64)) fun x5=>Option.bind (c6.as (.int .i64)) fun x6=>Option.bind (c7.as (.int .i64)) fun x7=>some (⟨x0,x1,⟨x2,x3⟩,x4,x5,x6,x7⟩ : aM)
 | _=>none
def aq.k:List SD→Option aq
 | c0::c1::c2::c3::c4::c5::c6::c7::c8::c9::c10::c11::c12::c13 :: []=>Option.bind (c0.as (.int .i64)) fun x0=>Option.bind (c1.as (.int .i64)) fun x1=>Option.bind (c2.as (.str)) fun x2=>Option.bind (c3.as (.int .i64)) fun x3=>Option.bind (c4.as (.int .i64)) fun x4=>Option.bind (c5.as (.int .i64)) fun x5=>Option.bind (c6.as (.int .i64)) fun x6=>Option.bind (c7.as (.sl (.st 1))) fun x7=>Option.bind (c8.as (.int .i64)) fun x8=>Option.bind (c9.as (.int .i64)) fun x9=>Option.bind (c10.as (.sl (.int .i64))) fun x10=>Option.bind (c11.as (.sl (.int .i64))) fun x11=>Option.bind (c12.as (.sl (.int .i64))) fun x12=>Option.bind (c13.as (.sl (.int .i64))) fun x13=>some (⟨x0,x1,x2,x3,x4,⟨x5,x6⟩,x7,x8,x9,x10,x11,x12,x13⟩ : aq)
 | _=>none
def eu.k:List SD→Option eu
 | c0::c1 :: []=>Option.bind (c0.as (.int .i64)) fun x0=>Option.bind (c1.as (.int .i64)) fun x1=>some (⟨x0,x1⟩ : eu)
 | _=>none
def ax.k:List SD→Option ax
 | c0::c1::c2 :: []=>Option.bind (c0.as (.str)) fun x0=>Option.bind (c1.as (.sl (.st 3))) fun x1=>Option.bind (c2.as (.int .i64)) fun x2=>some (⟨x0,x1,x2⟩ : ax)
 | _=>none
def av.k:List SD→Option av
 | c0::c1 :: []=>Option.bind (c0.as (.sl (.str))) fun x0=>Option.bind (c1.as (.sl (.st 4))) fun x1=>some (⟨x0,x1⟩ : av)
 | _=>none
def am.k:List SD→Option am
 | c0::c1::c2::c3::c4::c5::c6::c7::c8 :: []=>Option.bind (c0.as (.int .i64)) fun x0=>Option.bind (c1.as (.int .i64)) fun x1=>Option.bind (c2.as (.int .i64)) fun x2=>Option.bind (c3.as (.int .i64)) fun x3=>Option.bind (c4.as (.int .i64)) fun x4=>Option.bind (c5.as (.int .i64)) fun x5=>Option.bind (c6.as (.int .i64)) fun x6=>Option.bind (c7.as (.bool)) fun x7=>Option.bind (c8.as (.int .i64)) fun x8=>some (⟨x0,x1,x2,⟨x3,x4⟩,x5,x6,x7,x8⟩ : am)
 | _=>none
def aX.k:List SD→Option aX
 | c0::c1::c2::c3::c4::c5::c6::c7 :: []=>Option.bind (c0.as (.int .i64)) fun x0=>Option.bind (c1.as (.int .i64)) fun x1=>Option.bind (c2.as (.int .i64)) fun x2=>Option.bind (c3.as (.int .i64)) fun x3=>Option.bind (c4.as (.int .i64)) fun x4=>Option.bind (c5.as (.int .i64)) fun x5=>Option.bind (c6.as (.int .i64)) fun x6=>Option.bind (c7.as (.bool)) fun x7=>some (⟨x0,x1,x2,⟨x3,x4⟩,x5,x6,x7⟩ : aX)
 | _=>none
def a7.k:List SD→Option a7
 | c0::c1::c2::c3::c4::c5 :: []=>Option.bind (c0.as (.int .i64)) fun x0=>Option.bind (c1.as (.int .i64)) fun x1=>Option.bind (c2.as (.int .i64)) fun x2=>Option.bind (c3.as (.int .i64)) fun x3=>Option.bind (c4.as (.int .i64)) fun x4=>Option.bind (c5.as (.int .i64)) fun x5=>some (⟨x0,x1,x2,x3,⟨x4,x5⟩⟩ : a7)
 | _=>none
def aK.k:List SD→Option aK
 | c0::c1::c2::c3::c4::c5::c6::c7::c8::c9::c10::c11::c12::c13::c14::c15::c16::c17::c18::c19::c20::c21::c22::c23::c24::c25::c26::c27::c28::c29::c30::c31::c32::c33::c34 :: []=>Option.bind (c0.as (.int .i64)) fun x0=>Option.bind (c1.as (.int .i64)) fun x1=>Option.bind (c2.as (.int .i64)) fun x2=>Option.bind (c3.as (.int .i64)) fun x3=>Option.bind (c4.as (.str)) fun x4=>Option.bind (c5.as (.int .i64)) fun x5=>Option.bind (c6.as (.int .i64)) fun x6=>Option.bind (c7.as (.int .i64)) fun x7=>Option.bind (c8.as (.int .i64)) fun x8=>Option.bind (c9.as (.int .i64)) fun x9=>Option.bind (c10.as (.int .i64)) fun x10=>Option.bind (c11.as (.int .i64)) fun x11=>Option.bind (c12.as (.bool)) fun x12=>Option.bind (c13.as (.int .i64)) fun x13=>Option.bind (c14.as (.int .i64)) fun x14=>Option.bind (c15.as (.str)) fun x15=>Option.bind (c16.as (.int .i64)) fun x16=>Option.bind (c17.as (.int .i64)) fun x17=>Option.bind (c18.as (.int .i64)) fun x18=>Option.bind (c19.as (.int .i64)) fun x19=>Option.bind (c20.as (.sl (.st 1))) fun x20=>Option.bind (c21.as (.int .i64)) fun x21=>Option.bind (c22.as (.int .i64)) fun x22=>Option.bind (c23.as (.sl (.int .i64))) fun x23=>Option.bind (c24.as (.sl (.int .i64))) fun x24=>Option.bind (c25.as (.sl (.int .i64))) fun x25=>Option.bind (c26.as (.sl (.int .i64))) fun x26=>Option.bind (c27.as (.sl (.st 1))) fun x27=>Option.bind (c28.as (.sl (.int .i64))) fun x28=>Option.bind (c29.as (.int .i64)) fun x29=>Option.bind (c30.as (.int .i64)) fun x30=>Option.bind (c31.as (.int .i64)) fun x31=>Option.bind (c32.as (.int .i64)) fun x32=>Option.bind (c33.as (.int .i64)) fun x33=>Option.bind (c34.as (.int .i64)) fun x34=>some (⟨x0,x1,x2,x3,x4,⟨x5,x6,x7,⟨x8,x9⟩,x10,x11,x12⟩,⟨x13,x14,x15,x16,x17,⟨x18,x19⟩,x20,x21,x22,x23,x24,x25,x26⟩,x27,x28,⟨x29,x30,x31,x32,⟨x33,x34⟩⟩⟩ : aK)
 | _=>none
def bw.k:List SD→Option bw
 | c0::c1::c2::c3::c4 :: []=>Option.bind (c0.as (.int .i64)) fun x0=>Option.bind (c1.as (.sl (.st 6))) fun x1=>Option.bind (c2.as (.sl (.int .i64))) fun x2=>Option.bind (c3.as (.sl (.int .i64))) fun x3=>Option.bind (c4.as (.int .i64)) fun x4=>some (⟨x0,x1,x2,x3,x4⟩ : bw)
 | _=>none
def bz.k:List SD→Option bz
 | c0::c1::c2 :: []=>Option.bind (c0.as (.int .i64)) fun x0=>Option.bind (c1.as (.int .i64)) fun x1=>Option.bind (c2.as (.int .i64)) fun x2=>some (⟨x0,x1,x2⟩ : bz)
 | _=>none
def aa.k:List SD→Option aa
 | c0::c1::c2::c3::c4::c5::c6::c7::c8::c9 :: []=>Option.bind (c0.as (.sl (.str))) fun x0=>Option.bind (c1.as (.sl (.st 4))) fun x1=>Option.bind (c2.as (.sl (.st 7))) fun x2=>Option.bind (c3.as (.sl (.st 2))) fun x3=>Option.bind (c4.as (.sl (.st 6))) fun x4=>Option.bind (c5.as (.sl (.st 11))) fun x5=>Option.bind (c6.as (.sl (.st 8))) fun x6=>Option.bind (c7.as (.int .i64)) fun x7=>Option.bind (c8.as (.int .i64)) fun x8=>Option.bind (c9.as (.int .i64)) fun x9=>some (⟨⟨x0,x1⟩,x2,x3,x4,x5,x6,x7,x8,x9⟩ : aa)
 | _=>none
def aP.k:List SD→Option aP
 | c0::c1::c2::c3::c4 :: []=>Option.bind (c0.as (.int .i64)) fun x0=>Option.bind (c1.as (.int .i64)) fun x1=>Option.bind (c2.as (.int .i64)) fun x2=>Option.bind (c3.as (.int .i64)) fun x3=>Option.bind (c4.as (.int .i64)) fun x4=>some (⟨x0,x1,x2,x3,x4⟩ : aP)
 | _=>none
def aH.k:List SD→Option aH
 | c0::c1::c2 :: []=>Option.bind (c0.as (.int .i64)) fun x0=>Option.bind (c1.as (.sl (.int .i64))) fun x1=>Option.bind (c2.as (.sl (.st 15))) fun x2=>some (⟨x0,x1,x2⟩ : aH)
 | _=>none
def bb.k:List SD→Option bb
 | c0::c1 :: []=>Option.bind (c0.as (.int .i64)) fun x0=>Option.bind (c1.as (.int .i64)) fun x1=>some (⟨x0,x1⟩ : bb)
 | _=>none
def ai.k:List SD→Option ai
 | c0::c1 :: []=>Option.bind (c0.as (.str)) fun x0=>Option.bind (c1.as (.int .i64)) fun x1=>some (⟨x0,x1⟩ : ai)
 | _=>none
def stK:(i:Nat)→List SD→Option (ST i)
 | 0,cs=>az.k cs
 | 1,cs=>aM.k cs
 | 2,cs=>aq.k cs
 | 3,cs=>eu.k cs
 | 4,cs=>ax.k cs
 | 5,cs=>av.k cs
 | 6,cs=>am.k cs
 | 7,cs=>aX.k cs
 | 8,cs=>a7.k cs
 | 9,cs=>aK.k cs
 | 10,cs=>bw.k cs
 | 11,cs=>bz.k cs
 | 12,cs=>aa.k cs
 | 15,cs=>aP.k cs
 | 16,cs=>aH.k cs
 | 17,cs=>bb.k cs
 | 18,cs=>ai.k cs
 | 13,_=>none
 | 14,_=>none
 | _ + 19,_=>none
theorem SD.as_ok {t:Ty} {c:SD} {x:t.den} (h:c.as t=some x) : bH t x = [c.toD]:=by
 unfold SD.as at h
 split at h
 ·split at h
  ·rename_i hk
   subst hk
   injection h with h
   subst h
   rfl
  ·cases h
 ·injection h with h
  subst h
  rfl
 ·injection h with h
  subst h
  rfl
 ·split at h
  ·rename_i hk _
   subst hk
   injection h with h
   subst h
   rfl
  ·cases h
 ·injection h with h
  subst h
  rfl
 ·cases h
theorem uy:∀ (i:Nat) (x:ST i),(stC i x).map SD.toD=stD i x
 | 0,(x:az)=>rfl
 | 1,(x:aM)=>rfl
 | 2,(x:aq)=>rfl
 | 3,(x:eu)=>rfl
 | 4,(x:ax)=>rfl
 | 5,(x:av)=>rfl
 | 6,(x:am)=>rfl
 | 7,(x:aX)=>rfl
 | 8,(x:a7)=>rfl
 | 9,(x:aK)=>rfl
 | 10,(x:bw)=>rfl
 | 11,(x:bz)=>rfl
 | 12,(x:aa)=>rfl
 | 15,(x:aP)=>rfl
 | 16,(x:aH)=>rfl
 | 17,(x:bb)=>rfl
 | 18,(x:ai)=>rfl
 | 13,_=>rfl
 | 14,_=>rfl
 | _ + 19,_=>rfl
theorem xh:∀ (i:Nat) (x:ST i) (c:SD),c∈stC i x→c≠.nl
 | 0,(x:az),c,h=>by
  simp only [stC,List.mem_cons,List.not_mem_nil,or_false] at h
  rcases h with rfl | rfl <;> (intro e; cases e)
 | 1,(x:aM),c,h=>by
  simp only [stC,List.mem_cons,List.not_mem_nil,or_false] at h
  rcases h with rfl | rfl | rfl | rfl | rfl | rfl | rfl | rfl <;> (intro e; cases e)
 | 2,(x:aq),c,h=>by
  simp only [stC,List.mem_cons,List.not_mem_nil,or_false] at h
  rcases h with rfl | rfl | rfl | rfl | rfl | rfl | rfl | rfl | rfl | rfl | rfl | rfl | rfl | rfl <;> (intro e; cases e)
 | 3,(x:eu),c,h=>by
  simp only [stC,List.mem_cons,List.not_mem_nil,or_false] at h
  rcases h with rfl | rfl <;> (intro e; cases e)
 | 4,(x:ax),c,h=>by
  simp only [stC,List.mem_cons,List.not_mem_nil,or_false] at h
  rcases h with rfl | rfl | rfl <;> (intro e; cases e)
 | 5,(x:av),c,h=>by
  simp only [stC,List.mem_cons,List.not_mem_nil,or_false] at h
  rcases h with rfl | rfl <;> (intro e; cases e)
 | 6,(x:am),c,h=>by
  simp only [stC,List.mem_cons,List.not_mem_nil,or_false] at h
  rcases h with rfl | rfl | rfl | rfl | rfl | rfl | rfl | rfl | rfl <;> (intro e; cases e)
 | 7,(x:aX),c,h=>by
  simp only [stC,List.mem_cons,List.not_mem_nil,or_false] at h
  rcases h with rfl | rfl | rfl | rfl | rfl | rfl | rfl | rfl <;> (intro e; cases e)
 | 8,(x:a7),c,h=>by
  simp only [stC,List.mem_cons,List.not_mem_nil,or_false] at h
  rcases h with rfl | rfl | rfl | rfl | rfl | rfl <;> (intro e; cases e)
 | 9,(x:aK),c,h=>by
  simp only [stC,List.mem_cons,List.not_mem_nil,or_false] at h
  rcases h with rfl | rfl | rfl | rfl | rfl | rfl | rfl | rfl | rfl | rfl | rfl | rfl | rfl | rfl | rfl | rfl | rfl | rfl | rfl | rfl | rfl | rfl | rfl | rfl | rfl | rfl | rfl | rfl | rfl | rfl | rfl | rfl | rfl | rfl | rfl <;> (intro e; cases e)
 | 10,(x:bw),c,h=>by
  simp only [stC,List.mem_cons,List.not_mem_nil,or_false] at h
  rcases h with rfl | rfl | rfl | rfl | rfl <;> (intro e; cases e)
 | 11,(x:bz),c,h=>by
  simp only [stC,List.mem_cons,List.not_mem_nil,or_false] at h
  rcases h with rfl | rfl | rfl <;> (intro e; cases e)
 | 12,(x:aa),c,h=>by
  simp only [stC,List.mem_cons,List.not_mem_nil,or_false] at h
  rcases h with rfl | rfl | rfl | rfl | rfl | rfl | rfl | rfl | rfl | rfl <;> (intro e; cases e)
 | 15,(x:aP),c,h=>by
  simp only [stC,List.mem_cons,List.not_mem_nil,or_false] at h
  rcases h with rfl | rfl | rfl | rfl | rfl <;> (intro e; cases e)
 | 16,(x:aH),c,h=>by
  simp only [stC,List.mem_cons,List.not_mem_nil,or_false] at h
  rcases h with rfl | rfl | rfl <;> (intro e; cases e)
 | 17,(x:bb),c,h=>by
  simp only [stC,List.mem_cons,List.not_mem_nil,or_false] at h
  rcases h with rfl | rfl <;> (intro e; cases e)
 | 18,(x:ai),c,h=>by
  simp only [stC,List.mem_cons,List.not_mem_nil,or_false] at h
  rcases h with rfl | rfl <;> (intro e; cases e)
 | 13,_,c,h=>by cases h
 | 14,_,c,h=>by cases h
 | _ + 19,_,c,h=>by cases h
theorem Yk:∀ (i:Nat) (x:ST i),(stD i x).length=stN i
 | 0,(x:az)=>rfl
 | 1,(x:aM)=>rfl
 | 2,(x:aq)=>rfl
 | 3,(x:eu)=>rfl
 | 4,(x:ax)=>rfl
 | 5,(x:av)=>rfl
 | 6,(x:am)=>rfl
 | 7,(x:aX)=>rfl
 | 8,(x:a7)=>rfl
 | 9,(x:aK)=>rfl
 | 10,(x:bw)=>rfl
 | 11,(x:bz)=>rfl
 | 12,(x:aa)=>rfl
 | 15,(x:aP)=>rfl
 | 16,(x:aH)=>rfl
 | 17,(x:bb)=>rfl
 | 18,(x:ai)=>rfl
 | 13,_=>rfl
 | 14,_=>rfl
 | _ + 19,_=>rfl
theorem ZW:∀ (i:Nat) (x:ST i),stF i=true→∀ d∈stD i x,∃ y,d = .v y
 | 0,(x:az),_,d,h=>by
  simp only [stD,az.d,List.mem_cons,List.not_mem_nil,or_false] at h
  rcases h with rfl | rfl <;> exact ⟨_,rfl⟩
 | 1,(x:aM),_,d,h=>by
  simp only [stD,aM.d,List.mem_cons,List.not_mem_nil,or_false] at h
  rcases h with rfl | rfl | rfl | rfl | rfl | rfl | rfl | rfl <;> exact ⟨_,rfl⟩
 | 2,(x:aq),h,_,_=>by cases h
 | 3,(x:eu),_,d,h=>by
  simp only [stD,eu.d,List.mem_cons,List.not_mem_nil,or_false] at h
  rcases h with rfl | rfl <;> exact ⟨_,rfl⟩
 | 4,(x:ax),h,_,_=>by cases h
 | 5,(x:av),h,_,_=>by cases h
 | 6,(x:am),_,d,h=>by
  simp only [stD,am.d,List.mem_cons,List.not_mem_nil,or_false] at h
  rcases h with rfl | rfl | rfl | rfl | rfl | rfl | rfl | rfl | rfl <;> exact ⟨_,rfl⟩
 | 7,(x:aX),_,d,h=>by
  simp only [stD,aX.d,List.mem_cons,List.not_mem_nil,or_false] at h
  rcases h with rfl | rfl | rfl | rfl | rfl | rfl | rfl | rfl <;> exact ⟨_,rfl⟩
 | 8,(x:a7),_,d,h=>by
  simp only [stD,a7.d,List.mem_cons,List.not_mem_nil,or_false] at h
  rcases h with rfl | rfl | rfl | rfl | rfl | rfl <;> exact ⟨_,rfl⟩
 | 9,(x:aK),h,_,_=>by cases h
 | 10,(x:bw),h,_,_=>by cases h
 | 11,(x:bz),_,d,h=>by
  simp only [stD,bz.d,List.mem_cons,List.not_mem_nil,or_false] at h
  rcases h with rfl | rfl | rfl <;> exact ⟨_,rfl⟩
 | 12,(x:aa),h,_,_=>by cases h
 | 15,(x:aP),_,d,h=>by
  simp only [stD,aP.d,List.mem_cons,List.not_mem_nil,or_false] at h
  rcases h with rfl | rfl | rfl | rfl | rfl <;> exact ⟨_,rfl⟩
 | 16,(x:aH),h,_,_=>by cases h
 | 17,(x:bb),_,d,h=>by
  simp only [stD,bb.d,List.mem_cons,List.not_mem_nil,or_false] at h
  rcases h with rfl | rfl <;> exact ⟨_,rfl⟩
 | 18,(x:ai),_,d,h=>by
  simp only [stD,ai.d,List.mem_cons,List.not_mem_nil,or_false] at h
  rcases h with rfl | rfl <;> exact ⟨_,rfl⟩
 | 13,_,_,_,h=>by cases h
 | 14,_,_,_,h=>by cases h
 | _ + 19,_,_,_,h=>by cases h
theorem cN {α β : Type} {o:Option α} {k : α→Option β} {r : β} (h:o.bind k=some r) : ∃ x,o=some x∧k x=some r:=by
 cases o with
 | none=>cases h
 | some x=>exact ⟨x,rfl,h⟩
theorem aN {t:Ty} {c:SD} {β : Type} {k:t.den→Option β} {r : β} (h:(c.as t).bind k=some r) : ∃ x,bH t x = [c.toD]∧k x=some r:=by
 obtain ⟨x,h1,h2⟩:=cN h
 exact ⟨x,SD.as_ok h1,h2⟩
theorem az.k_ok {cs:List SD} {x:az} (h:az.k cs=some x) : cs.map SD.toD=az.d x:=by
 unfold az.k at h
 split at h
 ·rename_i c0 c1
  obtain ⟨x0,q0,h⟩:=aN h
  obtain ⟨x1,q1,h⟩:=aN h
  injection h with h
  subst h
  simp only [bH,List.cons.injEq,and_true] at q0 q1
  simp only [List.map_cons,List.map_nil,az.d,← q0,← q1]
  try rfl
 ·cases h
theorem aM.k_ok {cs:List SD} {x:aM} (h:aM.k cs=some x) : cs.map SD.toD=aM.d x:=by
 unfold aM.k at h
 split at h
 ·rename_i c0 c1 c2 c3 c4 c5 c6 c7
  obtain ⟨x0,q0,h⟩:=aN h
  obtain ⟨x1,q1,h⟩:=aN h
  obtain ⟨x2,q2,h⟩:=aN h
  obtain ⟨x3,q3,h⟩:=aN h
  obtain ⟨x4,q4,h⟩:=aN h
  obtain ⟨x5,q5,h⟩:=aN h
  obtain ⟨x6,q6,h⟩:=aN h
  obtain ⟨x7,q7,h⟩:=aN h
  injection h with h
  subst h
  simp only [bH,List.cons.injEq,and_true] at q0 q1 q2 q3 q4 q5 q6 q7
  simp only [List.map_cons,List.map_nil,aM.d,← q0,← q1,← q2,← q3,← q4,← q5,← q6,← q7]
  try rfl
 ·cases h
theorem aq.k_ok {cs:List SD} {x:aq} (h:aq.k cs=some x) : cs.map SD.toD=aq.d x:=by
 unfold aq.k at h
 split at h
 ·rename_i c0 c1 c2 c3 c4 c5 c6 c7 c8 c9 c10 c11 c12 c13
  obtain ⟨x0,q0,h⟩:=aN h
  obtain ⟨x1,q1,h⟩:=aN h
  obtain ⟨x2,q2,h⟩:=aN h
  obtain ⟨x3,q3,h⟩:=aN h
  obtain ⟨x4,q4,h⟩:=aN h
  obtain ⟨x5,q5,h⟩:=aN h
  obtain ⟨x6,q6,h⟩:=aN h
  obtain ⟨x7,q7,h⟩:=aN h
  obtain ⟨x8,q8,h⟩:=aN h
  obtain ⟨x9,q9,h⟩:=aN h
  obtain ⟨x10,q10,h⟩:=aN h
  obtain ⟨x11,q11,h⟩:=aN h
  obtain ⟨x12,q12,h⟩:=aN h
  obtain ⟨x13,q13,h⟩:=aN h
  injection h with h
  subst h
  simp only [bH,List.cons.injEq,and_true] at q0 q1 q2 q3 q4 q5 q6 q7 q8 q9 q10 q11 q12 q13
  simp only [List.map_cons,List.map_nil,aq.d,← q0,← q1,← q2,← q3,← q4,← q5,← q6,← q7,← q8,← q9,← q10,← q11,← q12,← q13]
  try rfl
 ·cases h
theorem eu.k_ok {cs:List SD} {x:eu} (h:eu.k cs=some x) : cs.map SD.toD=eu.d x:=by
 unfold eu.k at h
 split at h
 ·rename_i c0 c1
  obtain ⟨x0,q0,h⟩:=aN h
  obtain ⟨x1,q1,h⟩:=aN h
  injection h with h
  subst h
  simp only [bH,List.cons.injEq,and_true] at q0 q1
  simp only [List.map_cons,List.map_nil,eu.d,← q0,← q1]
  try rfl
 ·cases h
theorem ax.k_ok {cs:List SD} {x:ax} (h:ax.k cs=some x) : cs.map SD.toD=ax.d x:=by
 unfold ax.k at h
 split at h
 ·rename_i c0 c1 c2
  obtain ⟨x0,q0,h⟩:=aN h
  obtain ⟨x1,q1,h⟩:=aN h
  obtain ⟨x2,q2,h⟩:=aN h
  injection h with h
  subst h
  simp only [bH,List.cons.injEq,and_true] at q0 q1 q2
  simp only [List.map_cons,List.map_nil,ax.d,← q0,← q1,← q2]
  try rfl
 ·cases h
theorem av.k_ok {cs:List SD} {x:av} (h:av.k cs=some x) : cs.map SD.toD=av.d x:=by
 unfold av.k at h
 split at h
 ·rename_i c0 c1
  obtain ⟨x0,q0,h⟩:=aN h
  obtain ⟨x1,q1,h⟩:=aN h
  injection h with h
  subst h
  simp only [bH,List.cons.injEq,and_true] at q0 q1
  simp only [List.map_cons,List.map_nil,av.d,← q0,← q1]
  try rfl
 ·cases h
theorem am.k_ok {cs:List SD} {x:am} (h:am.k cs=some x) : cs.map SD.toD=am.d x:=by
 unfold am.k at h
 split at h
 ·rename_i c0 c1 c2 c3 c4 c5 c6 c7 c8
  obtain ⟨x0,q0,h⟩:=aN h
  obtain ⟨x1,q1,h⟩:=aN h
  obtain ⟨x2,q2,h⟩:=aN h
  obtain ⟨x3,q3,h⟩:=aN h
  obtain ⟨x4,q4,h⟩:=aN h
  obtain ⟨x5,q5,h⟩:=aN h
  obtain ⟨x6,q6,h⟩:=aN h
  obtain ⟨x7,q7,h⟩:=aN h
  obtain ⟨x8,q8,h⟩:=aN h
  injection h with h
  subst h
  simp only [bH,List.cons.injEq,and_true] at q0 q1 q2 q3 q4 q5 q6 q7 q8
  simp only [List.map_cons,List.map_nil,am.d,← q0,← q1,← q2,← q3,← q4,← q5,← q6,← q7,← q8]
  try rfl
 ·cases h
theorem aX.k_ok {cs:List SD} {x:aX} (h:aX.k cs=some x) : cs.map SD.toD=aX.d x:=by
 unfold aX.k at h
 split at h
 ·rename_i c0 c1 c2 c3 c4 c5 c6 c7
  obtain ⟨x0,q0,h⟩:=aN h
  obtain ⟨x1,q1,h⟩:=aN h
  obtain ⟨x2,q2,h⟩:=aN h
  obtain ⟨x3,q3,h⟩:=aN h
  obtain ⟨x4,q4,h⟩:=aN h
  obtain ⟨x5,q5,h⟩:=aN h
  obtain ⟨x6,q6,h⟩:=aN h
  obtain ⟨x7,q7,h⟩:=aN h
  injection h with h
  subst h
  simp only [bH,List.cons.injEq,and_true] at q0 q1 q2 q3 q4 q5 q6 q7
  simp only [List.map_cons,List.map_nil,aX.d,← q0,← q1,← q2,← q3,← q4,← q5,← q6,← q7]
  try rfl
 ·cases h
theorem a7.k_ok {cs:List SD} {x:a7} (h:a7.k cs=some x) : cs.map SD.toD=a7.d x:=by
 unfold a7.k at h
 split at h
 ·rename_i c0 c1 c2 c3 c4 c5
  obtain ⟨x0,q0,h⟩:=aN h
  obtain ⟨x1,q1,h⟩:=aN h
  obtain ⟨x2,q2,h⟩:=aN h
  obtain ⟨x3,q3,h⟩:=aN h
  obtain ⟨x4,q4,h⟩:=aN h
  obtain ⟨x5,q5,h⟩:=aN h
  injection h with h
  subst h
  simp only [bH,List.cons.injEq,and_true] at q0 q1 q2 q3 q4 q5
  simp only [List.map_cons,List.map_nil,a7.d,← q0,← q1,← q2,← q3,← q4,← q5]
  try rfl
 ·cases h
theorem aK.k_ok {cs:List SD} {x:aK} (h:aK.k cs=some x) : cs.map SD.toD=aK.d x:=by
 unfold aK.k at h
 split at h
 ·rename_i c0 c1 c2 c3 c4 c5 c6 c7 c8 c9 c10 c11 c12 c13 c14 c15 c16 c17 c18 c19 c20 c21 c22 c23 c24 c25 c26 c27 c28 c29 c30 c31 c32 c33 c34
  obtain ⟨x0,q0,h⟩:=aN h
  obtain ⟨x1,q1,h⟩:=aN h
  obtain ⟨x2,q2,h⟩:=aN h
  obtain ⟨x3,q3,h⟩:=aN h
  obtain ⟨x4,q4,h⟩:=aN h
  obtain ⟨x5,q5,h⟩:=aN h
  obtain ⟨x6,q6,h⟩:=aN h
  obtain ⟨x7,q7,h⟩:=aN h
  obtain ⟨x8,q8,h⟩:=aN h
  obtain ⟨x9,q9,h⟩:=aN h
  obtain ⟨x10,q10,h⟩:=aN h
  obtain ⟨x11,q11,h⟩:=aN h
  obtain ⟨x12,q12,h⟩:=aN h
  obtain ⟨x13,q13,h⟩:=aN h
  obtain ⟨x14,q14,h⟩:=aN h
  obtain ⟨x15,q15,h⟩:=aN h
  obtain ⟨x16,q16,h⟩:=aN h
  obtain ⟨x17,q17,h⟩:=aN h
  obtain ⟨x18,q18,h⟩:=aN h
  obtain ⟨x19,q19,h⟩:=aN h
  obtain ⟨x20,q20,h⟩:=aN h
  obtain ⟨x21,q21,h⟩:=aN h
  obtain ⟨x22,q22,h⟩:=aN h
  obtain ⟨x23,q23,h⟩:=aN h
  obtain ⟨x24,q24,h⟩:=aN h
  obtain ⟨x25,q25,h⟩:=aN h
  obtain ⟨x26,q26,h⟩:=aN h
  obtain ⟨x27,q27,h⟩:=aN h
  obtain ⟨x28,q28,h⟩:=aN h
  obtain ⟨x29,q29,h⟩:=aN h
  obtain ⟨x30,q30,h⟩:=aN h
  obtain ⟨x31,q31,h⟩:=aN h
  obtain ⟨x32,q32,h⟩:=aN h
  obtain ⟨x33,q33,h⟩:=aN h
  obtain ⟨x34,q34,h⟩:=aN h
  injection h with h
  subst h
  simp only [bH,List.cons.injEq,and_true] at q0 q1 q2 q3 q4 q5 q6 q7 q8 q9 q10 q11 q12 q13 q14 q15 q16 q17 q18 q19 q20 q21 q22 q23 q24 q25 q26 q27 q28 q29 q30 q31 q32 q33 q34
  simp only [List.map_cons,List.map_nil,aK.d,← q0,← q1,← q2,← q3,← q4,← q5,← q6,← q7,← q8,← q9,← q10,← q11,← q12,← q13,← q14,← q15,← q16,← q17,← q18,← q19,← q20,← q21,← q22,← q23,← q24,← q25,← q26,← q27,← q28,← q29,← q30,← q31,← q32,← q33,← q34]
  try rfl
 ·cases h
theorem bw.k_ok {cs:List SD} {x:bw} (h:bw.k cs=some x) : cs.map SD.toD=bw.d x:=by
 unfold bw.k at h
 split at h
 ·rename_i c0 c1 c2 c3 c4
  obtain ⟨x0,q0,h⟩:=aN h
  obtain ⟨x1,q1,h⟩:=aN h
  obtain ⟨x2,q2,h⟩:=aN h
  obtain ⟨x3,q3,h⟩:=aN h
  obtain ⟨x4,q4,h⟩:=aN h
  injection h with h
  subst h
  simp only [bH,List.cons.injEq,and_true] at q0 q1 q2 q3 q4
  simp only [List.map_cons,List.map_nil,bw.d,← q0,← q1,← q2,← q3,← q4]
  try rfl
 ·cases h
theorem bz.k_ok {cs:List SD} {x:bz} (h:bz.k cs=some x) : cs.map SD.toD=bz.d x:=by
 unfold bz.k at h
 split at h
 ·rename_i c0 c1 c2
  obtain ⟨x0,q0,h⟩:=aN h
  obtain ⟨x1,q1,h⟩:=aN h
  obtain ⟨x2,q2,h⟩:=aN h
  injection h with h
  subst h
  simp only [bH,List.cons.injEq,and_true] at q0 q1 q2
  simp only [List.map_cons,List.map_nil,bz.d,← q0,← q1,← q2]
  try rfl
 ·cases h
theorem aa.k_ok {cs:List SD} {x:aa} (h:aa.k cs=some x) : cs.map SD.toD=aa.d x:=by
 unfold aa.k at h
 split at h
 ·rename_i c0 c1 c2 c3 c4 c5 c6 c7 c8 c9
  obtain ⟨x0,q0,h⟩:=aN h
  obtain ⟨x1,q1,h⟩:=aN h
  obtain ⟨x2,q2,h⟩:=aN h
  obtain ⟨x3,q3,h⟩:=aN h
  obtain ⟨x4,q4,h⟩:=aN h
  obtain ⟨x5,q5,h⟩:=aN h
  obtain ⟨x6,q6,h⟩:=aN h
  obtain ⟨x7,q7,h⟩:=aN h
  obtain ⟨x8,q8,h⟩:=aN h
  obtain ⟨x9,q9,h⟩:=aN h
  injection h with h
  subst h
  simp only [bH,List.cons.injEq,and_true] at q0 q1 q2 q3 q4 q5 q6 q7 q8 q9
  simp only [List.map_cons,List.map_nil,aa.d,← q0,← q1,← q2,← q3,← q4,← q5,← q6,← q7,← q8,← q9]
  try rfl
 ·cases h
theorem aP.k_ok {cs:List SD} {x:aP} (h:aP.k cs=some x) : cs.map SD.toD=aP.d x:=by
 unfold aP.k at h
 split at h
 ·rename_i c0 c1 c2 c3 c4
  obtain ⟨x0,q0,h⟩:=aN h
  obtain ⟨x1,q1,h⟩:=aN h
  obtain ⟨x2,q2,h⟩:=aN h
  obtain ⟨x3,q3,h⟩:=aN h
  obtain ⟨x4,q4,h⟩:=aN h
  injection h with h
  subst h
  simp only [bH,List.cons.injEq,and_true] at q0 q1 q2 q3 q4
  simp only [List.map_cons,List.map_nil,aP.d,← q0,← q1,← q2,← q3,← q4]
  try rfl
 ·cases h
theorem aH.k_ok {cs:List SD} {x:aH} (h:aH.k cs=some x) : cs.map SD.toD=aH.d x:=by
 unfold aH.k at h
 split at h
 ·rename_i c0 c1 c2
  obtain ⟨x0,q0,h⟩:=aN h
  obtain ⟨x1,q1,h⟩:=aN h
  obtain ⟨x2,q2,h⟩:=aN h
  injection h with h
  subst h
  simp only [bH,List.cons.injEq,and_true] at q0 q1 q2
  simp only [List.map_cons,List.map_nil,aH.d,← q0,← q1,← q2]
  try rfl
 ·cases h
theorem bb.k_ok {cs:List SD} {x:bb} (h:bb.k cs=some x) : cs.map SD.toD=bb.d x:=by
 unfold bb.k at h
 split at h
 ·rename_i c0 c1
  obtain ⟨x0,q0,h⟩:=aN h
  obtain ⟨x1,q1,h⟩:=aN h
  injection h with h
  subst h
  simp only [bH,List.cons.injEq,and_true] at q0 q1
  simp only [List.map_cons,List.map_nil,bb.d,← q0,← q1]
  try rfl
 ·cases h
theorem ai.k_ok {cs:List SD} {x:ai} (h:ai.k cs=some x) : cs.map SD.toD=ai.d x:=by
 unfold ai.k at h
 split at h
 ·rename_i c0 c1
  obtain ⟨x0,q0,h⟩:=aN h
  obtain ⟨x1,q1,h⟩:=aN h
  injection h with h
  subst h
  simp only [bH,List.cons.injEq,and_true] at q0 q1
  simp only [List.map_cons,List.map_nil,ai.d,← q0,← q1]
  try rfl
 ·cases h
theorem AH:∀ {i:Nat} {cs:List SD} {x:ST i},stK i cs=some x→cs.map SD.toD=stD i x
 | 0,_,(_:az),h=>az.k_ok h
 | 1,_,(_:aM),h=>aM.k_ok h
 | 2,_,(_:aq),h=>aq.k_ok h
 | 3,_,(_:eu),h=>eu.k_ok h
 | 4,_,(_:ax),h=>ax.k_ok h
 | 5,_,(_:av),h=>av.k_ok h
 | 6,_,(_:am),h=>am.k_ok h
 | 7,_,(_:aX),h=>aX.k_ok h
 | 8,_,(_:a7),h=>a7.k_ok h
 | 9,_,(_:aK),h=>aK.k_ok h
 | 10,_,(_:bw),h=>bw.k_ok h
 | 11,_,(_:bz),h=>bz.k_ok h
 | 12,_,(_:aa),h=>aa.k_ok h
 | 15,_,(_:aP),h=>aP.k_ok h
 | 16,_,(_:aH),h=>aH.k_ok h
 | 17,_,(_:bb),h=>bb.k_ok h
 | 18,_,(_:ai),h=>ai.k_ok h
 | 13,_,x,h=>by
  have h2:none=some x:=h
  cases h2
 | 14,_,x,h=>by
  have h2:none=some x:=h
  cases h2
 | _ + 19,_,x,h=>by
  have h2:none=some x:=h
  cases h2
section
inductive SV where
 | junk
 | d (x:SD)
 | ag (cs:List SV)
 | tup (cs:List SV)
 | ptr (t off:Nat)
 | row (t:Nat)
 | re (t p off:Nat)
 | vw (t lo hi:Nat)
 | fe (cs:List SD)
 | fn (f:FuncId) (ps qs:List SV)
structure Pin where
 i:Int
 cs:Option (List SD)
inductive aW where
 | st (ty:TypeId) (cs:List SV)
 | rw (e k:Nat) (t:Ty) (xs:List t.den) (pins:List (Nat×Pin))
def lkV:List (Nat×SV)→Nat→SV
 | [],_=>.junk
 | (j,v)::l,i=>match Nat.beq i j with | true=>v | false=>lkV l i
def lkB:List (Nat×Option aW)→Nat→Option aW
 | [],_=>none
 | (j,v)::l,i=>match Nat.beq i j with | true=>v | false=>lkB l i
def lkP:List (Nat×Pin)→Nat→Option Pin
 | [],_=>none
 | (j,v)::l,i=>match Nat.beq i j with | true=>some v | false=>lkP l i
def aA:List Nat→Nat→Bool
 | [],_=>false
 | j::l,i=>match Nat.beq i j with | true=>true | false=>aA l i
structure SS where
 sl:List (Nat×SV)
 bx:List (Nat×Option aW)
 pr:List Nat
 ro:Bool
 oc:List Nat
def wrB (s:SS) (t:Nat) : Bool:=match s.ro with | true=>false | false=>!(aA s.pr t)
def JT (s:SS) (t:Nat) : Bool:=match aA s.oc t with | true=>false | false=>!(aA s.pr t)
def Bc:(t:Ty)→t.den→List SD
 | .int k,x=>[.int k x]
 | .bool,x=>[.bool x]
 | .str,x=>[.str x]
 | .sl t,xs=>[.sl t xs]
 | .st i,x=>stC i x
def Za:(t:Ty)→List SD→Option t.den
 | .st i,cs=>stK i cs
 | .int k,[c]=>c.as (.int k)
 | .bool,[c]=>c.as .bool
 | .str,[c]=>c.as .str
 | .sl t,[c]=>c.as (.sl t)
 | _,_=>none
def tyN:Ty→Nat
 | .st i=>stN i
 | _=>1
def I1:Value→Option SD
 | .int k n=>some (.int k n)
 | .bool t=>some (.bool t)
 | .string s=>some (.str s)
 | .slice none 0 0=>some .nl
 | _=>none
def FJ:List Value→Option (List SV)
 | []=>some []
 | v::l=>match I1 v,FJ l with | some c,some cs=>some (.d c::cs) | _,_=>none
def Ko:Value→SV
 | .agg xs=>match FJ xs.toList with | some cs=>.ag cs | none=>.junk
 | v=>match I1 v with | some c=>.d c | none=>.junk
def evX (s:SS) : Operand→SV
 | .tmp i=>lkV s.sl i
 | .const v=>Ko v
 | .func f=>.fn f [] []
 | _=>.junk
def Yp (s:SS) (t:Nat) : Option SD:=match lkB s.bx t with
 | some (.rw _ _ ty xs _)=>some (.sl ty xs)
 | _=>none
def su (s:SS) : SV→Option SD
 | .d x=>some x
 | .row t=>Yp s t
 | _=>none
def Kl (s:SS) : List SV→Option (List SD)
 | []=>some []
 | v::l=>match su s v,Kl s l with | some c,some cs=>some (c::cs) | _,_=>none
def Kx:SV→Option (List SV)
 | .ag cs=>some cs
 | .junk=>none
 | .tup _=>none
 | v=>some [v]
mutual
def stale (t:Nat) : SV→SV
 | .row t'=>match Nat.beq t' t with | true=>.junk | false=>.row t'
 | .re t' p o=>match Nat.beq t' t with | true=>.junk | false=>.re t' p o
 | .vw t' p o=>match Nat.beq t' t with | true=>.junk | false=>.vw t' p o
 | .ag cs=>.ag (iL t cs)
 | .tup cs=>.tup (iL t cs)
 | .fn f ps qs=>.fn f (iL t ps) (iL t qs)
 | v=>v
def iL (t:Nat) : List SV→List SV
 | []=>[]
 | c::cs=>stale t c::iL t cs
end
def D3 (t:Nat) : List (Nat×SV)→List (Nat×SV)
 | []=>[]
 | (i,v)::l=>(i,stale t v)::D3 t l
def oq (t:Nat) : List (Nat×Option aW)→List (Nat×Option aW)
 | []=>[]
 | (i,some (.st ty cs))::l=>(i,some (.st ty (iL t cs)))::oq t l
 | (i,b)::l=>(i,b)::oq t l
inductive Upd where
 | no
 | new (t:Nat) (b:aW)
 | set (t:Nat) (b:aW)
 | pin (t:Nat) (b:aW)
 | grow (t:Nat) (b:aW)
def VL:Upd→List Nat
 | .no=>[]
 | .new t _=>[t]
 | .set t _=>[t]
 | .pin _ _=>[]
 | .grow t _=>[t]
def sY (sl:List (Nat×SV)) (dst:Option Nat) (v:SV) : List (Nat×SV):=match dst with | some d=>(d,v)::sl | none=>sl
def SS.upd (s:SS) (dst:Option Nat) (v:SV) : Upd→SS
 | .no=>⟨sY s.sl dst v,s.bx,s.pr,s.ro,s.oc⟩
 | .new t b=>⟨sY s.sl dst v,(t,some b)::s.bx,s.pr,s.ro,s.oc⟩
 | .set t b=>⟨sY s.sl dst v,(t,some b)::s.bx,s.pr,s.ro,s.oc⟩
 | .pin t b=>⟨sY s.sl dst v,(t,some b)::s.bx,s.pr,s.ro,s.oc⟩
 | .grow t b=>⟨sY (D3 t s.sl) dst v,(t,some b)::oq t s.bx,s.pr,s.ro,s.oc⟩
def ny {α : Type} : List α→Nat→List α→List α
 | cs,0,[]=>cs
 | _ :: cs,0,n::ns=>n::ny cs 0 ns
 | [],_,_=>[]
 | c::cs,o + 1,ns=>c::ny cs o ns
def RQ (size:Nat) (agg:Bool) (cl:List SV) : Option SV :=
 if agg then (if size≤cl.length then some (.ag (cl.take size)) else none) else cl.head?
def AY:List SD→List SV
 | []=>[]
 | c::cs=>.d c::AY cs
variable {ρ : Type}
def chk (b:Bool) (k:Option ρ) : Option ρ:=match b with | true=>k | false=>none
def Wy:Operand→Option Int
 | .const (.int _ n)=>some n
 | _=>none
def PG (op:BinOp) (kd:IntKind) (lit:Option Int) (x y:Int) (k:SV→Option ρ) : Option ρ :=
 match op with
 | .add=>k (.d (.int kd (kd.wrap (x + y))))
 | .sub=>k (.d (.int kd (kd.wrap (x - y))))
 | .mul=>k (.d (.int kd (kd.wrap (x * y))))
 | .quo=>match lit with
  | some n=>chk (!(n==0)) (k (.d (.int kd (kd.wrap (x.tdiv y)))))
  | none=>Option.bind (if y=0 then none else some (kd.wrap (x.tdiv y))) fun q=>k (.d (.int kd q))
 | .rem=>match lit with
  | some n=>chk (!(n==0)) (k (.d (.int kd (x.tmod y))))
  | none=>Option.bind (CL x y) fun q=>k (.d (.int kd q))
 | .eql=>k (.d (.bool (x==y)))
 | .neq=>k (.d (.bool (x != y)))
 | .lss=>k (.d (.bool (decide (x < y))))
 | .leq=>k (.d (.bool (decide (x≤y))))
 | .gtr=>k (.d (.bool (decide (x > y))))
 | .geq=>k (.d (.bool (decide (x≥y))))
 | .and=>k (.d (.int kd (bits .and kd x y)))
 | .or=>k (.d (.int kd (bits .or kd x y)))
 | .xor=>k (.d (.int kd (bits .xor kd x y)))
 | _=>none
def OH (op:BinOp) (kd:IntKind) (lit:Option Int) (x y:Int) (k:SV→Option ρ) : Option ρ :=
 match lit with
 | some n=>chk (decide (0≤n)) (match op with
  | .shl=>k (.d (.int kd (kd.wrap (x * 2 ^ (min y.toNat kd.bits)))))
  | .shr=>k (.d (.int kd (x.fdiv (2 ^ (min y.toNat kd.bits)))))
  | _=>none)
 | none=>Option.bind (if y < 0 then none else some ()) fun _=>(match op with
  | .shl=>k (.d (.int kd (kd.wrap (x * 2 ^ (min y.toNat kd.bits)))))
  | .shr=>k (.d (.int kd (x.fdiv (2 ^ (min y.toNat kd.bits)))))
  | _=>none)
def Ox (op:BinOp) (x y:ByteArray) (k:SV→Option ρ) : Option ρ :=
 match op with
 | .add=>Option.bind (mw x y) fun z=>k (.d (.str z))
 | .eql=>k (.d (.bool (x.toList==y.toList)))
 | .neq=>k (.d (.bool (!(x.toList==y.toList))))
 | .lss=>k (.d (.bool (Op.bytesLess x.toList y.toList)))
 | .leq=>k (.d (.bool (Op.bytesLess x.toList y.toList||(x.toList==y.toList))))
 | .gtr=>k (.d (.bool (!(Op.bytesLess x.toList y.toList||(x.toList==y.toList)))))
 | .geq=>k (.d (.bool (!(Op.bytesLess x.toList y.toList))))
 | _=>none
def Jx (op:BinOp) (x y:Bool) (k:SV→Option ρ) : Option ρ :=
 match op with
 | .eql=>k (.d (.bool (x==y)))
 | .neq=>k (.d (.bool (!(x==y))))
 | _=>none
def tu:SD→SD→Option Bool
 | .int k a,.int k' b=>if k=k' then some (a==b) else none
 | .bool a,.bool b=>some (a==b)
 | .str a,.str b=>some (a.toList==b.toList)
 | _,_=>none
def Ci:List SV→List SV→Option Bool
 | [.d x],[.d y]=>tu x y
 | .d x::xs,.d y::ys=>match tu x y,Ci xs ys with
  | some a,some r=>some (a&&r)
  | _,_=>none
 | _,_=>none
def O7:SV→Option Nat
 | .d (.int _ _)=>some 0
 | .d (.bool _)=>some 1
 | .d (.str _)=>some 2
 | _=>none
def Du:List SV→Option (List Nat)
 | []=>some []
 | v::l=>match O7 v,Du l with | some a,some r=>some (a::r) | _,_=>none
def J9:List Nat→List Nat→Bool
 | [],[]=>true
 | a::l,b::m=>match Nat.beq a b with | true=>J9 l m | false=>false
 | _,_=>false
def aap (P:Program) (op:BinOp) (t:TypeId) (lit:Option Int) (p q:SV) (k:SV→Option ρ) : Option ρ :=
 match p,q with
 | .d (.int kd x),.d (.int kd' y)=>match J0 op with
  | true=>OH op kd lit x y k
  | false=>if kd=kd' then PG op kd lit x y k else none
 | .d (.str x),.d (.str y)=>Ox op x y k
 | .d (.bool x),.d (.bool y)=>match P.underlying t with
  | some .bool=>Jx op x y k
  | _=>none
 | .ag xs,.ag ys=>match aai P t,Du xs,Ci xs ys with
  | some l,some l',some r=>chk (J9 l l') (match op with
   | .eql=>k (.d (.bool r))
   | .neq=>k (.d (.bool (!r)))
   | _=>none)
  | _,_,_=>none
 | _,_=>none
def unX (op:UnOp) (p:SV) (k:SV→Option ρ) : Option ρ :=
 match op,p with
 | .not,.d (.bool x)=>k (.d (.bool (!x)))
 | .neg,.d (.int kd x)=>k (.d (.int kd (kd.wrap (0 - x))))
 | _,_=>none
def Xj (P:Program) (s:SS) (src dst:TypeId) (p:SV) (k:SV→Option ρ) : Option ρ :=
 match P.underlying src with
 | none=>none
 | some (.slice e)=>(match P.underlying dst with
  | some .string=>(match P.underlying e,su s p with
   | some (.int .u8),some (.sl (.int .u8) xs)=>Option.bind (Yo (xs:List Int)) fun z=>k (.d (.str z))
   | _,_=>none)
  | _=>none)
 | some _=>match P.underlying dst,p with
  | some (.int kd),.d (.int _ x)=>k (.d (.int kd (kd.wrap x)))
  | some .string,.d (.str x)=>k (.d (.str x))
  | _,_=>none
def xH (P:Program) (t:TypeId) (p:SV) (f:Nat) (k:SV→Option ρ) : Option ρ :=
 match (A9 P t)[f]? with
 | some (off,size,_)=>chk (!(size==0)) (match p with
  | .ptr t o=>k (.ptr t (o + off))
  | .fe cs=>k (.fe (cs.drop off))
  | .re t p o=>k (.re t p (o + off))
  | _=>none)
 | none=>none
def Pp (P:Program) (t:TypeId) (p:SV) (f:Nat) (k:SV→Option ρ) : Option ρ :=
 match (A9 P t)[f]?,p with
 | some (off,size,agg),.ag cs=>match RQ size agg (cs.drop off) with | some v=>k v | none=>none
 | _,_=>none
def Xx (s:SS) : SV→Option (List SV)
 | .ptr t off=>match lkB s.bx t with | some (.st _ cs)=>some (cs.drop off) | _=>none
 | .fe cs=>some (AY cs)
 | .re t p off=>match lkB s.bx t with
  | some (.rw _ _ _ _ pins)=>match lkP pins p with
   | some ⟨_,some cs⟩=>some (AY (cs.drop off))
   | _=>none
  | _=>none
 | _=>none
def R3 (P:Program) (s:SS) (t:TypeId) (p:SV) : Option SV :=
 match om P t,Xx s p with
 | some i,some cl=>RQ i.size i.agg cl
 | _,_=>none
def xC (P:Program) (s:SS) (dst:Option Nat) (t:TypeId) (p q:SV) (k:SV→Upd→Option ρ) : Option ρ :=
 match P.underlying t,q,dst with
 | some (.slice e),.d (.int _ i),some d=>match om P e with
  | some ie=>match p with
   | .d (.sl ty xs)=>chk (tyN ty==ie.size) (Option.bind (aw xs i) fun x=>k (.fe (Bc ty x)) .no)
   | .row t'=>match lkB s.bx t' with
    | some (.rw e' kk ty xs pins)=>chk (kk==ie.size) (chk (lkP pins d).isNone (Option.bind (aw xs i) fun x=>k (.re t' d 0) (.pin t' (.rw e' kk ty xs ((d,⟨i,some (Bc ty x)⟩)::pins)))))
    | _=>none
   | _=>none
  | none=>none
 | _,_,_=>none
def ZZ:SV→Option SD
 | .d x=>some x
 | _=>none
def tZ:List SV→Option (List SD)
 | []=>some []
 | v::l=>match ZZ v,tZ l with | some c,some cs=>some (c::cs) | _,_=>none
def wM:List (Nat×Pin)→List (Nat×Pin)
 | []=>[]
 | (i,⟨j,_⟩)::l=>(i,⟨j,none⟩)::wM l
def OD (P:Program) (s:SS) (t:TypeId) (p q:SV) (k:SV→Upd→Option ρ) : Option ρ :=
 match om P t,Kx q with
 | some i,some ns=>match p with
  | .ptr x off=>match lkB s.bx x with
   | some (.st ty cs)=>chk (ns.length==i.size) (chk (decide (off + ns.length≤cs.length)) (chk (wrB s x) (k .junk (.set x (.st ty (ny cs off ns))))))
   | _=>none
  | .re x pi off=>match lkB s.bx x,tZ ns with
   | some (.rw e kk ty xs pins),some ds=>match lkP pins pi with
    | some ⟨j,cs⟩=>chk (ns.length==i.size) (chk (decide (off + ds.length≤tyN ty)) (chk (wrB s x) (match (if ds.length=tyN ty then some ds else cs.map fun cs=>ny cs off ds) with
     | some cs'=>match Za ty cs' with
      | some y=>k .junk (.set x (.rw e kk ty (xs.set j.toNat y) ((pi,⟨j,some (Bc ty y)⟩)::wM pins)))
      | none=>none
     | none=>none)))
    | none=>none
   | _,_=>none
  | _=>none
 | _,_=>none
def MD (place:Nat→Option (Nat×Nat)) : List SV→List (Nat×SV)→Option (List SV)
 | cs,[]=>some cs
 | cs,(i,p)::rest=>match place i,Kx p with
  | some (off,size),some ns=>chk (ns.length==size) (chk (decide (off + ns.length≤cs.length)) (MD place (ny cs off ns) rest))
  | _,_=>none
def DM (i:TI) : Option (List SV):=FJ i.zero
def Kv:Nat→Nat→List SD→List (List SD)
 | _,0,_=>[]
 | k,n + 1,l=>l.take k::Kv k n (l.drop k)
def Kk (t:Ty) : List (List SD)→Option (List t.den)
 | []=>some []
 | c::l=>match Za t c,Kk t l with | some x,some xs=>some (x::xs) | _,_=>none
def ZV (P:Program) : Nat→TypeId→Option Ty
 | 0,_=>none
 | d + 1,t=>match abl t with
  | some i=>some (.st i)
  | none=>match P.underlying t with
   | some (.int k)=>some (.int k)
   | some .bool=>some .bool
   | some .string=>some .str
   | some (.slice e)=>(ZV P d e).map .sl
   | _=>none
def VY {α : Type} : Nat→List α→List α
 | 0,_=>[]
 | n + 1,l=>l++VY n l
def u9 (P:Program) (s:SS) (dst:Option Nat) (t:TypeId) (len:Nat) (parts:List (Nat×SV)) (k:SV→Upd→Option ρ) : Option ρ :=
 match dst,P.underlying t with
 | some d,some (.slice e)=>match om P e,lkB s.bx d,ZV P 4 e with
  | some i,none,some ty=>match DM i with
   | some z=>chk (decide (0 < i.size)) (chk (decide (len≤1000)) (chk (decide (len * i.size≤16777216)) (chk (JT s d) (match MD (fun j=>some (j * i.size,i.size)) (VY len z) parts with
    | some cs=>match tZ cs with
     | some ds=>match Kk ty (Kv i.size len ds) with
      | some xs=>chk (tyN ty==i.size) (k (.row d) (.new d (.rw e i.size ty xs [])))
      | none=>none
     | none=>none
    | none=>none))))
   | none=>none
  | _,_,_=>none
 | _,_=>none
def KF (P:Program) (s:SS) (dst:Option Nat) (t:TypeId) (p q:SV) (k:SV→Upd→Option ρ) : Option ρ :=
 match P.underlying t,su s q with
 | some (.slice e),some (.sl ty ys)=>match om P e with
  | some i=>chk (decide (0 < i.size)) (chk (decide (0 < i.bytes)) (chk (decide (i.bytes≤1000000)) (chk (tyN ty==i.size) (match p with
   | .row x=>match lkB s.bx x with
    | some (.rw e' kk ty' xs _)=>match Ty.same ty ty' with
     | some ⟨h⟩=>chk (e' == e) (chk (kk==i.size) (chk (wrB s x) (Option.bind (aU xs (yV h ys)) fun zs=>k (.row x) (.grow x (.rw e' kk ty' zs [])))))
     | none=>none
    | _=>none
   | .d .nl=>match dst with
    | some d=>match lkB s.bx d with
     | none=>chk (JT s d) (Option.bind (aU ([] : List ty.den) ys) fun zs=>k (.row d) (.new d (.rw e i.size ty zs [])))
     | some _=>none
    | none=>none
   | _=>none))))
  | none=>none
 | _,_=>none
def A4:SV→Option Int
 | .d (.int _ i)=>some i
 | _=>none
def vwO (n:Nat) (l h:Int) : Option Unit:=if 0≤l∧0≤h∧l.toNat≤h.toNat∧h.toNat≤n then some () else none
def Z3 (lo:Option SV) (n:Int) : Option Int:=match lo with
 | none=>some n
 | some v=>A4 v
def u4 {α : Type} (xs:List α) (lo hi:Nat) (ys:List α) : Option (List α):=if lo≤hi∧hi≤xs.length then some (lm xs lo (ys.take (hi - lo))) else none
def mkO {α : Type} (z : α) (n:Int) : Option (List α):=if 0≤n∧n≤1000000 then some (List.replicate n.toNat z) else none
def ZX (s:SS) : SV→Option SD
 | .vw t lo hi=>match lkB s.bx t with
  | some (.rw _ _ ty xs _)=>some (.sl ty ((xs.drop lo).take (hi - lo)))
  | _=>none
 | v=>su s v
def V8 (s:SS) : SV→Option (Nat×Nat×Nat)
 | .row t=>match lkB s.bx t with
  | some (.rw _ _ _ xs _)=>some (t,0,xs.length)
  | _=>none
 | .vw t lo hi=>some (t,lo,hi)
 | _=>none
def Xh (P:Program) (s:SS) (t:TypeId) (p q:SV) (k:SV→Upd→Option ρ) : Option ρ :=
 match P.underlying t,ZX s q,V8 s p with
 | some (.slice e),some (.sl ty ys),some (x,lo,hi)=>match om P e,lkB s.bx x with
  | some i,some (.rw e' kk ty' xs pins)=>match Ty.same ty ty' with
   | some ⟨h⟩=>chk (kk==i.size) (chk (tyN ty==i.size) (chk (wrB s x) (Option.bind (u4 xs lo hi (yV h ys)) fun zs=>k (.d (.int .i64 (min ys.length (hi - lo) : Nat))) (.set x (.rw e' kk ty' zs (wM pins))))))
   | none=>none
  | _,_=>none
 | _,_,_=>none
def OJ:Operand→Operand→Bool
 | .tmp i,.tmp j=>Nat.beq i j
 | .const (.int _ n),.const (.int _ m)=>n==m
 | _,_=>false
def Wm (P:Program) (s:SS) (dst:Option Nat) (t:TypeId) (same:Bool) (p:SV) (k:SV→Upd→Option ρ) : Option ρ :=
 match dst,P.underlying t,p,same with
 | some d,some (.slice e),.d (.int _ n),true=>match om P e,lkB s.bx d,ZV P 4 e with
  | some i,none,some ty=>match DM i with
   | some z=>(match tZ z with
    | some ds=>(match Za ty ds with
     | some z0=>chk (decide (0 < i.size)) (chk (decide (i.bytes≤1000000)) (chk (tyN ty==i.size) (chk (JT s d) (Option.bind (mkO z0 n) fun xs=>k (.row d) (.new d (.rw e i.size ty xs []))))))
     | none=>none)
    | none=>none)
   | none=>none
  | _,_,_=>none
 | _,_,_,_=>none
def OG (P:Program) (s:SS) (t:TypeId) (p:SV) (lo hi:Option SV) (k:SV→Option ρ) : Option ρ :=
 match P.underlying t,p with
 | some (.slice e),.d (.sl ty xs)=>match om P e with
  | some i=>chk (tyN ty==i.size) (match lo,hi with
   | none,none=>k (.d (.sl ty xs))
   | some l,none=>match A4 l with | some l=>Option.bind (loO xs l) fun z=>k (.d (.sl ty z)) | none=>none
   | none,some h=>match A4 h with | some h=>Option.bind (hiO xs h) fun z=>k (.d (.sl ty z)) | none=>none
   | some l,some h=>match A4 l,A4 h with | some l,some h=>Option.bind (lhO xs l h) fun z=>k (.d (.sl ty z)) | _,_=>none)
  | none=>none
 | some (.slice e),.row x=>match om P e,lkB s.bx x with
  | some i,some (.rw _ kk ty xs _)=>chk (kk==i.size) (match Z3 lo 0,Z3 hi xs.length with
   | some l,some h=>Option.bind (vwO xs.length l h) fun _=>k (.vw x l.toNat h.toNat)
   | _,_=>none)
  | _,_=>none
 | some .string,.d (.str x)=>match lo,hi with
   | some l,none=>match A4 l with | some l=>Option.bind (S7 x l) fun z=>k (.d (.str z)) | none=>none
   | none,some h=>match A4 h with | some h=>Option.bind (GX x h) fun z=>k (.d (.str z)) | none=>none
   | some l,some h=>match A4 l,A4 h with | some l,some h=>Option.bind (JF x l h) fun z=>k (.d (.str z)) | _,_=>none
   | none,none=>none
 | _,_=>none
def yF (mx:Bool) : SV→List SV→Option SV
 | p,[]=>some p
 | .d (.int k x),.d (.int _ y)::l=>yF mx (.d (.int k (match mx with | true=>if y > x then y else x | false=>if y < x then y else x))) l
 | _,_=>none
def aaa (P:Program) (s:SS) (t:TypeId) (v:SV) (k:SV→Option ρ) : Option ρ :=
 match P.underlying t with
 | some (.slice _)=>match su s v with
  | some (.sl _ xs)=>k (.d (.int .i64 (xs.length:Int)))
  | some .nl=>k (.d (.int .i64 0))
  | _=>match v with
   | .vw _ lo hi=>k (.d (.int .i64 ((hi - lo:Nat) : Int)))
   | _=>none
 | some .string=>match v with
  | .d (.str x)=>k (.d (.int .i64 (x.size:Int)))
  | _=>none
 | _=>none
def Na (P:Program) (s:SS) (dst:Option Nat) (f:Builtin) (args:List SV) (ts:List TypeId) (k:SV→Upd→Option ρ) : Option ρ :=
 match f with
 | .len=>(match args,ts with | [x],[t]=>aaa P s t x fun v=>k v .no | _,_=>none)
 | .append=>(match args,ts with | [x,y],[t,t']=>(match Nat.beq t' t with | true=>KF P s dst t x y k | false=>none) | _,_=>none)
 | .min=>(match args with | x::xs=>(match yF false x xs with | some v=>k v .no | none=>none) | _=>none)
 | .max=>(match args with | x::xs=>(match yF true x xs with | some v=>k v .no | none=>none) | _=>none)
 | .copy=>(match args,ts with | [x,y],[t,_]=>Xh P s t x y k | _,_=>none)
 | _=>none
def xr (s:SS) : List (Nat×Operand)→List (Nat×SV)
 | []=>[]
 | (i,x)::l=>(i,evX s x)::xr s l
def wv (s:SS) : List Operand→List SV
 | []=>[]
 | x::l=>evX s x::wv s l
def V5 (c:Bool) (v w:SV) : Option SV :=
 match v,w with
 | .d (.int k x),.d (.int k' y)=>if k=k' then some (.d (.int k (if c=true then x else y))) else none
 | .d (.bool x),.d (.bool y)=>some (.d (.bool (if c=true then x else y)))
 | .d (.str x),.d (.str y)=>some (.d (.str (if c=true then x else y)))
 | v,w=>match c with | true=>some v | false=>some w
def Z8 (p:SV) (k:SV→Option ρ) : Option ρ:=match p with
 | .ptr t o=>k (.ptr t o)
 | .re t q o=>k (.re t q o)
 | .fe cs=>k (.fe cs)
 | _=>none
def Y5 (P:Program) (o:Oper) (s:SS) (k:SV→Upd→Option ρ) : Option ρ :=
 match o.op with
 | .move x=>k (evX s x) .no
 | .assign x=>k (evX s x) .no
 | .pick c x y=>match evX s c with
  | .d (.bool t)=>match V5 t (evX s x) (evX s y) with | some v=>k v .no | none=>none
  | _=>none
 | .alloc e=>match o.dst,om P e with
  | some t,some i=>match lkB s.bx t,DM i with
   | none,some z=>chk (JT s t) (k (.ptr t 0) (.new t (.st e z)))
   | _,_=>none
  | _,_=>none
 | .box e x=>match o.dst,Kx (evX s x) with
  | some t,some cs=>match lkB s.bx t with
   | none=>chk (JT s t) (k (.ptr t 0) (.new t (.st e cs)))
   | some _=>none
  | _,_=>none
 | .build t ps=>match om P t,Iu P t with
  | some i,some fl=>match DM i with
   | some z=>(match MD (fun j=>(fl[j]?).map fun x=>(x.1,x.2.1)) z (xr s ps.toList) with | some cs=>k (.ag cs) .no | none=>none)
   | none=>none
  | _,_=>none
 | .buildSlice t n ps=>u9 P s o.dst t n (xr s ps.toList) k
 | .load t x=>match R3 P s t (evX s x) with | some v=>k v .no | none=>none
 | .store t x y=>OD P s t (evX s x) (evX s y) k
 | .binOp op t x y _=>aap P op t (Wy y) (evX s x) (evX s y) fun v=>k v .no
 | .unOp op _ x=>unX op (evX s x) fun v=>k v .no
 | .convert src dst x=>Xj P s src dst (evX s x) fun v=>k v .no
 | .slice t x lo hi none=>OG P s t (evX s x) (lo.map (evX s)) (hi.map (evX s)) fun v=>k v .no
 | .fieldAddr t x f=>xH P t (evX s x) f fun v=>k v .no
 | .field t x f=>Pp P t (evX s x) f fun v=>k v .no
 | .indexAddr t x i=>xC P s o.dst t (evX s x) (evX s i) k
 | .extract x i=>match evX s x with
  | .tup vs=>match vs[i]? with | some v=>k v .no | none=>none
  | _=>none
 | .index t x i=>match P.underlying t,evX s x,evX s i with
  | some .string,.d (.str x),.d (.int _ i)=>Option.bind (jT x i) fun z=>k (.d (.int .u8 z)) .no
  | _,_,_=>none
 | .call c=>match c.callee with
  | .builtin f=>Na P s o.dst f (wv s c.args.toList) c.argTypes.toList k
  | _=>none
 | .makeFunc (.func f) ps qs=>k (.fn f (wv s ps.toList) (wv s qs.toList)) .no
 | .makeSlice t x y=>Wm P s o.dst t (OJ x y) (evX s x) k
 | .nilCheck x=>Z8 (evX s x) fun v=>k v .no
 | _=>none
end
section
inductive CT where
 | v (t:Ty)
 | a (i:Nat)
 | pl (t:Ty)
 | ps (i:Nat)
def CT.den:CT→Type
 | .v t=>t.den
 | .a i=>ST i
 | .pl t=>t.den
 | .ps i=>ST i
def u6:List CT→Type
 | []=>Unit
 | c::cs=>c.den×u6 cs
inductive IB where
 | no
 | own (e k:Nat) (t:Ty)
 | bx (ty n:Nat) (rows:List (Nat×Nat×Nat×Ty))
def IB.den:IB→Type
 | .no=>Unit
 | .own _ _ t=>List t.den
 | .bx _ n _=>ST n
def IB.nJ:IB→Nat
 | .bx _ _ rows=>rows.length
 | _=>0
def uM:Nat→List IB→List (List Nat)
 | _,[]=>[]
 | base,b::l=>List.range' base b.nJ::uM (base + b.nJ) l
def D0:List IB→Nat
 | []=>0
 | b::l=>b.nJ + D0 l
def yB:List IB→Type
 | []=>Unit
 | b::l=>b.den×yB l
inductive PT where
 | lf (t:Ty)
 | ag (i:Nat)
 | pl (t:Ty)
 | ps (i:Nat)
 | fn (f:FuncId) (a b:List CT)
 | own (e k:Nat) (t:Ty)
 | mv (e k:Nat) (t:Ty)
 | bx (ty n:Nat) (rows:List (Nat×Nat×Nat×Ty))
 | agr (n:Nat) (rows:List (Nat×Nat×Nat×Ty))
 | io (l:List IB)
def PT.den:PT→Type
 | .lf t=>t.den
 | .ag i=>ST i
 | .pl t=>t.den
 | .ps i=>ST i
 | .fn _ a b=>u6 a×u6 b
 | .own _ _ t=>List t.den
 | .mv _ _ t=>List t.den
 | .bx _ n _=>ST n
 | .agr n _=>ST n
 | .io l=>yB l
def PT.isM:PT→Bool
 | .own ..=>true
 | .mv ..=>true
 | .bx ..=>true
 | .agr ..=>true
 | .io _=>true
 | _=>false
def pa:List PT→Bool
 | []=>false
 | p::l=>match p.isM with | true=>true | false=>pa l
def PT.flat:PT→Bool
 | .lf (.int _)=>true
 | .lf .bool=>true
 | .lf .str=>true
 | .lf _=>false
 | .ag i=>stF i
 | _=>false
def aaY:(c:CT)→c.den→SV
 | .v t,x=>.d (qL t x)
 | .a i,x=>.ag (AY (stC i x))
 | .pl t,x=>.fe [qL t x]
 | .ps i,x=>.fe (stC i x)
def IJ:(cs:List CT)→u6 cs→List SV
 | [],_=>[]
 | c::cs,x=>aaY c x.1::IJ cs x.2
def T1:(p:PT)→p.den→SV
 | .lf t,x=>.d (qL t x)
 | .ag i,x=>.ag (AY (stC i x))
 | .pl t,x=>.fe [qL t x]
 | .ps i,x=>.fe (stC i x)
 | .fn f a b,x=>.fn f (IJ a x.1) (IJ b x.2)
 | .own ..,_=>.junk
 | .mv ..,_=>.junk
 | .bx ..,_=>.junk
 | .agr ..,_=>.junk
 | .io _,_=>.junk
def Y9 (s:SS) (t:Ty) (v:SV) : Option t.den:=match su s v with | some c=>c.as t | none=>none
def Zc (s:SS) (i:Nat) : SV→Option (ST i)
 | .ag cs=>match Kl s cs with | some cs=>stK i cs | none=>none
 | _=>none
def SA (t:Ty) : SV→Option t.den
 | .fe [c]=>c.as t
 | _=>none
def Sz (i:Nat) : SV→Option (ST i)
 | .fe cs=>stK i cs
 | _=>none
def aa0 (s:SS) : (c:CT)→SV→Option c.den
 | .v t,v=>Y9 s t v
 | .a i,v=>Zc s i v
 | .pl t,v=>SA t v
 | .ps i,v=>Sz i v
def M2 (s:SS) : (cs:List CT)→List SV→Option (u6 cs)
 | [],[]=>some ()
 | c::cs,v::vs=>Option.bind (aa0 s c v) fun x=>Option.bind (M2 s cs vs) fun xs=>some (x,xs)
 | _,_=>none
def aam (s:SS) (f:FuncId) (a b:List CT) : SV→Option (u6 a×u6 b)
 | .fn f' ps qs=>match Nat.beq f' f with
  | true=>Option.bind (M2 s a ps) fun x=>Option.bind (M2 s b qs) fun y=>some (x,y)
  | false=>none
 | _=>none
def M5 (s:SS) : (p:PT)→SV→Option p.den
 | .lf t,v=>Y9 s t v
 | .ag i,v=>Zc s i v
 | .pl t,v=>SA t v
 | .ps i,v=>Sz i v
 | .fn f a b,v=>aam s f a b v
 | .own ..,_=>none
 | .mv ..,_=>none
 | .bx ..,_=>none
 | .agr ..,_=>none
 | .io _,_=>none
def ct:List PT→Type
 | []=>Unit
 | p::ps=>p.den×ct ps
def bc:List PT→Type
 | []=>Unit
 | [p]=>p.den
 | p::q::l=>p.den×bc (q::l)
def Cj:(ps:List PT)→ct ps→List SV
 | [],_=>[]
 | p::ps,x=>T1 p x.1::Cj ps x.2
def SB (s:SS) : (ps:List PT)→List SV→Option (ct ps)
 | [],[]=>some ()
 | p::ps,v::vs=>Option.bind (M5 s p v) fun x=>Option.bind (SB s ps vs) fun xs=>some (x,xs)
 | _,_=>none
def Sr:(rs:List PT)→bc rs→List SV
 | [],_=>[]
 | [p],x=>[T1 p x]
 | p::q::l,x=>T1 p x.1::Sr (q::l) x.2
def aaX (rs:List PT) (x:bc rs) : SV:=match rs,x with
 | [p],x=>T1 p x
 | rs,x=>.tup (Sr rs x)
def IT (s:SS) : (rs:List PT)→List SV→Option (bc rs)
 | [],[]=>some ()
 | [p],[v]=>M5 s p v
 | p::q::l,v::vs=>Option.bind (M5 s p v) fun x=>Option.bind (IT s (q::l) vs) fun xs=>some (x,xs)
 | _,_=>none
def qU:List PT→Bool
 | []=>true
 | p::l=>match p.flat with | true=>qU l | false=>false
def aa1:CT→Bool
 | .v (.st _)=>false
 | .pl (.st _)=>false
 | _=>true
def Fz:List CT→Bool
 | []=>true
 | c::l=>match aa1 c with | true=>Fz l | false=>false
def Tn:PT→Bool
 | .lf (.st _)=>false
 | .pl (.st _)=>false
 | .fn _ a b=>match Fz a with | true=>Fz b | false=>false
 | .lf _=>true
 | .pl _=>true
 | .ag _=>true
 | .ps _=>true
 | _=>false
def uI:List PT→Bool
 | []=>true
 | p::l=>match Tn p with | true=>uI l | false=>false
def th:List PT→Bool
 | []=>true
 | p::l=>match p.isM||Tn p with | true=>th l | false=>false
structure Ent where
 ps:List PT
 rs:List PT
 f:ct ps→Option (bc rs)
def abr:PT→SV→Bool
 | .fn f _ _,.fn g _ _=>Nat.beq g f
 | .fn _ _ _,_=>false
 | _,_=>true
def ZF:List PT→List SV→Bool
 | [],_=>true
 | _ :: _,[]=>true
 | p::ps,v::vs=>match abr p v with | true=>ZF ps vs | false=>false
def lkE:List (Nat×Ent)→Nat→List SV→Option Ent
 | [],_,_=>none
 | (j,v)::l,i,vs=>match Nat.beq i j with
  | true=>(match ZF v.ps vs with | true=>some v | false=>lkE l i vs)
  | false=>lkE l i vs
mutual
def pJ:SV→Bool
 | .row _=>false
 | .ptr _ _=>false
 | .re _ _ _=>false
 | .vw _ _ _=>false
 | .ag cs=>cz cs
 | .tup cs=>cz cs
 | .fn _ ps qs=>match cz ps with | true=>cz qs | false=>false
 | _=>true
def cz:List SV→Bool
 | []=>true
 | c::cs=>match pJ c with | true=>cz cs | false=>false
end
def pQ:List (Nat×Nat×Nat×Nat×Ty)→Nat→Option (Nat×Nat×Nat×Ty)
 | [],_=>none
 | (j,R,e,k,t)::l,i=>match Nat.beq j i with | true=>some (R,e,k,t) | false=>pQ l i
def cellsOf (s:SS) (rows:List (Nat×Nat×Nat×Nat×Ty)) : Nat→List SV→Option (List SD)
 | _,[]=>some []
 | j,c::cs=>match pQ rows j with
  | some (R,e,k,t)=>(match c,lkB s.bx R with
   | .row R',some (.rw e' k' t' xs _)=>(match Ty.same t' t with
    | some ⟨h⟩=>chk (Nat.beq R' R) (chk (e' == e) (chk (k' == k) (match cellsOf s rows (j + 1) cs with | some r=>some (.sl t (yV h xs)::r) | none=>none)))
    | none=>none)
   | _,_=>none)
  | none=>(match c,cellsOf s rows (j + 1) cs with
   | .d x,some r=>some (x::r)
   | _,_=>none)
def fU (rows:List (Nat×Nat×Nat×Nat×Ty)) : Nat→List SD→List (Nat×Option aW)→Option (List SV×List (Nat×Option aW))
 | _,[],bx=>some ([],bx)
 | j,c::cs,bx=>match pQ rows j with
  | some (R,e,k,t)=>(match c.as (.sl t),fU rows (j + 1) cs bx with
   | some xs,some (vs,bx)=>some (.row R::vs,(R,some (.rw e k t xs []))::bx)
   | _,_=>none)
  | none=>(match fU rows (j + 1) cs bx with
   | some (vs,bx)=>some (.d c::vs,bx)
   | none=>none)
def mr:List (Nat×Nat×Nat×Ty)→List Nat→List (Nat×Nat×Nat×Nat×Ty)
 | (j,e,k,t)::l,R::is=>(j,R,e,k,t)::mr l is
 | _,_=>[]
def PT.nI:PT→Nat
 | .own ..=>1
 | .mv ..=>1
 | .bx _ _ rows=>rows.length + 1
 | .agr _ rows=>rows.length
 | _=>0
def MH (rows:List (Nat×Nat×Nat×Ty)) (is:List Nat) (n:Nat) (x:ST n) : Option (List SV×List (Nat×Option aW)):=fU (mr rows is) 0 (stC n x) []
def ML:(p:PT)→List Nat→p.den→Option (SV×List (Nat×Option aW))
 | .own e k t,is,xs=>(match is with | [i]=>some (.row i,[(i,some (.rw e k t xs []))]) | _=>none)
 | .mv e k t,is,xs=>(match is with | [i]=>some (.row i,[(i,some (.rw e k t xs []))]) | _=>none)
 | .bx ty n rows,is,x=>(match is with | i::is=>(match MH rows is n x with | some (vs,bx)=>some (.ptr i 0,(i,some (.st ty vs))::bx) | none=>none) | _=>none)
 | .agr n rows,is,x=>(match MH rows is n x with | some (vs,bx)=>some (.ag vs,bx) | none=>none)
 | .io _,_,_=>none
 | .lf t,_,x=>some (.d (qL t x),[])
 | .ag i,_,x=>some (.ag (AY (stC i x)),[])
 | .pl t,_,x=>some (.fe [qL t x],[])
 | .ps i,_,x=>some (.fe (stC i x),[])
 | .fn f a b,_,x=>some (.fn f (IJ a x.1) (IJ b x.2),[])
def MJ:(ps:List PT)→List (List Nat)→ct ps→Option (List SV×List (Nat×Option aW))
 | [],[],_=>some ([],[])
 | p::ps,is::iss,x=>(match ML p is x.1,MJ ps iss x.2 with | some (v,b),some (vs,bs)=>some (v::vs,b++bs) | _,_=>none)
 | _,_,_=>none
def Dp:List (Nat×Nat×Nat×Ty)→List SV→Option (List Nat)
 | [],_=>some []
 | (j,_)::l,cs=>(match cs[j]?,Dp l cs with | some (.row R),some is=>some (R::is) | _,_=>none)
def MX (s:SS) (rows:List (Nat×Nat×Nat×Ty)) (n:Nat) (cs:List SV) : Option (ST n×List Nat):=match Dp rows cs with
 | some is=>(match cellsOf s (mr rows is) 0 cs with
  | some ds=>(match stK n ds with | some x=>some (x,is) | none=>none)
  | none=>none)
 | none=>none
def tG (s:SS) (e k:Nat) (t:Ty) : SV→Option (List t.den×List Nat)
 | .row i=>(match lkB s.bx i with
  | some (.rw e' k' t' xs _)=>(match Ty.same t' t with
   | some ⟨h⟩=>chk (e' == e) (chk (k' == k) (some (yV h xs,[i])))
   | none=>none)
  | _=>none)
 | _=>none
def M3 (s:SS) (ty n:Nat) (rows:List (Nat×Nat×Nat×Ty)) : SV→Option (ST n×List Nat)
 | .ptr i 0=>(match lkB s.bx i with
  | some (.st ty' cs)=>chk (ty' == ty) (match MX s rows n cs with | some (x,is)=>some (x,i::is) | none=>none)
  | _=>none)
 | _=>none
def Py (s:SS) (n:Nat) (rows:List (Nat×Nat×Nat×Ty)) : SV→Option (ST n×List Nat)
 | .ag cs=>MX s rows n cs
 | _=>none
def MZ (s:SS) (p:PT) (v:SV) : Option (p.den×List Nat):=chk (pJ v) (match M5 s p v with | some x=>some (x,[]) | none=>none)
def Px (s:SS) : (p:PT)→SV→Option (p.den×List Nat)
 | .own e k t,v=>tG s e k t v
 | .mv e k t,v=>tG s e k t v
 | .bx ty n rows,v=>M3 s ty n rows v
 | .agr n rows,v=>Py s n rows v
 | .io _,_=>none
 | .lf t,v=>MZ s (.lf t) v
 | .ag i,v=>MZ s (.ag i) v
 | .pl t,v=>MZ s (.pl t) v
 | .ps i,v=>MZ s (.ps i) v
 | .fn f a b,v=>MZ s (.fn f a b) v
def IV (s:SS) : (ps:List PT)→List SV→Option (ct ps×List (List Nat))
 | [],[]=>some ((),[])
 | p::ps,v::vs=>(match Px s p v,IV s ps vs with | some (x,is),some (xs,iss)=>some ((x,xs),is::iss) | _,_=>none)
 | _,_=>none
structure MU where
 ks:List Nat
 us:List (Nat×Option aW)
 gs:List Nat
mutual
def stV (ks:List Nat) : SV→SV
 | .row t=>match aA ks t with | true=>.junk | false=>.row t
 | .re t p o=>match aA ks t with | true=>.junk | false=>.re t p o
 | .vw t p o=>match aA ks t with | true=>.junk | false=>.vw t p o
 | .ag cs=>.ag (um ks cs)
 | .tup cs=>.tup (um ks cs)
 | .fn f ps qs=>.fn f (um ks ps) (um ks qs)
 | v=>v
def um (ks:List Nat) : List SV→List SV
 | []=>[]
 | c::cs=>stV ks c::um ks cs
end
def SZ (ks:List Nat) : List (Nat×SV)→List (Nat×SV)
 | []=>[]
 | (i,v)::l=>(i,stV ks v)::SZ ks l
def xi (ks:List Nat) : List (Nat×Option aW)→List (Nat×Option aW)
 | []=>[]
 | (i,some (.st ty cs))::l=>(i,some (.st ty (um ks cs)))::xi ks l
 | (i,b)::l=>(i,b)::xi ks l
def SS.updM (s:SS) (dst:Option Nat) (v:SV) (m:MU) : SS:=⟨sY (SZ m.ks s.sl) dst v,m.us++xi m.ks s.bx,s.pr,s.ro,m.gs++s.oc⟩
def cx:List PT→List IB
 | .io l :: _=>l
 | _=>[]
def eZ:List PT→List PT
 | .io _ :: l=>l
 | l=>l
def jN:(rs:List PT)→bc rs→yB (cx rs)
 | [],_=>()
 | [.io _],r=>r
 | .io _ :: _ :: _,r=>r.1
 | .own .. :: _,_=>()
 | .mv .. :: _,_=>()
 | .bx .. :: _,_=>()
 | .agr .. :: _,_=>()
 | .lf _ :: _,_=>()
 | .ag _ :: _,_=>()
 | .pl _ :: _,_=>()
 | .ps _ :: _,_=>()
 | .fn .. :: _,_=>()
def hZ:(rs:List PT)→bc rs→bc (eZ rs)
 | [],_=>()
 | [.io _],_=>()
 | .io _ :: _ :: _,r=>r.2
 | .own .. :: _,r=>r
 | .mv .. :: _,r=>r
 | .bx .. :: _,r=>r
 | .agr .. :: _,r=>r
 | .lf _ :: _,r=>r
 | .ag _ :: _,r=>r
 | .pl _ :: _,r=>r
 | .ps _ :: _,r=>r
 | .fn .. :: _,r=>r
def JQ (s:SS) (i:Nat) : List (Nat×Pin):=match lkB s.bx i with | some (.rw _ _ _ _ pins)=>wM pins | _=>[]
def ly:List Nat→List (Nat×Option aW)
 | []=>[]
 | t::l=>(t,none)::ly l
def aak (s:SS) : (p:PT)→(b:IB)→List Nat→List Nat→b.den→Option MU
 | .own ..,.own e k t,is,_,xs=>(match is with | [i]=>some ⟨[],[(i,some (.rw e k t xs (JQ s i)))],[]⟩ | _=>none)
 | .mv ..,.no,is,_,_=>(match is with | [i]=>some ⟨[i],[],[i]⟩ | _=>none)
 | .bx ..,.bx ty n rows,is,js,x=>(match is with | i::is=>(match MH rows js n x with | some (vs,bx)=>some ⟨is,(i,some (.st ty vs))::bx,is⟩ | none=>none) | _=>none)
 | .lf _,.no,_,_,_=>some ⟨[],[],[]⟩
 | .ag _,.no,_,_,_=>some ⟨[],[],[]⟩
 | .pl _,.no,_,_,_=>some ⟨[],[],[]⟩
 | .ps _,.no,_,_,_=>some ⟨[],[],[]⟩
 | .fn ..,.no,_,_,_=>some ⟨[],[],[]⟩
 | _,_,_,_,_=>none
def MU.app (a b:MU) : MU:=⟨a.ks++b.ks,a.us++b.us,a.gs++b.gs⟩
def Ss (s:SS) : (ps:List PT)→(ls:List IB)→List (List Nat)→List (List Nat)→yB ls→Option MU
 | [],[],[],[],_=>some ⟨[],[],[]⟩
 | p::ps,b::ls,is::iss,js::kss,o=>(match aak s p b is js o.1,Ss s ps ls iss kss o.2 with | some m,some m'=>some (m.app m') | _,_=>none)
 | _,_,_,_,_=>none
def Kc:(rs:List PT)→List (List Nat)→bc rs→Option (List SV×List (Nat×Option aW))
 | [],[],_=>some ([],[])
 | [p],[is],x=>(match ML p is x with | some (v,b)=>some ([v],b) | none=>none)
 | p::q::l,is::iss,x=>(match ML p is x.1,Kc (q::l) iss x.2 with | some (v,b),some (vs,bs)=>some (v::vs,b++bs) | _,_=>none)
 | _,_,_=>none
def Wd:List SV→SV
 | [v]=>v
 | vs=>.tup vs
def ot:Nat→List PT→List (List Nat)
 | _,[]=>[]
 | base,p::l=>List.range' base p.nI::ot (base + p.nI) l
def br:List (List Nat)→List Nat
 | []=>[]
 | l::ls=>l++br ls
def tm:List Nat→Bool
 | []=>true
 | a::l=>match aA l a with | true=>false | false=>tm l
def RU (s:SS) : List Nat→Bool
 | []=>true
 | j::l=>match JT s j,lkB s.bx j,Nat.blt j 1000000 with | true,none,true=>RU s l | _,_,_=>false
def RT (s:SS) : List Nat→Bool
 | []=>true
 | i::l=>match aA s.pr i with | true=>false | false=>RT s l
def idU:List (Nat×Option aW)→List Nat
 | []=>[]
 | (i,_)::l=>i::idU l
def OA:List Nat→List Nat→Bool
 | [],_=>true
 | a::l,m=>match aA m a with | true=>OA l m | false=>false
def ZJ (ps:List PT) (iss:List (List Nat)) (x:ct ps) : Bool:=match MJ ps iss x with | some (_,bi)=>tm (idU bi)&&OA (br iss) (idU bi) | none=>false
def RV (s:SS) : List (Nat×Option aW)→Bool
 | []=>true
 | (i,b)::l=>(match lkB s.bx i with
  | some (.st ty cs)=>(match b with | some (.st ty' cs')=>ty==ty' && Nat.beq cs.length cs'.length | _=>false)
  | _=>true)&&RV s l
section
variable {ρ : Type}
def TC (T:List (Nat×Ent)) (f:Nat) (args:List SV) : Bool:=match lkE T f args with | some en=>pa en.ps||pa en.rs | none=>false
def SG (T:List (Nat×Ent)) (f:Nat) (s:SS) (args:List SV) (k:SV→Option ρ) : Option ρ :=
 match lkE T f args with
 | none=>none
 | some en=>chk (uI en.rs) (chk (cz args||qU en.rs) (Option.bind (SB s en.ps args) fun x=>Option.bind (en.f x) fun r=>k (aaX en.rs r)))
def SH (T:List (Nat×Ent)) (f:Nat) (s:SS) (dst:Option Nat) (args:List SV) (k:SV→MU→Option ρ) : Option ρ :=
 match s.ro with
 | true=>none
 | false=>match lkE T f args,dst with
  | some en,some d=>(match IV s en.ps args with
   | some (x,iss)=>Option.bind (en.f x) fun r =>
    let kss:=uM (500000 + 64 * d) (cx en.rs)
    let jss:=ot (500000 + 64 * d + D0 (cx en.rs)) (eZ en.rs)
    match Ss s en.ps (cx en.rs) iss kss (jN en.rs r),Kc (eZ en.rs) jss (hZ en.rs r) with
    | some m,some (vs,bs)=>chk (RT s (idU m.us++(m.ks++m.gs))&&(RU s (idU bs++(br kss++br jss))&&(tm (br iss++(br kss++br jss))&&(tm (idU (m.us++(bs++ly m.gs)))&&(RV s (m.us++ly m.gs)&&(OA (br iss) (idU m.us++m.gs)&&(OA (idU m.us++m.gs) (br iss++br kss)&&(ZJ en.ps iss x&&(OA (br kss++br jss) (idU m.us++idU bs)&&(th (eZ en.rs)&&th en.ps)))))))))) (k (Wd vs) ⟨m.ks,m.us++(bs++ly m.gs),m.gs⟩)
    | _,_=>none
   | none=>none)
  | _,_=>none
def wR (s:SS) (x:Operand) (b:Bool) : SS:=match x with
 | .tmp i=>⟨(i,.d (.bool b))::s.sl,s.bx,s.pr,s.ro,s.oc⟩
 | _=>s
def RA (g:Nat) : List Oper→Option (List Oper×Nat×List Oper)
 | []=>none
 | o::l=>match (match o.op,o.dst with | .pick (.tmp g') _ _,some d=>(match Nat.beq g' g with | true=>some d | false=>none) | _,_=>none) with
  | some d=>some ([o],d,l)
  | none=>match RA g l with
   | some (a,d,b)=>some (o::a,d,b)
   | none=>none
def ci:List Oper→List Nat
 | []=>[]
 | o::l=>match o.dst with | some d=>d::ci l | none=>ci l
def o8:List Nat→List (Nat×SV)→List (Nat×SV)
 | [],l=>l
 | d::ds,l=>(d,.junk)::o8 ds l
def Di (d:Nat) (s:SS) : Option Bool:=match lkV s.sl d with | .d (.bool b)=>some b | _=>none
mutual
def uU (t:Nat) (c:SD) : SV→SV
 | .row t'=>match Nat.beq t' t with | true=>.d c | false=>.row t'
 | .re t' p o=>match Nat.beq t' t with | true=>.junk | false=>.re t' p o
 | .vw t' p o=>match Nat.beq t' t with | true=>.junk | false=>.vw t' p o
 | .ag cs=>.ag (n5 t c cs)
 | .tup cs=>.tup (n5 t c cs)
 | .fn f ps qs=>.fn f (n5 t c ps) (n5 t c qs)
 | v=>v
def n5 (t:Nat) (c:SD) : List SV→List SV
 | []=>[]
 | v::vs=>uU t c v::n5 t c vs
end
def EX (t:Nat) (c:SD) : List (Nat×SV)→List (Nat×SV)
 | []=>[]
 | (i,v)::l=>(i,uU t c v)::EX t c l
def sk (t:Nat) (c:SD) : List (Nat×Option aW)→List (Nat×Option aW)
 | []=>[]
 | (i,some (.st ty cs))::l=>(i,some (.st ty (n5 t c cs)))::sk t c l
 | (i,b)::l=>(i,b)::sk t c l
def Pi (t:Nat) (s:SS) : Option SS:=match lkB s.bx t with
 | some (.rw _ _ ty xs _)=>match aA s.pr t with
  | false=>some ⟨EX t (.sl ty xs) s.sl,(t,none)::sk t (.sl ty xs) s.bx,s.pr,s.ro,s.oc⟩
  | true=>some s
 | _=>some s
def lz:List Nat→SS→Option SS
 | [],s=>some s
 | t::l,s=>match Pi t s with | some s=>lz l s | none=>none
mutual
def xG (t:Nat) (ds:List SD) : SV→SV
 | .ptr t' o=>match Nat.beq t' t with | true=>.fe (ds.drop o) | false=>.ptr t' o
 | .ag cs=>.ag (pO t ds cs)
 | .tup cs=>.tup (pO t ds cs)
 | .fn f ps qs=>.fn f (pO t ds ps) (pO t ds qs)
 | v=>v
def pO (t:Nat) (ds:List SD) : List SV→List SV
 | []=>[]
 | v::vs=>xG t ds v::pO t ds vs
end
def EY (t:Nat) (ds:List SD) : List (Nat×SV)→List (Nat×SV)
 | []=>[]
 | (i,v)::l=>(i,xG t ds v)::EY t ds l
def so (t:Nat) (ds:List SD) : List (Nat×Option aW)→List (Nat×Option aW)
 | []=>[]
 | (i,some (.st ty cs))::l=>(i,some (.st ty (pO t ds cs)))::so t ds l
 | (i,b)::l=>(i,b)::so t ds l
def Z7:List SD→Bool
 | []=>true
 | .nl :: _=>false
 | _ :: l=>Z7 l
def fbX (sc:List Nat) (t:Nat) (s:SS) : Option SS:=match lkB s.bx t with
 | some (.st _ cs)=>(match tZ cs with
  | some ds=>chk (Z7 ds&&(!(aA s.pr t) && !(aA sc t))) (some ⟨EY t ds s.sl,(t,none)::so t ds s.bx,s.pr,s.ro,s.oc⟩)
  | none=>none)
 | _=>none
def Iz (sc:List Nat) : List Nat→SS→Option SS
 | [],s=>some s
 | t::l,s=>match fbX sc t s with | some s=>Iz sc l s | none=>none
def So (s:SS) : List Nat→Bool
 | []=>true
 | t::l=>match lkB s.bx t with | none=>So s l | some _=>false
mutual
def OM:SV→List Nat
 | .row t=>[t]
 | .fn _ ps qs=>tg ps++tg qs
 | .ag cs=>tg cs
 | _=>[]
def tg:List SV→List Nat
 | []=>[]
 | c::cs=>OM c++tg cs
end
def V9:List (Nat×SV)→List SV
 | []=>[]
 | (_,v)::l=>v::V9 l
def AQ:List PT→List SV→List SV
 | p::ps,v::vs=>(match p.isM with | true=>AQ ps vs | false=>v::AQ ps vs)
 | _,_=>[]
def Yz (q:Bool) (T:List (Nat×Ent)) (o:Oper) (s:SS) : Option SS:=match q,s.ro,o.guard with
 | true,false,none=>(match o.op,u7 o with
  | .buildSlice _ _ ps,_=>lz (tg (V9 (xr s ps.toList))) s
  | _,some (x,xs)=>(match evX s x with
   | .fn f ps qs=>(match lkE T f (ps++wv s xs++qs) with
    | some en=>(match pa en.ps||pa en.rs with
     | true=>lz (tg (AQ en.ps (ps++wv s xs++qs))) s
     | false=>(match qU en.rs with | true=>some s | false=>lz (tg (ps++wv s xs++qs)) s))
    | none=>some s)
   | _=>some s)
  | _,_=>some s)
 | _,_,_=>some s
mutual
def wN:SV→Option (List Nat)
 | .junk=>none
 | .ptr t _=>some [t]
 | .row t=>some [t]
 | .re t _ _=>some [t]
 | .vw t _ _=>some [t]
 | .ag cs=>rh cs
 | .tup cs=>rh cs
 | .fn _ ps qs=>match rh ps,rh qs with | some a,some b=>some (a++b) | _,_=>none
 | .d _=>some []
 | .fe _=>some []
def rh:List SV→Option (List Nat)
 | []=>some []
 | c::cs=>match wN c,rh cs with | some a,some b=>some (a++b) | _,_=>none
end
def Sj (o:Oper) (s:SS) : Option (List Nat):=match o.op with
 | .load _ x=>wN (evX s x)
 | .store _ x _=>wN (evX s x)
 | .indexAddr _ x _=>wN (evX s x)
 | .slice _ x _ _ _=>wN (evX s x)
 | .convert _ _ x=>wN (evX s x)
 | .call c=>(match c.callee with
  | .value f=>(match wN (evX s f),rh (wv s c.args.toList) with | some a,some b=>some (a++b) | _,_=>none)
  | _=>rh (wv s c.args.toList))
 | _=>some []
def OB:List Nat→List Nat→Bool
 | [],_=>true
 | a::l,m=>match fw.memL m a with | true=>OB l m | false=>false
def yE:List Bd→Nat→Bd
 | [],_=>([],[])
 | x :: _,0=>x
 | _ :: l,i + 1=>yE l i
def It (q:Bool) (B:List Bd) (i:Nat) (o:Oper) (s:SS) (u:Upd) : Bool:=match q with
 | true=>true
 | false=>match Sj o s with
  | some fs=>OB fs (yE B i).1&&OB (VL u) (yE B i).2
  | none=>false
def Sk (q:Bool) (B:List Bd) (i:Nat) (o:Oper) (s:SS) (m:MU) : Bool:=match q with
 | true=>true
 | false=>match Sj o s with
  | some fs=>OB fs (yE B i).1&&OB (idU m.us) (yE B i).2
  | none=>false
def uC (q:Bool) (P:Program) (T:List (Nat×Ent)) (ops:Array Oper) (B:List Bd) : Nat→Nat→List Nat→List Oper→{ρ : Type} → SS→(SS→Option ρ)→Option ρ
 | _,_,_,[],_,s,k=>k s
 | 0,_,_,_ :: _,_,_,_=>none
 | n + 1,i,kn,o::l,_,s,k =>
  let go:=fun (_:Unit)=>match Yz q T o s with
   | none=>none
   | some s=>(match u7 o with
    | some (x,xs)=>(match evX s x with
     | .fn f ps qs=>(match TC T f (ps++wv s xs++qs) with
      | false=>chk (It q B i o s .no) (SG T f s (ps++wv s xs++qs) fun r=>uC q P T ops B n (i + 1) kn l (s.upd o.dst r .no) k)
      | true=>SH T f s o.dst (ps++wv s xs++qs) fun v m=>chk (Sk q B i o s m) (uC q P T ops B n (i + 1) kn l (s.updM o.dst v m) k))
     | _=>none)
    | none=>Y5 P o s fun v u=>chk (It q B i o s u) (uC q P T ops B n (i + 1) kn l (s.upd o.dst v u) k))
  let skip:=fun (_:Unit)=>uC q P T ops B n (i + 1) kn l (s.upd o.dst (.tup []) .no) k
  match o.guard with
  | none=>go ()
  | some (j,want)=>match (ops[j]?).bind (·.dst) with
   | none=>none
   | some g=>match lkV s.sl g with
    | .tup []=>skip ()
    | .d (.bool b)=>(match aA kn g with
     | true=>(match b with
      | true=>(match want with | true=>go () | false=>skip ())
      | false=>(match want with | true=>skip () | false=>go ()))
     | false=>(match RA g (o::l) with
      | none=>none
      | some (l1,d,l2)=>Option.bind (if b=true then uC q P T ops B n i (g::kn) l1 ⟨(g,.d (.bool true))::s.sl,s.bx,s.pr,true,s.oc⟩ (Di d) else uC q P T ops B n i (g::kn) l1 ⟨(g,.d (.bool false))::s.sl,s.bx,s.pr,true,s.oc⟩ (Di d)) fun qb =>
       uC q P T ops B n (i + l1.length) kn l2 ⟨(d,.d (.bool qb))::o8 (ci l1) s.sl,s.bx,s.pr,s.ro,ci l1++s.oc⟩ k))
    | _=>none
end
def lkN:List (Nat×List Nat)→Nat→Option (List Nat)
 | [],_=>none
 | (j,v)::l,i=>match Nat.beq i j with | true=>some v | false=>lkN l i
def kS (m:List (Nat×List Nat)) (s:SS) : Operand→List Nat
 | .tmp i=>(match lkN m i with | some l=>l | none=>(match wN (lkV s.sl i) with | some l=>l | none=>[]))
 | _=>[]
def B7 (m:List (Nat×List Nat)) (s:SS) : List Operand→List Nat
 | []=>[]
 | x::l=>kS m s x++B7 m s l
def aaF (m:List (Nat×List Nat)) (s:SS) : List (Nat×Operand)→List Nat
 | []=>[]
 | (_,x)::l=>kS m s x++aaF m s l
def aa3 (mb:List (Nat×List Nat)) (s:SS) (t:Nat) : List Nat:=match lkN mb t with
 | some l=>l
 | none=>(match lkB s.bx t with | some (.st _ cs)=>(match rh cs with | some l=>l | none=>[]) | _=>[])
def Xp (mb:List (Nat×List Nat)) (s:SS) : List Nat→List Nat
 | []=>[]
 | t::l=>aa3 mb s t++Xp mb s l
def aat (mb:List (Nat×List Nat)) (s:SS) (x:List Nat) : List Nat→List (Nat×List Nat)
 | []=>mb
 | t::l=>(t,x++aa3 mb s t)::aat mb s x l
def Ft:Option Nat→List Nat
 | some d=>[d]
 | none=>[]
def qI (m:List (Nat×List Nat)) (dst:Option Nat) (l:List Nat) : List (Nat×List Nat):=match dst with | some d=>(d,l)::m | none=>m
def aaN:List (Nat×Ent)→Nat→Option Ent
 | [],_=>none
 | (j,v)::l,i=>match Nat.beq i j with | true=>some v | false=>aaN l i
def abp (T:List (Nat×Ent)) (o:Oper) (f:Operand) : Option (List Nat):=match f,o.dst with
 | .func g,some d=>(match aaN T g with
  | some en=>(match pa en.ps||pa en.rs with | true=>some (br (uM (500000 + 64 * d) (cx en.rs))++br (ot (500000 + 64 * d + D0 (cx en.rs)) (eZ en.rs))) | false=>none)
  | none=>none)
 | _,_=>none
def kU (T:List (Nat×Ent)) (s:SS) : List Oper→List (Nat×List Nat)→List (Nat×List Nat)→List Bd
 | [],_,_=>[]
 | o::l,m,mb=>match o.op with
  | .move x=>([],[])::kU T s l (qI m o.dst (kS m s x)) mb
  | .assign x=>([],[])::kU T s l (qI m o.dst (kS m s x)) mb
  | .pick _ x y=>([],[])::kU T s l (qI m o.dst (kS m s x++kS m s y)) mb
  | .build _ ps=>([],[])::kU T s l (qI m o.dst (aaF m s ps.toList)) mb
  | .extract x _=>([],[])::kU T s l (qI m o.dst (kS m s x)) mb
  | .field _ x _=>([],[])::kU T s l (qI m o.dst (kS m s x)) mb
  | .fieldAddr _ x _=>([],[])::kU T s l (qI m o.dst (kS m s x)) mb
  | .nilCheck x=>([],[])::kU T s l (qI m o.dst (kS m s x)) mb
  | .indexAddr _ x _=>(kS m s x,[])::kU T s l (qI m o.dst (kS m s x)) mb
  | .load _ x=>(kS m s x,[])::kU T s l (qI m o.dst (Xp mb s (kS m s x))) mb
  | .store _ x y=>(kS m s x,kS m s x)::kU T s l m (aat mb s (kS m s y) (kS m s x))
  | .alloc _=>([],Ft o.dst)::kU T s l (qI m o.dst (Ft o.dst)) mb
  | .box _ x=>([],Ft o.dst)::kU T s l (qI m o.dst (Ft o.dst)) (aat mb s (kS m s x) (Ft o.dst))
  | .buildSlice _ _ _=>([],Ft o.dst)::kU T s l (qI m o.dst (Ft o.dst)) mb
  | .slice _ x _ _ _=>(kS m s x,[])::kU T s l (qI m o.dst (kS m s x)) mb
  | .makeSlice _ _ _=>([],Ft o.dst)::kU T s l (qI m o.dst (Ft o.dst)) mb
  | .convert _ _ x=>(kS m s x,[])::kU T s l (qI m o.dst []) mb
  | .makeFunc _ a b=>([],[])::kU T s l (qI m o.dst (B7 m s a.toList++B7 m s b.toList)) mb
  | .call c=>(match c.callee with
   | .builtin .append=>(match c.args.toList with
    | x::y :: _=>(kS m s x++kS m s y,kS m s x++Ft o.dst)::kU T s l (qI m o.dst (kS m s x++Ft o.dst)) mb
    | _=>([],[])::kU T s l m mb)
   | .builtin .copy=>(match c.args.toList with
    | x::y :: _=>(kS m s x++kS m s y,kS m s x)::kU T s l (qI m o.dst []) mb
    | _=>([],[])::kU T s l m mb)
   | .value f=>(match abp T o f with
    | none=>(kS m s f++B7 m s c.args.toList,[])::kU T s l (qI m o.dst []) mb
    | some js=>(B7 m s c.args.toList,B7 m s c.args.toList++(Xp mb s (B7 m s c.args.toList)++js))::kU T s l (qI m o.dst js) mb)
   | _=>(B7 m s c.args.toList,[])::kU T s l (qI m o.dst []) mb)
  | _=>([],[])::kU T s l m mb
def LH (m:Nat) (ops:Array Oper) : Bool:=(List.range ops.size).all fun i=>decide (i < m)||(List.range i).all fun k=>yN ops 4 i k
inductive Mod where
 | leaf (i:Nat) (t:Ty)
 | agg (i n:Nat)
 | row (i R e k:Nat) (t:Ty)
 | box (b ty n:Nat) (rows:List (Nat×Nat×Nat×Nat×Ty))
def Mod.den:Mod→Type
 | .leaf _ t=>t.den
 | .agg _ n=>ST n
 | .row _ _ _ _ t=>List t.den
 | .box _ _ n _=>ST n
def jU:List Mod→Type
 | []=>Unit
 | [m]=>m.den
 | m::m' :: l=>m.den×jU (m' :: l)
def aae:Option aW→Bool
 | some (.rw ..)=>true
 | _=>false
def A7 (s:SS) : (m:Mod)→Option m.den
 | .leaf i t=>match lkV s.sl i with
  | .d c=>c.as t
  | _=>none
 | .agg i n=>match lkV s.sl i with
  | .ag cs=>(match tZ cs with | some cs=>stK n cs | none=>none)
  | _=>none
 | .row i R e k t=>match lkV s.sl i,lkB s.bx R with
  | .row R',some (.rw e' k' t' xs _)=>match Ty.same t' t with
   | some ⟨h⟩=>chk (Nat.beq R' R) (chk (e' == e) (chk (k' == k) (some (yV h xs))))
   | none=>none
  | _,_=>none
 | .box b ty n rows=>match lkB s.bx b with
  | some (.st ty' cs)=>chk (ty' == ty) (chk (rows.all fun r=>aae (lkB s.bx r.2.1)) (match cellsOf s rows 0 cs with | some ds=>stK n ds | none=>none))
  | _=>none
def ua (s:SS) : (l:List Mod)→Option (jU l)
 | []=>some ()
 | [m]=>A7 s m
 | m::m' :: l=>Option.bind (A7 s m) fun x=>Option.bind (ua s (m' :: l)) fun xs=>some (x,xs)
def sa:(m:Mod)→m.den→SS→Option SS
 | .leaf i t,x,s=>some ⟨(i,.d (qL t x))::s.sl,s.bx,s.pr,s.ro,s.oc⟩
 | .agg i n,x,s=>some ⟨(i,.ag (AY (stC n x)))::s.sl,s.bx,s.pr,s.ro,s.oc⟩
 | .row i R e k t,xs,s=>some ⟨(i,.row R)::s.sl,(R,some (.rw e k t xs []))::s.bx,s.pr,s.ro,s.oc⟩
 | .box b ty n rows,x,s=>match fU rows 0 (stC n x) s.bx with
  | some (vs,bx)=>some ⟨s.sl,(b,some (.st ty vs))::bx,s.pr,s.ro,s.oc⟩
  | none=>none
def jM:(l:List Mod)→jU l→SS→Option SS
 | [],_,s=>some s
 | [m],x,s=>sa m x s
 | m::m' :: l,x,s=>match jM (m' :: l) x.2 s with | some s=>sa m x.1 s | none=>none
def bA:List Mod→List Nat
 | []=>[]
 | .row _ R _ _ _ :: l=>R::bA l
 | .box b _ _ rows::l=>b::(rows.map (·.2.1)++bA l)
 | _ :: l=>bA l
def ZC (R:Nat) : SV→Bool
 | .row R'=>Nat.beq R' R
 | _=>false
def pK (wr:List Nat) (s:SS) : List Mod→Bool
 | []=>true
 | .leaf i _ :: l=>(match aA wr i with | true=>pK wr s l | false=>false)
 | .agg i _ :: l=>(match aA wr i with | true=>pK wr s l | false=>false)
 | .row i R _ _ _ :: l=>(match aA s.pr R,aA wr i||ZC R (lkV s.sl i) with | false,true=>pK wr s l | _,_=>false)
 | .box b _ _ rows::l=>(match aA s.pr b,rows.all fun r=>!(aA s.pr r.2.1) with | false,true=>pK wr s l | _,_=>false)
def vT (mb sc:List Nat) : List (Nat×Option aW)→List Nat→Bool
 | [],_=>true
 | (t,b)::l,seen=>match aA seen t with
  | true=>vT mb sc l seen
  | false=>match b with
   | some (.st _ cs)=>(match aA mb t||(aA sc t||cz cs) with | true=>vT mb sc l (t::seen) | false=>false)
   | _=>vT mb sc l (t::seen)
def IM:List Nat→List Nat→Bool
 | [],_=>true
 | a::l,m=>match aA m a with | true=>false | false=>IM l m
mutual
def tn (sc wr:List Nat) (ms:List Mod) (pr:List Nat) (s:SS) : Bool:=pK wr s ms&&(IM sc pr&&(IM sc (bA ms)&&vT (bA ms) sc s.bx []))
def GW (pr kb:List Nat) : SV→Bool
 | .row t=>aA pr t
 | .re _ _ _=>false
 | .vw _ _ _=>false
 | .ptr t _=>aA kb t
 | .ag cs=>lh pr kb cs
 | .tup cs=>lh pr kb cs
 | .fn _ ps qs=>match lh pr kb ps with | true=>lh pr kb qs | false=>false
 | _=>true
def lh (pr kb:List Nat) : List SV→Bool
 | []=>true
 | c::cs=>match GW pr kb c with | true=>lh pr kb cs | false=>false
end
def tp (wr pr kb:List Nat) : List (Nat×SV)→List Nat→List (Nat×SV)
 | [],_=>[]
 | (i,v)::l,seen=>match aA seen i with
  | true=>tp wr pr kb l seen
  | false=>match aA wr i with
   | true=>tp wr pr kb l (i::seen)
   | false=>match GW pr kb v with
    | true=>(i,v)::tp wr pr kb l (i::seen)
    | false=>tp wr pr kb l (i::seen)
def yz:aW→Bool
 | .st _ cs=>cz cs
 | .rw ..=>true
def o0 (mb:List Nat) : List (Nat×Option aW)→List Nat→List Nat
 | [],_=>[]
 | (t,b)::l,seen=>match aA seen t with
  | true=>o0 mb l seen
  | false=>match b with
   | none=>o0 mb l (t::seen)
   | some b=>match aA mb t,yz b with
    | false,true=>t::o0 mb l (t::seen)
    | _,_=>o0 mb l (t::seen)
def Jw:Option aW→Option aW
 | some (.rw e k t xs _)=>some (.rw e k t xs [])
 | b=>b
def tq (pr:List Nat) : List (Nat×Option aW)→List Nat→List (Nat×Option aW)
 | [],_=>[]
 | (t,b)::l,seen=>match aA seen t with
  | true=>tq pr l seen
  | false=>match aA pr t with
   | true=>(t,Jw b)::tq pr l (t::seen)
   | false=>tq pr l (t::seen)
def wS:List SV→List SV
 | []=>[]
 | _ :: l=>.junk::wS l
def tf (bx:List (Nat×Option aW)) : List Nat→List Nat
 | []=>[]
 | b::l=>match lkB bx b with
  | some (.st _ _)=>b::tf bx l
  | _=>tf bx l
def LO (bx:List (Nat×Option aW)) : List Nat→List (Nat×Option aW)→List (Nat×Option aW)
 | [],r=>r
 | b::l,r=>match lkB bx b with
  | some (.st ty cs)=>(b,some (.st ty (wS cs)))::LO bx l r
  | _=>LO bx l r
def cf (sc wr:List Nat) (ms:List Mod) (s:SS) : SS :=
 let pr:=o0 (bA ms++sc) s.bx []
 ⟨tp wr pr (bA ms++(tf s.bx sc++pr)) s.sl [],LO s.bx sc (tq pr s.bx []),pr,s.ro,[]⟩
def AL (but:List Nat) : List SV→List Nat
 | []=>[]
 | .row t::l=>match aA but t with | true=>AL but l | false=>t::AL but l
 | _ :: l=>AL but l
def H9 (s:SS) : List Mod→List Nat
 | []=>[]
 | .leaf i _ :: l=>AL [] [lkV s.sl i] ++ H9 s l
 | .agg i _ :: l=>(match lkV s.sl i with | .ag cs=>AL [] cs | _=>[])++H9 s l
 | .row .. :: l=>H9 s l
 | .box b _ _ rows::l=>(match lkB s.bx b with | some (.st _ cs)=>AL (rows.map (·.2.1)) cs | _=>[])++H9 s l
def clr (s:SS) : SS:=⟨s.sl,s.bx,s.pr,s.ro,[]⟩
def uL (s:SS) : List (Nat×Nat×Nat×Nat×Ty)→List SV→List (Nat×Option aW)→Option (List SV×List (Nat×Option aW))
 | [],cs,bx=>some (cs,bx)
 | (j,R,e,k,t)::l,cs,bx=>match cs[j]? with
  | some (.d .nl)=>(match lkB bx R,decide (0 < k∧R < 1000000),aA s.pr R with
   | none,true,false=>uL s l (cs.set j (.row R)) ((R,some (.rw e k t [] []))::bx)
   | _,_,_=>none)
  | _=>uL s l cs bx
def G0 (wr:List Nat) : List Mod→SS→Option SS
 | [],s=>some s
 | .row i R e k t::l,s=>match lkV s.sl i with
  | .d .nl=>(match Nat.beq i R,lkB s.bx i,decide (0 < k∧i < 1000000),aA wr i,aA s.pr i with
   | true,none,true,true,false=>G0 wr l ⟨(i,.row i)::s.sl,(i,some (.rw e k t [] []))::s.bx,s.pr,s.ro,s.oc⟩
   | _,_,_,_,_=>none)
  | _=>G0 wr l s
 | .box b _ _ [] :: l,s=>G0 wr l s
 | .box b _ _ rows::l,s=>match lkB s.bx b with
  | some (.st ty cs)=>(match aA s.pr b,uL s rows cs s.bx with
   | false,some (cs,bx)=>G0 wr l ⟨s.sl,(b,some (.st ty cs))::bx,s.pr,s.ro,s.oc⟩
   | _,_=>none)
  | _=>none
 | _ :: l,s=>G0 wr l s
def Pq (wr:List Nat) (ms:List Mod) (s:SS) : Option SS:=match G0 wr ms s with
 | some s=>lz (H9 s ms) s
 | none=>none
def qP (ms:List Mod) (s:SS) : Option (jU ms):=match lz (H9 s ms) s with
 | some s=>ua s ms
 | none=>none
inductive ur where
 | n
 | s (a b:ur)
 | lp (ms:List Mod) (id:Nat) (ret:Bool) (b:ur)
 | j (ms:List Mod) (h:ur)
def ur.l:ur→ur
 | .s a _=>a
 | .j _ (.s a _)=>a
 | _=>.n
def ur.r:ur→ur
 | .s _ b=>b
 | .j _ (.s _ b)=>b
 | _=>.n
structure Cx where
 P:Program
 T:List (Nat×Ent)
 n:Nat
 rs:List PT
 vars:List ResultVar
 fz:List (Nat×List Nat)
 sc:List Nat
 fb:List (Nat×List Nat)
def lkF:List (Nat×List Nat)→Nat→List Nat
 | [],_=>[]
 | (j,v)::l,i=>match Nat.beq i j with | true=>v | false=>lkF l i
def wrC:Code→List Nat
 | .region _ ops _=>ci ops.toList
 | .seq a b=>wrC a++wrC b
 | .cond (.tmp i) a b=>i::(wrC a++wrC b)
 | .cond _ a b=>wrC a++wrC b
 | .block _ c=>wrC c
 | .loop c=>wrC c
 | _=>[]
def LS (P:Program) (s:SS) : List ResultVar→Option (List SV)
 | []=>some []
 | .tmp t::l=>match LS P s l with | some vs=>some (lkV s.sl t::vs) | none=>none
 | .cell t ty::l=>match R3 P s ty (lkV s.sl t),LS P s l with | some v,some vs=>some (v::vs) | _,_=>none
def aaT:List (Nat×Nat×Nat×Ty)→Nat→Bool
 | [],_=>false
 | (j,_)::l,i=>match Nat.beq i j with | true=>true | false=>aaT l i
def Dn (rows:List (Nat×Nat×Nat×Ty)) : Nat→List SV→List Nat
 | _,[]=>[]
 | j,c::cs=>match aaT rows j with | true=>Dn rows (j + 1) cs | false=>OM c++Dn rows (j + 1) cs
def Z0:PT→SV→List Nat
 | .own ..,_=>[]
 | .agr _ rows,.ag cs=>Dn rows 0 cs
 | .agr ..,_=>[]
 | _,v=>OM v
def RI:List PT→List SV→List Nat
 | p::ps,v::vs=>Z0 p v++RI ps vs
 | _,_=>[]
def un (i:Nat) : Nat:=1000000 + 64 * i
def aaR (s:SS) (i:Nat) : IB→List Nat
 | .bx _ _ rows=>(match lkB s.bx (un i) with | some (.st _ cs)=>Dn rows 0 cs | _=>[])
 | _=>[]
def WA (s:SS) : Nat→List IB→List Nat
 | _,[]=>[]
 | i,b::l=>aaR s i b++WA s (i + 1) l
def Zf (s:SS) (i:Nat) : (b:IB)→Option (b.den×List Nat)
 | .no=>some ((),[])
 | .own e k t=>(match tG s e k t (.row (un i)) with | some (xs,_)=>some (xs,[]) | none=>none)
 | .bx ty n rows=>(match lkB s.bx (un i) with
  | some (.st ty' cs)=>chk (ty' == ty) (MX s rows n cs)
  | _=>none)
def Sy (s:SS) : Nat→(ls:List IB)→Option (yB ls×List (List Nat))
 | _,[]=>some ((),[])
 | i,b::ls=>match Zf s i b,Sy s (i + 1) ls with | some (o,js),some (os,kss)=>some ((o,os),js::kss) | _,_=>none
def Ki (s:SS) : (rs:List PT)→List SV→Option (bc rs×List (List Nat))
 | [],[]=>some ((),[])
 | [p],[v]=>(match Px s p v with | some (x,is)=>some (x,[is]) | none=>none)
 | p::q::l,v::vs=>(match Px s p v,Ki s (q::l) vs with | some (x,is),some (xs,iss)=>some ((x,xs),is::iss) | _,_=>none)
 | _,_=>none
def Wx:(rs:List PT)→yB (cx rs)→bc (eZ rs)→bc rs
 | [],_,_=>()
 | [.io _],o,_=>o
 | .io _ :: _ :: _,o,r=>(o,r)
 | .own .. :: _,_,r=>r
 | .mv .. :: _,_,r=>r
 | .bx .. :: _,_,r=>r
 | .agr .. :: _,_,r=>r
 | .lf _ :: _,_,r=>r
 | .ag _ :: _,_,r=>r
 | .pl _ :: _,_,r=>r
 | .ps _ :: _,_,r=>r
 | .fn .. :: _,_,r=>r
def dw:Nat→List IB→List Nat
 | _,[]=>[]
 | i,.no::l=>dw (i + 1) l
 | i,.own .. :: l=>un i::dw (i + 1) l
 | i,.bx .. :: l=>un i::dw (i + 1) l
def ZB (C:Cx) (s:SS) : Option (bc C.rs):=match LS C.P s C.vars with
 | some vs=>(match lz (WA s 0 (cx C.rs)++RI (eZ C.rs) vs) s with
  | some s1=>(match LS C.P s1 C.vars with
   | some ws=>(match Sy s1 0 (cx C.rs),Ki s1 (eZ C.rs) ws with
    | some (o,kss),some (r,jss)=>chk (tm (dw 0 (cx C.rs)++(br kss++br jss))) (some (Wx C.rs o r))
    | _,_=>none)
   | none=>none)
  | none=>none)
 | none=>none
def B9 (C:Cx) (s:SS) : Option (bc C.rs):=match pa C.rs with
 | true=>ZB C (clr s)
 | false=>(match LS C.P (clr s) C.vars with
  | some vs=>IT (clr s) C.rs vs
  | none=>none)
def VP:List Oper→Bool
 | []=>true
 | o::l=>match o.op,o.dst with | .store ..,some _=>false | _,_=>VP l
def WD:List Oper→Bool
 | []=>false
 | o::l=>match o.op with | .buildSlice ..=>true | _=>WD l
def Sd:List Oper→Bool
 | []=>false
 | o::l=>match u7 o with | some _=>true | none=>Sd l
def VN (ops:Array Oper) : Nat→Nat
 | 0=>0
 | n + 1=>match (List.range n).all fun k=>yN ops 4 n k with | true=>VN ops n | false=>n + 1
def i6 (ops:Array Oper) : Nat:=match WD ops.toList,Sd ops.toList with
 | true,true=>VN ops ops.toList.length
 | _,_=>ops.toList.length
def VZ (C:Cx) (id:Nat) (ops:Array Oper) (draw:Bool) (s:SS) {ρ : Type} (k:SS→Option ρ) : Option ρ :=
 match lz (lkF C.fz id) s with
 | none=>none
 | some s0=>let s:SS:=⟨s0.sl,s0.bx,s0.pr,s0.ro,[]⟩; match draw with
  | false=>chk (VP ops.toList&&IL C.n ops.toList) (uC true C.P C.T ops [] 1000 0 [] ops.toList s k)
  | true=>chk (VP ops.toList) (chk (Fu (yE (kU C.T s ops.toList [] [])) C.n ops) (match Nat.beq (i6 ops) ops.toList.length with
   | true=>uC false C.P C.T ops (kU C.T s ops.toList [] []) 1000 0 [] ops.toList s k
   | false=>chk (LH (i6 ops) ops&&decide (i6 ops≤ops.toList.length)) (uC false C.P C.T ops (kU C.T s ops.toList [] []) 1000 0 [] (ops.toList.take (i6 ops)) s fun s=>uC true C.P C.T ops [] 1000 0 [] (ops.toList.drop (i6 ops)) s k)))
def Yu (C:Cx) (id:Nat) (ops:Array Oper) (draw:Bool) (s:SS) {ρ : Type} (k:SS→Option ρ) : Option ρ:=match lkF C.fb id with
 | []=>VZ C id ops draw s k
 | t::l=>chk (So s (t::l)) (VZ C id ops draw s fun s=>match Iz C.sc (t::l) s with | some s=>k s | none=>none)
def Hz (C:Cx) (wr:List Nat) (h:ur) (body:(ρ : Type)→SS→(Exit→SS→Option ρ)→(bc C.rs→Option ρ)→Option ρ) (ρ : Type) (s:SS) (k:Exit→SS→Option ρ) (kr:bc C.rs→Option ρ) : Option ρ :=
 match h with
 | .j ms _=>match G0 wr ms (clr s) with
  | none=>none
  | some s1=>chk (tn C.sc wr ms s.pr s1) (Option.bind (body (jU ms) ⟨s1.sl,s1.bx,(cf C.sc wr ms s1).pr,s1.ro,s1.oc⟩ (fun e s'=>match e with | .normal=>qP ms s' | _=>none) (fun _=>none)) fun st =>
   match jM ms st (cf C.sc wr ms s1) with
   | some s2=>k .normal ⟨s2.sl,s2.bx,s.pr,s.ro,s.oc⟩
   | none=>none)
 | _=>body ρ s k kr
def xI (C:Cx) : Code→ur→(ρ : Type)→SS→(Exit→SS→Option ρ)→(bc C.rs→Option ρ)→Option ρ
 | .skip,_,_,s,k,_=>k .normal s
 | .label _,_,_,s,k,_=>k .normal s
 | .exit id,_,_,s,k,_=>k (.exit id) s
 | .ret,_,_,s,_,kr=>Option.bind (B9 C s) kr
 | .region id ops draw,h,ρ,s,k,kr=>Hz C (ci ops.toList) h (fun _ s k _=>Yu C id ops draw s fun s=>k .normal s) ρ s k kr
 | .seq a b,h,ρ,s,k,kr=>Hz C (wrC a++wrC b) h (fun ρ s k kr=>xI C a h.l ρ s (fun e s'=>match e with | .normal=>xI C b h.r ρ s' k kr | e=>k e s') kr) ρ s k kr
 | .cond c a b,h,ρ,s,k,kr=>Hz C (wrC (.cond c a b)) h (fun ρ s k kr=>match evX s c with
   | .d (.bool t)=>if t=true then xI C a h.l ρ (wR s c true) k kr else xI C b h.r ρ (wR s c false) k kr
   | _=>none) ρ s k kr
 | .block id c,h,ρ,s,k,kr=>Hz C (wrC c) h (fun ρ s k kr=>xI C c h.l ρ s (fun e s'=>match e with | .exit id'=>(match Nat.beq id' id with | true=>k .normal s' | false=>k (.exit id') s') | e=>k e s') kr) ρ s k kr
 | .loop c,.lp ms id ret hb,_,s,k,kr=>match Pq (wrC c) ms (clr s) with
  | none=>none
  | some s0=>chk (tn C.sc (wrC c) ms s.pr s0) (match ua s0 ms with
   | none=>none
   | some st0=>match ret with
    | false=>Option.bind (ah (fun st=>match jM ms st (cf C.sc (wrC c) ms s0) with
      | none=>none
      | some sh=>xI C c hb (jU ms⊕jU ms) sh (fun e s'=>match e with
       | .normal=>Option.bind (qP ms s') fun st'=>some (.inl st')
       | .exit id'=>(match Nat.beq id' id with | true=>Option.bind (qP ms s') fun st'=>some (.inr st') | false=>none)
       | _=>none) (fun _=>none)) ab st0) fun st=>match jM ms st (cf C.sc (wrC c) ms s0) with
      | some s2=>k (.exit id) ⟨s2.sl,s2.bx,s.pr,s.ro,s.oc⟩
      | none=>none
    | true=>Option.bind (ah (fun st=>match jM ms st (cf C.sc (wrC c) ms s0) with
      | none=>none
      | some sh=>xI C c hb (jU ms⊕(jU ms⊕bc C.rs)) sh (fun e s'=>match e with
       | .normal=>Option.bind (qP ms s') fun st'=>some (.inl st')
       | .exit id'=>(match Nat.beq id' id with | true=>Option.bind (qP ms s') fun st'=>some (.inr (.inl st')) | false=>none)
       | _=>none) (fun r=>some (.inr (.inr r)))) ab st0) fun o=>match o with
      | .inr r=>kr r
      | .inl st=>match jM ms st (cf C.sc (wrC c) ms s0) with
       | some s2=>k (.exit id) ⟨s2.sl,s2.bx,s.pr,s.ro,s.oc⟩
       | none=>none)
 | _,_,_,_,_,_=>none
def Bp:Nat→List SV→List (Nat×SV)
 | _,[]=>[]
 | i,v::vs=>(i,v)::Bp (i + 1) vs
def iZ (C:Cx) (c:Code) (h:ur) (ps:List PT) (x:ct ps) : Option (bc C.rs) :=
 xI C c h (bc C.rs) ⟨Bp 0 (Cj ps x),[],[],false,[]⟩ (fun e s=>match e with | .normal=>B9 C s | _=>none) (fun r=>some r)
def mF (i:Nat) : PT→List Nat
 | .own ..=>[un i]
 | .mv ..=>[900000 + 64 * i]
 | .bx _ _ rows=>un i::List.range' (900000 + 64 * i) rows.length
 | .agr _ rows=>List.range' (900000 + 64 * i) rows.length
 | _=>[]
def bk:Nat→List PT→List (List Nat)
 | _,[]=>[]
 | i,p::ps=>mF i p::bk (i + 1) ps
def aaG:PT→IB→Bool
 | .own ..,.own ..=>true
 | .bx ..,.bx ..=>true
 | .own ..,_=>false
 | .bx ..,_=>false
 | .agr ..,_=>false
 | .io _,_=>false
 | _,.no=>true
 | _,_=>false
def O2:List PT→List IB→Bool
 | [],[]=>true
 | p::ps,b::ls=>match aaG p b with | true=>O2 ps ls | false=>false
 | _,_=>false
def H0 (C:Cx) (c:Code) (h:ur) (ps:List PT) (x:ct ps) : Option (bc C.rs):=match MJ ps (bk 0 ps) x with
 | some (vs,bx)=>chk (tm (idU bx)) (xI C c h (bc C.rs) ⟨Bp 0 vs,bx,[],false,[]⟩ (fun e s=>match e with | .normal=>B9 C s | _=>none) (fun r=>some r))
 | none=>none
end
section
theorem ao {ρ : Type} {b:Bool} {k:Option ρ} {r : ρ} (h:chk b k=some r) : b=true∧k=some r:=by
 cases b
 ·cases h
 ·exact ⟨rfl,h⟩
theorem cW (j:Nat) (v:SV) (l:List (Nat×SV)) (i:Nat) : lkV ((j,v)::l) i=if i=j then v else lkV l i:=by
 simp only [lkV]
 by_cases h:i=j
 ·subst h; simp
 ·have:Nat.beq i j=false:=by rw [← Bool.not_eq_true,Nat.beq_eq]; exact h
  rw [this,if_neg h]
theorem ar (j:Nat) (v:Option aW) (l:List (Nat×Option aW)) (i:Nat) : lkB ((j,v)::l) i=if i=j then v else lkB l i:=by
 simp only [lkB]
 by_cases h:i=j
 ·subst h; simp
 ·have:Nat.beq i j=false:=by rw [← Bool.not_eq_true,Nat.beq_eq]; exact h
  rw [this,if_neg h]
theorem se (j:Nat) (v:Pin) (l:List (Nat×Pin)) (i:Nat) : lkP ((j,v)::l) i=if i=j then some v else lkP l i:=by
 simp only [lkP]
 by_cases h:i=j
 ·subst h; simp
 ·have:Nat.beq i j=false:=by rw [← Bool.not_eq_true,Nat.beq_eq]; exact h
  rw [this,if_neg h]
theorem cY (a b:Nat) : Nat.beq a b=decide (a=b):=by
 by_cases h:a=b
 ·subst h; simp
 ·have:Nat.beq a b=false:=by rw [← Bool.not_eq_true,Nat.beq_eq]; exact h
  simp [this,h]
theorem vR (l:List (Nat×SV)) (dst:Option Nat) (v:SV) (i:Nat) : lkV (sY l dst v) i=if dst=some i then v else lkV l i:=by
 cases dst with
 | none=>simp [sY]
 | some d =>
  simp only [sY,cW,Option.some.injEq]
  by_cases h:i=d
  ·subst h; simp
  ·rw [if_neg h,if_neg (Ne.symm h)]
theorem JV:∀ cs:List SD,AY cs=cs.map .d
 | []=>rfl
 | c::cs=>by simp [AY,JV cs]
theorem lA:∀ (t:Ty) (x:t.den),(bH t x).length=tyN t
 | .int _,_=>rfl
 | .bool,_=>rfl
 | .str,_=>rfl
 | .sl _,_=>rfl
 | .st i,x=>Yk i x
theorem Dw:∀ (t:Ty) (x:t.den),(Bc t x).map SD.toD=bH t x
 | .int _,_=>rfl
 | .bool,_=>rfl
 | .str,_=>rfl
 | .sl _,_=>rfl
 | .st i,x=>uy i x
theorem Sq:∀ (t:Ty) (x:t.den),∀ c∈Bc t x,c≠.nl
 | .int _,_,c,h=>by simp [Bc] at h; subst h; exact fun e=>by cases e
 | .bool,_,c,h=>by simp [Bc] at h; subst h; exact fun e=>by cases e
 | .str,_,c,h=>by simp [Bc] at h; subst h; exact fun e=>by cases e
 | .sl _,_,c,h=>by simp [Bc] at h; subst h; exact fun e=>by cases e
 | .st i,x,c,h=>xh i x c h
theorem dN {α : Type} {x : α} {Q:Prop} (h:(none:Option α)=some x) : Q:=by cases h
theorem Kh:∀ {t:Ty} {cs:List SD} {x:t.den},Za t cs=some x→cs.map SD.toD=bH t x
 | .st i,cs,x,h=>AH h
 | .int k,[],x,h=>dN (x:=x) h
 | .int k,[c],x,h=>(SD.as_ok (t:=(.int k)) h).symm
 | .int k,_ :: _ :: _,x,h=>dN (x:=x) h
 | .bool,[],x,h=>dN (x:=x) h
 | .bool,[c],x,h=>(SD.as_ok (t:=.bool) h).symm
 | .bool,_ :: _ :: _,x,h=>dN (x:=x) h
 | .str,[],x,h=>dN (x:=x) h
 | .str,[c],x,h=>(SD.as_ok (t:=.str) h).symm
 | .str,_ :: _ :: _,x,h=>dN (x:=x) h
 | .sl t,[],x,h=>dN (x:=x) h
 | .sl t,[c],x,h=>(SD.as_ok (t:=(.sl t)) h).symm
 | .sl t,_ :: _ :: _,x,h=>dN (x:=x) h
def Lo:SD→D→Prop
 | .nl,y=>y = .v (.slice none 0 0)
 | c,y=>nrm y=c.toD
theorem Lo.nrm {c:SD} {y:D} (h:Lo c y) : nrm y=c.toD:=by
 cases c <;> first | exact h | (cases h; rfl)
theorem Lo.of {c:SD} (hc:c≠.nl) : Lo c c.toD:=by
 cases c <;> first | rfl | exact absurd rfl hc
theorem Wf {y:D} {x:Value} (h:nrm y = .v x) : y = .v x:=by
 unfold Go.Proofs.YtmjkjaahbgikjaaGreat.nrm at h
 split at h
 ·cases h
 ·exact h
theorem Z6 {y:D} {es:List (List D)} (h:nrm y = .sl es) : y = .sl es∨(es = []∧y = .v (.slice none 0 0)):=by
 unfold Go.Proofs.YtmjkjaahbgikjaaGreat.nrm at h
 split at h
 ·injection h with h; exact .inr ⟨h.symm,rfl⟩
 ·exact .inl h
inductive bf (B:List (Nat×Option aW)) : SV→PV→Prop
 | junk (q:PV) : bf B .junk q
 | d (c:SD) (y:D) (h:Lo c y) : bf B (.d c) (.d y)
 | ag (cs:List SV) (qs:List PV) (hl:cs.length=qs.length) (hr:∀ (j:Nat) c q,cs[j]? = some c→qs[j]? = some q→bf B c q) : bf B (.ag cs) (.ag qs)
 | tup (cs:List SV) (qs:List PV) (hl:cs.length=qs.length) (hr:∀ (j:Nat) c q,cs[j]? = some c→qs[j]? = some q→bf B c q) : bf B (.tup cs) (.tup qs)
 | ptr (t o:Nat) (ty:TypeId) (cs:List SV) (hb:lkB B t=some (.st ty cs)) : bf B (.ptr t o) (.ptr t o)
 | row (t n e k:Nat) (ty:Ty) (xs:List ty.den) (pins:List (Nat×Pin)) (hb:lkB B t=some (.rw e k ty xs pins)) (hn:xs.length=n) : bf B (.row t) (.row t n)
 | re (t p o n i e k:Nat) (ty:Ty) (xs:List ty.den) (pins:List (Nat×Pin)) (pin:Pin) (hb:lkB B t=some (.rw e k ty xs pins)) (hn:xs.length=n) (hp:lkP pins p=some pin) (hi:i=pin.i.toNat) : bf B (.re t p o) (.re t n i o)
 | vw (t lo hi n e k:Nat) (ty:Ty) (xs:List ty.den) (pins:List (Nat×Pin)) (hb:lkB B t=some (.rw e k ty xs pins)) (hn:xs.length=n) : bf B (.vw t lo hi) (.vw t n lo hi)
 | fe (cs:List SD) (ds:List D) (h:ds=cs.map SD.toD) (hn:∀ c∈cs,c≠.nl) : bf B (.fe cs) (.fe ds)
 | fn (f:FuncId) (ps qs:List SV) (ps' qs':List PV) (hl:ps.length=ps'.length) (hr:∀ (j:Nat) c q,ps[j]? = some c→ps'[j]? = some q→bf B c q) (hl2:qs.length=qs'.length) (hr2:∀ (j:Nat) c q,qs[j]? = some c→qs'[j]? = some q→bf B c q) : bf B (.fn f ps qs) (.fn f ps' qs')
structure ca (B:List (Nat×Option aW)) (cs:List SV) (qs:List PV) : Prop where
 len:cs.length=qs.length
 rep:∀ (j:Nat) c q,cs[j]? = some c→qs[j]? = some q→bf B c q
def aau (ty:Ty) (xs:List ty.den) (pins:List (Nat×Pin)) : Prop:=∀ p pin,lkP pins p=some pin→pin.i.toNat < xs.length∧∀ cs,pin.cs=some cs→∃ x,xs[pin.i.toNat]? = some x∧cs=Bc ty x
def mq (B:List (Nat×Option aW)) (oc:Bool) : Option aW→Option Box→Prop
 | none,q=>oc=false→q=none
 | some (.st ty cs),q=>∃ qs,q=some (.st ty qs)∧ca B cs qs
 | some (.rw e k ty xs pins),q=>q=some (.rw e k (xs.map (bH ty)))∧aau ty xs pins
structure Sim (s:SS) (p:PS) : Prop where
 sl:∀ i,bf s.bx (lkV s.sl i) (p.t i)
 bx:∀ t,mq s.bx (aA s.oc t) (lkB s.bx t) (p.b t)
structure BLe (B B':List (Nat×Option aW)) : Prop where
 rw:∀ t e k ty xs pins,lkB B t=some (.rw e k ty xs pins)→∃ e' k' ty' xs' pins',lkB B' t=some (.rw e' k' ty' xs' pins')∧xs'.length=xs.length∧∀ p pin,lkP pins p=some pin→∃ pin',lkP pins' p=some pin'∧pin'.i=pin.i
 st:∀ t ty cs,lkB B t=some (.st ty cs)→∃ ty' cs',lkB B' t=some (.st ty' cs')
theorem BLe.refl (B:List (Nat×Option aW)) : BLe B B:=⟨fun _ e k ty xs pins h=>⟨e,k,ty,xs,pins,h,rfl,fun _ pin hp=>⟨pin,hp,rfl⟩⟩,fun _ ty cs h=>⟨ty,cs,h⟩⟩
theorem bf.mono {B B':List (Nat×Option aW)} {v:SV} {q:PV} (h:bf B v q) (hB:BLe B B') : bf B' v q:=by
 induction h with
 | junk q=>exact .junk q
 | d c y h=>exact .d c y h
 | ag cs qs hl hr ih=>exact .ag cs qs hl ih
 | tup cs qs hl hr ih=>exact .tup cs qs hl ih
 | ptr t o ty cs hb=>obtain ⟨ty',cs',h1⟩:=hB.st t ty cs hb; exact .ptr t o ty' cs' h1
 | row t n e k ty xs pins hb hn =>
  obtain ⟨e',k',ty',xs',pins',h1,h2,h3⟩:=hB.rw t e k ty xs pins hb
  exact .row t n e' k' ty' xs' pins' h1 (h2.trans hn)
 | re t p o n i e k ty xs pins pin hb hn hp hi =>
  obtain ⟨e',k',ty',xs',pins',h1,h2,h3⟩:=hB.rw t e k ty xs pins hb
  obtain ⟨pin',h4,h5⟩:=h3 p pin hp
  exact .re t p o n i e' k' ty' xs' pins' pin' h1 (h2.trans hn) h4 (by rw [h5]; exact hi)
 | vw t lo hi n e k ty xs pins hb hn =>
  obtain ⟨e',k',ty',xs',pins',h1,h2,h3⟩:=hB.rw t e k ty xs pins hb
  exact .vw t lo hi n e' k' ty' xs' pins' h1 (h2.trans hn)
 | fe cs ds h hn=>exact .fe cs ds h hn
 | fn f ps qs ps' qs' hl hr hl2 hr2 ih ih2=>exact .fn f ps qs ps' qs' hl ih hl2 ih2
theorem ca.mono {B B':List (Nat×Option aW)} {cs:List SV} {qs:List PV} (h:ca B cs qs) (hB:BLe B B') : ca B' cs qs:=⟨h.len,fun j c q h1 h2=>(h.rep j c q h1 h2).mono hB⟩
theorem mq.mono {B B':List (Nat×Option aW)} {oc:Bool} {b:Option aW} {q:Option Box} (h:mq B oc b q) (hB:BLe B B') : mq B' oc b q:=by
 cases b with
 | none=>exact h
 | some b=>cases b with
  | st ty cs=>obtain ⟨qs,h1,h2⟩:=h; exact ⟨qs,h1,h2.mono hB⟩
  | rw e k ty xs pins=>exact h
variable {B:List (Nat×Option aW)}
theorem ca.nil:ca B [] []:=⟨rfl,fun j c q h=>by simp at h⟩
theorem ca.cons {c:SV} {q:PV} {cs:List SV} {qs:List PV} (h:bf B c q) (hs:ca B cs qs) : ca B (c::cs) (q::qs) :=
 ⟨by simp [hs.len],fun j c' q' h1 h2=>by
  cases j with
  | zero=>simp at h1 h2; subst h1 h2; exact h
  | succ j=>simp at h1 h2; exact hs.rep j _ _ h1 h2⟩
theorem ca.head {c:SV} {q:PV} {cs:List SV} {qs:List PV} (h:ca B (c::cs) (q::qs)) : bf B c q:=h.rep 0 c q rfl rfl
theorem ca.tail {c:SV} {q:PV} {cs:List SV} {qs:List PV} (h:ca B (c::cs) (q::qs)) : ca B cs qs :=
 ⟨by have:=h.len; simpa using this,fun j c' q' h1 h2=>h.rep (j + 1) c' q' (by simpa using h1) (by simpa using h2)⟩
theorem ca.cases {cs:List SV} {qs:List PV} (h:ca B cs qs) : (cs = []∧qs = [])∨∃ c q cs' qs',cs=c::cs'∧qs=q::qs'∧bf B c q∧ca B cs' qs':=by
 cases cs with
 | nil=>cases qs with
  | nil=>exact .inl ⟨rfl,rfl⟩
  | cons q qs=>have:=h.len; simp at this
 | cons c cs=>cases qs with
  | nil=>have:=h.len; simp at this
  | cons q qs=>exact .inr ⟨c,q,cs,qs,rfl,rfl,h.head,h.tail⟩
theorem ca.take {cs:List SV} {qs:List PV} (h:ca B cs qs) (n:Nat) : ca B (cs.take n) (qs.take n) :=
 ⟨by simp [h.len],fun j c q h1 h2=>by
  rw [List.getElem?_take] at h1 h2
  split at h1
  ·rename_i hj; rw [if_pos hj] at h2; exact h.rep j c q h1 h2
  ·cases h1⟩
theorem ca.drop {cs:List SV} {qs:List PV} (h:ca B cs qs) (n:Nat) : ca B (cs.drop n) (qs.drop n) :=
 ⟨by simp [h.len],fun j c q h1 h2=>by
  rw [List.getElem?_drop] at h1 h2
  exact h.rep _ c q h1 h2⟩
theorem ca.append {cs ds:List SV} {qs ws:List PV} (h:ca B cs qs) (h':ca B ds ws) : ca B (cs++ds) (qs++ws) :=
 ⟨by simp [h.len,h'.len],fun j c q h1 h2=>by
  rw [List.getElem?_append] at h1 h2
  rw [h.len] at h1
  split at h1
  ·rename_i hj; rw [if_pos hj] at h2; exact h.rep j c q h1 h2
  ·rename_i hj; rw [if_neg hj] at h2; exact h'.rep _ c q h1 h2⟩
theorem mI {α : Type} : ∀ (cs:List α) (o:Nat) (ns:List α),o + ns.length≤cs.length→ny cs o ns=splice cs o ns
 | [],0,[],_=>rfl
 | [],0,n::ns,h=>by simp at h
 | [],o + 1,ns,h=>by simp at h
 | c::cs,0,[],_=>by simp [ny,splice]
 | c::cs,0,n::ns,h=>by
  simp only [ny]
  rw [mI cs 0 ns (by simp at h ⊢; omega)]
  simp [splice]
 | c::cs,o + 1,ns,h=>by
  simp only [ny]
  rw [mI cs o ns (by simp at h ⊢; omega)]
  unfold splice
  rw [show o + 1 + ns.length=(o + ns.length) + 1 by omega]
  simp
theorem ca.splice {cs ns:List SV} {qs ws:List PV} (h:ca B cs qs) (h':ca B ns ws) (o:Nat) : ca B (Go.Proofs.YtmjkjaahbgikjaaGreat.splice cs o ns) (Go.Proofs.YtmjkjaahbgikjaaGreat.splice qs o ws):=by
 unfold Go.Proofs.YtmjkjaahbgikjaaGreat.splice
 rw [h'.len]
 exact ((h.take o).append h').append (h.drop _)
end
section
variable {B:List (Nat×Option aW)} {s:SS} {p:PS}
theorem lg (hs:Sim s p) {dst:Option Nat} {v:SV} {q:PV} (hv:bf s.bx v q) : Sim (s.upd dst v .no) (p.upd dst q none):=by
 refine ⟨fun i=>?_,fun t=>hs.bx t⟩
 show bf s.bx (lkV (sY s.sl dst v) i) (xg p.t dst q i)
 rw [vR]
 unfold xg
 split
 ·exact hv
 ·exact hs.sl i
theorem AI {sl:List (Nat×SV)} {pr oc:List Nat} {ro:Bool} {dst:Option Nat} {v:SV} {q:PV} {B':List (Nat×Option aW)} {u:Option (Nat×Box)} (h1:∀ i,dst≠some i→bf B' (lkV sl i) (p.t i)) (h2:∀ t,mq B' (aA oc t) (lkB B' t) (cP p.b u t)) (hv:bf B' v q) :
  Sim ⟨sY sl dst v,B',pr,ro,oc⟩ (p.upd dst q u):=by
 refine ⟨fun i=>?_,h2⟩
 show bf B' (lkV (sY sl dst v) i) (xg p.t dst q i)
 rw [vR]
 unfold xg
 split
 ·exact hv
 ·rename_i h; exact h1 i h
theorem oY (hs:Sim s p) {pr:List Nat} {ro:Bool} {dst:Option Nat} {v:SV} {q:PV} {t:Nat} {b:aW} {b':Box} (hB:BLe s.bx ((t,some b)::s.bx)) (hb:∀ oc,mq ((t,some b)::s.bx) oc (some b) (some b')) (hv:bf ((t,some b)::s.bx) v q) :
  Sim ⟨sY s.sl dst v,(t,some b)::s.bx,pr,ro,s.oc⟩ (p.upd dst q (some (t,b'))):=by
 refine AI (fun i _=>(hs.sl i).mono hB) (fun t'=>?_) hv
 rw [ar]
 simp only [cP]
 split
 ·exact hb _
 ·exact (hs.bx t').mono hB
theorem Ym (hs:Sim s p) {pr:List Nat} {ro:Bool} {dst:Option Nat} {v:SV} {q:PV} {t:Nat} {b:aW} (hB:BLe s.bx ((t,some b)::s.bx)) (hb:∀ oc,mq ((t,some b)::s.bx) oc (some b) (p.b t)) (hv:bf ((t,some b)::s.bx) v q) :
  Sim ⟨sY s.sl dst v,(t,some b)::s.bx,pr,ro,s.oc⟩ (p.upd dst q none):=by
 refine AI (fun i _=>(hs.sl i).mono hB) (fun t'=>?_) hv
 rw [ar]
 simp only [cP]
 split
 ·rename_i h; subst h; exact hb _
 ·exact (hs.bx t').mono hB
theorem qY {b:aW} {t:Nat} (h:lkB B t=none) : BLe B ((t,some b)::B):=by
 refine ⟨fun t' e k ty xs pins h1=>?_,fun t' ty cs h1=>?_⟩
 ·have : ¬ t' = t:=fun e=>by rw [e,h] at h1; cases h1
  exact ⟨e,k,ty,xs,pins,by rw [ar,if_neg this]; exact h1,rfl,fun _ pin hp=>⟨pin,hp,rfl⟩⟩
 ·have : ¬ t' = t:=fun e=>by rw [e,h] at h1; cases h1
  exact ⟨ty,cs,by rw [ar,if_neg this]; exact h1⟩
theorem PE {ty ty':TypeId} {cs cs':List SV} {t:Nat} (h:lkB B t=some (.st ty cs)) : BLe B ((t,some (.st ty' cs'))::B):=by
 refine ⟨fun t' e k ty xs pins h1=>?_,fun t' ty2 cs2 h1=>?_⟩
 ·have : ¬ t' = t:=fun e=>by rw [e,h] at h1; cases h1
  exact ⟨e,k,ty,xs,pins,by rw [ar,if_neg this]; exact h1,rfl,fun _ pin hp=>⟨pin,hp,rfl⟩⟩
 ·rw [ar]
  split
  ·exact ⟨_,_,rfl⟩
  ·exact ⟨_,_,h1⟩
theorem PF {e k:Nat} {ty:Ty} {xs xs':List ty.den} {pins pins':List (Nat×Pin)} {t:Nat} (h:lkB B t=some (.rw e k ty xs pins)) (hl:xs'.length=xs.length) (hp:∀ p pin,lkP pins p=some pin→∃ pin',lkP pins' p=some pin'∧pin'.i=pin.i) : BLe B ((t,some (.rw e k ty xs' pins'))::B):=by
 refine ⟨fun t' e2 k2 ty2 xs2 pins2 h1=>?_,fun t' ty2 cs2 h1=>?_⟩
 ·rw [ar]
  split
  ·rename_i ht
   subst ht
   rw [h] at h1
   injection h1 with h1
   injection h1 with e1 e2 e3 e4 e5
   subst e3
   have e4:=eq_of_heq e4
   subst e4 e5
   exact ⟨e,k,ty,xs',pins',rfl,hl,hp⟩
  ·exact ⟨e2,k2,ty2,xs2,pins2,h1,rfl,fun _ pin hp=>⟨pin,hp,rfl⟩⟩
 ·have : ¬ t' = t:=fun e=>by rw [e,h] at h1; cases h1
  exact ⟨_,_,by rw [ar,if_neg this]; exact h1⟩
def LL (t:Nat) : aW→aW
 | .st ty cs=>.st ty (iL t cs)
 | b=>b
theorem jr (t:Nat) : ∀ (l:List (Nat×Option aW)) (i:Nat),lkB (oq t l) i=(lkB l i).map (LL t)
 | [],_=>rfl
 | (j,none)::l,i=>by simp only [oq,ar,jr t l i]; split <;> rfl
 | (j,some (.st ty cs))::l,i=>by simp only [oq,ar,jr t l i]; split <;> rfl
 | (j,some (.rw e k ty xs pins))::l,i=>by simp only [oq,ar,jr t l i]; split <;> rfl
theorem AZ (t:Nat) : ∀ (l:List (Nat×SV)) (i:Nat),lkV (D3 t l) i=stale t (lkV l i)
 | [],_=>rfl
 | (j,v)::l,i=>by simp only [D3,cW,AZ t l i]; split <;> rfl
theorem mG (t:Nat) : ∀ (cs:List SV) (j:Nat),(iL t cs)[j]? = (cs[j]?).map (stale t)
 | [],j=>by simp [iL]
 | c::cs,0=>by simp [iL]
 | c::cs,j + 1=>by simpa [iL] using mG t cs j
theorem kw (t:Nat) : ∀ cs:List SV,(iL t cs).length=cs.length
 | []=>rfl
 | c::cs=>by simp [iL,kw t cs]
structure VC (t:Nat) (B B':List (Nat×Option aW)) : Prop where
 rw:∀ t',t'≠t→∀ e k ty xs pins,lkB B t' = some (.rw e k ty xs pins)→lkB B' t' = some (.rw e k ty xs pins)
 st:∀ t' ty cs,lkB B t' = some (.st ty cs)→∃ ty' cs',lkB B' t' = some (.st ty' cs')
theorem bf.stale {B':List (Nat×Option aW)} {t:Nat} {v:SV} {q:PV} (h:bf B v q) (hB:VC t B B') : bf B' (stale t v) q:=by
 induction h with
 | junk q=>exact .junk q
 | d c y h=>exact .d c y h
 | ag cs qs hl hr ih =>
  refine .ag _ qs (by rw [kw]; exact hl) (fun j c q h1 h2=>?_)
  rw [mG,zm] at h1
  obtain ⟨c',h3,rfl⟩:=h1
  exact ih j c' q h3 h2
 | tup cs qs hl hr ih =>
  refine .tup _ qs (by rw [kw]; exact hl) (fun j c q h1 h2=>?_)
  rw [mG,zm] at h1
  obtain ⟨c',h3,rfl⟩:=h1
  exact ih j c' q h3 h2
 | ptr t' o ty cs hb=>obtain ⟨ty',cs',h1⟩:=hB.st t' ty cs hb; exact .ptr t' o ty' cs' h1
 | row t' n e k ty xs pins hb hn =>
  simp only [Go.Proofs.YtmjkjaahbgikjaaGreat.stale,cY]
  by_cases h:t' = t
  ·simp only [h,decide_true]; exact .junk _
  ·simp only [h,decide_false]; exact .row t' n e k ty xs pins (hB.rw t' h _ _ _ _ _ hb) hn
 | re t' p o n i e k ty xs pins pin hb hn hp hi =>
  simp only [Go.Proofs.YtmjkjaahbgikjaaGreat.stale,cY]
  by_cases h:t' = t
  ·simp only [h,decide_true]; exact .junk _
  ·simp only [h,decide_false]; exact .re t' p o n i e k ty xs pins pin (hB.rw t' h _ _ _ _ _ hb) hn hp hi
 | vw t' lo hi n e k ty xs pins hb hn =>
  simp only [Go.Proofs.YtmjkjaahbgikjaaGreat.stale,cY]
  by_cases h:t' = t
  ·simp only [h,decide_true]; exact .junk _
  ·simp only [h,decide_false]; exact .vw t' lo hi n e k ty xs pins (hB.rw t' h _ _ _ _ _ hb) hn
 | fe cs ds h hn=>exact .fe cs ds h hn
 | fn f ps qs ps' qs' hl hr hl2 hr2 ih ih2 =>
  refine .fn f _ _ ps' qs' (by rw [kw]; exact hl) (fun j c q h1 h2=>?_) (by rw [kw]; exact hl2) (fun j c q h1 h2=>?_)
  ·rw [mG,zm] at h1
   obtain ⟨c',h3,rfl⟩:=h1
   exact ih j c' q h3 h2
  ·rw [mG,zm] at h1
   obtain ⟨c',h3,rfl⟩:=h1
   exact ih2 j c' q h3 h2
theorem ca.stale {B':List (Nat×Option aW)} {t:Nat} {cs:List SV} {qs:List PV} (h:ca B cs qs) (hB:VC t B B') : ca B' (iL t cs) qs :=
 ⟨by rw [kw]; exact h.len,fun j c q h1 h2=>by
  rw [mG,zm] at h1
  obtain ⟨c',h3,rfl⟩:=h1
  exact (h.rep j c' q h3 h2).stale hB⟩
theorem VQ (hs:Sim s p) {dst:Option Nat} {v:SV} {q:PV} {t e k:Nat} {ty:Ty} {zs xs0:List ty.den} {pins0:List (Nat×Pin)} (h0:lkB s.bx t=some (.rw e k ty xs0 pins0)) (hv:bf ((t,some (.rw e k ty zs []))::oq t s.bx) v q) :
  Sim (s.upd dst v (.grow t (.rw e k ty zs []))) (p.upd dst q (some (t,.rw e k (zs.map (bH ty))))):=by
 have hX:VC t s.bx ((t,some (.rw e k ty zs []))::oq t s.bx):=by
  refine ⟨fun t' ht e2 k2 ty2 xs2 pins2 h=>?_,fun t' ty2 cs2 h=>?_⟩
  ·rw [ar,if_neg ht,jr,h]
   rfl
  ·have : ¬ t' = t:=fun e=>by rw [e,h0] at h; cases h
   rw [ar,if_neg this,jr,h]
   exact ⟨_,_,rfl⟩
 refine AI (fun i _=>?_) (fun t'=>?_) hv
 ·rw [AZ]
  exact (hs.sl i).stale hX
 ·rw [ar]
  simp only [cP]
  split
  ·exact ⟨rfl,fun p pin h=>by cases h⟩
  ·rename_i ht
   rw [jr]
   have h:=hs.bx t'
   cases hb:lkB s.bx t' with
   | none=>rw [hb] at h; exact h
   | some b =>
    rw [hb] at h
    cases b with
    | st ty2 cs=>obtain ⟨qs,h1,h2⟩:=h; exact ⟨qs,h1,h2.stale hX⟩
    | rw e2 k2 ty2 xs2 pins2=>exact h
def kQ:Option aW→Option aW→Prop
 | some (.rw e k ty xs _),b=>∃ pins',b=some (.rw e k ty xs pins')
 | a,b=>b=a
theorem kQ.refl (a:Option aW) : kQ a a:=by
 match a with
 | none=>rfl
 | some (.st _ _)=>rfl
 | some (.rw _ _ _ _ pins)=>exact ⟨pins,rfl⟩
theorem kQ.trans {a b c:Option aW} (h:kQ a b) (h':kQ b c) : kQ a c:=by
 match a,h with
 | none,h=>cases h; exact h'
 | some (.st _ _),h=>cases h; exact h'
 | some (.rw _ _ _ _ _),⟨pins,h⟩ =>
  subst h
  obtain ⟨pins',h'⟩:=h'
  exact ⟨pins',h'⟩
mutual
def lj (pr:List Nat) : SV→Bool
 | .row t=>aA pr t
 | .re _ _ _=>false
 | .vw _ _ _=>false
 | .ag cs=>ed pr cs
 | .tup cs=>ed pr cs
 | .fn _ ps qs=>ed pr ps&&ed pr qs
 | _=>true
def ed (pr:List Nat) : List SV→Bool
 | []=>true
 | c::cs=>lj pr c&&ed pr cs
end
structure dK (sc W:List Nat) (s s':SS) : Prop where
 pr:s'.pr=s.pr
 ro:s'.ro=s.ro
 bx:∀ t,aA s.pr t=true→kQ (lkB s.bx t) (lkB s'.bx t)
 sl:∀ i,aA W i=false→lj s.pr (lkV s.sl i)=true→lkV s'.sl i=lkV s.sl i
 st:∀ t,aA sc t=true→∀ ty cs,lkB s.bx t=some (.st ty cs)→∃ cs',lkB s'.bx t=some (.st ty cs')∧cs'.length=cs.length
variable {sc:List Nat}
theorem dK.refl (W:List Nat) (s:SS) : dK sc W s s:=⟨rfl,rfl,fun _ _=>.refl _,fun _ _ _=>rfl,fun _ _ _ cs h=>⟨cs,h,rfl⟩⟩
theorem dK.trans {W:List Nat} {s s' s'':SS} (h:dK sc W s s') (h':dK sc W s' s'') : dK sc W s s'' :=
 ⟨h'.pr.trans h.pr,h'.ro.trans h.ro,fun t ht=>(h.bx t ht).trans (h'.bx t (by rw [h.pr]; exact ht)),fun i hi hsf=>by
  have e:=h.sl i hi hsf
  rw [h'.sl i hi (by rw [e,h.pr]; exact hsf),e],fun t ht ty cs h1=>by
  obtain ⟨cs1,h2,h3⟩:=h.st t ht ty cs h1
  obtain ⟨cs2,h4,h5⟩:=h'.st t ht ty cs1 h2
  exact ⟨cs2,h4,h5.trans h3⟩⟩
theorem dK.wide {W W':List Nat} {s s':SS} (h:dK sc W s s') (hW:∀ i,aA W i=true→aA W' i=true) : dK sc W' s s' :=
 ⟨h.pr,h.ro,h.bx,fun i hi hsf=>h.sl i (by cases e:aA W i; rfl; rw [hW i e] at hi; cases hi) hsf,h.st⟩
theorem yh {s:SS} {t:Nat} (h:wrB s t=true) : s.ro=false∧aA s.pr t=false:=by
 unfold wrB at h
 split at h
 ·cases h
 ·rename_i h1; exact ⟨h1,by simpa using h⟩
theorem mO {s:SS} {t:Nat} (h:JT s t=true) : aA s.oc t=false∧aA s.pr t=false:=by
 unfold JT at h
 split at h
 ·cases h
 ·rename_i h1; exact ⟨h1,by simpa using h⟩
def OkU (s:SS) : Upd→Prop
 | .no=>True
 | .new t _=>aA s.pr t=false∧lkB s.bx t=none
 | .set t b=>aA s.pr t=false∧∀ ty cs,lkB s.bx t=some (.st ty cs)→∃ cs',b = .st ty cs'∧cs'.length=cs.length
 | .grow t _=>aA s.pr t=false∧∀ ty cs,lkB s.bx t≠some (.st ty cs)
 | .pin t b=>kQ (lkB s.bx t) (some b)
def OkW (s:SS) (dst:Option Nat) (u:Upd) (w:Option (Nat×Box)) : Prop:=∀ t b,w=some (t,b)→((lkB s.bx t=none∧dst=some t)∨s.ro=false)∧fw.memL (VL u) t=true
theorem dV {s:SS} {dst:Option Nat} {u:Upd} : OkW s dst u none:=fun _ _ h=>by cases h
theorem Ex (t:Nat) : fw.memL [t] t=true:=by rw [AX]; simp
theorem yD {s:SS} {dst:Option Nat} {t:Nat} {b:Box} {sb:aW} (h:lkB s.bx t=none) (hd:dst=some t) : OkW s dst (.new t sb) (some (t,b)):=fun t' b' e=>by injection e with e; injection e with e1 e2; subst e1; exact ⟨.inl ⟨h,hd⟩,Ex t⟩
theorem O1 {s:SS} {dst:Option Nat} {t:Nat} {b:Box} {sb:aW} (h:s.ro=false) : OkW s dst (.set t sb) (some (t,b)):=fun t' b' e=>by injection e with e; injection e with e1 e2; subst e1; exact ⟨.inr h,Ex t⟩
theorem Z4 {s:SS} {dst:Option Nat} {t:Nat} {b:Box} {sb:aW} (h:s.ro=false) : OkW s dst (.grow t sb) (some (t,b)):=fun t' b' e=>by injection e with e; injection e with e1 e2; subst e1; exact ⟨.inr h,Ex t⟩
theorem Et {pr:List Nat} {t t':Nat} (ht:aA pr t=false) (h:aA pr t' = true) : ¬ t' = t:=fun e=>by rw [e,ht] at h; cases h
mutual
theorem D2 {pr:List Nat} {t:Nat} (ht:aA pr t=false) : ∀ v:SV,lj pr v=true→stale t v=v
 | .junk,_=>rfl
 | .d _,_=>rfl
 | .fe _,_=>rfl
 | .ptr _ _,_=>rfl
 | .row t',h=>by
  have:=Et ht (show aA pr t' = true from h)
  simp only [stale,cY,this,decide_false]
 | .re _ _ _,h=>by cases h
 | .vw _ _ _,h=>by cases h
 | .ag cs,h=>by simp only [stale]; rw [nS ht cs h]
 | .tup cs,h=>by simp only [stale]; rw [nS ht cs h]
 | .fn f ps qs,h=>by
  have h:(ed pr ps&&ed pr qs)=true:=h
  rw [Bool.and_eq_true] at h
  simp only [stale]; rw [nS ht ps h.1,nS ht qs h.2]
theorem nS {pr:List Nat} {t:Nat} (ht:aA pr t=false) : ∀ cs:List SV,ed pr cs=true→iL t cs=cs
 | [],_=>rfl
 | c::cs,h=>by
  simp only [ed,Bool.and_eq_true] at h
  simp only [iL]
  rw [D2 ht c h.1,nS ht cs h.2]
end
mutual
theorem LK {t:Nat} : ∀ v:SV,pJ v=true→stale t v=v
 | .junk,_=>rfl
 | .d _,_=>rfl
 | .fe _,_=>rfl
 | .ptr _ _,_=>rfl
 | .row _,h=>by cases h
 | .re _ _ _,h=>by cases h
 | .vw _ _ _,h=>by cases h
 | .ag cs,h=>by simp only [stale]; rw [jq cs h]
 | .tup cs,h=>by simp only [stale]; rw [jq cs h]
 | .fn f ps qs,h=>by
  have h:(match cz ps with | true=>cz qs | false=>false)=true:=h
  split at h
  ·rename_i h1; simp only [stale]; rw [jq ps h1,jq qs h]
  ·cases h
theorem jq {t:Nat} : ∀ cs:List SV,cz cs=true→iL t cs=cs
 | [],_=>rfl
 | c::cs,h=>by
  simp only [cz] at h
  split at h
  ·rename_i h1
   simp only [iL]
   rw [LK c h1,jq cs h]
  ·cases h
end
def ml (s:SS) : Prop:=∀ t,aA s.pr t=true→∃ b,lkB s.bx t=some b∧yz b=true
theorem dK.prOk {W:List Nat} {s s':SS} (h:dK sc W s s') (hp:ml s) : ml s':=by
 intro t ht
 rw [h.pr] at ht
 obtain ⟨b,h1,h2⟩:=hp t ht
 have:=h.bx t ht
 rw [h1] at this
 cases b with
 | st ty cs=>exact ⟨_,this,h2⟩
 | rw e k ty xs pins =>
  obtain ⟨pins',h3⟩:=this
  exact ⟨_,h3,rfl⟩
theorem yM {W:List Nat} {dst:Option Nat} {v:SV} {u:Upd} (hu:OkU s u) (hW:∀ d,dst=some d→aA W d=true) (hpr:ml s) : dK sc W s (s.upd dst v u):=by
 have sl:∀ i,aA W i=false→lkV (sY s.sl dst v) i=lkV s.sl i:=fun i hi=>by
  rw [vR,if_neg (fun e=>by rw [hW i e] at hi; cases hi)]
 have one:∀ t b,aA s.pr t=false→∀ t',aA s.pr t' = true→kQ (lkB s.bx t') (lkB ((t,some b)::s.bx) t'):=fun t b ht t' ht'=>by
  rw [ar,if_neg (fun e=>by rw [e,ht] at ht'; cases ht')]
  exact .refl _
 cases u with
 | no=>exact ⟨rfl,rfl,fun _ _=>.refl _,fun i hi _=>sl i hi,fun _ _ _ cs h=>⟨cs,h,rfl⟩⟩
 | new t b =>
  refine ⟨rfl,rfl,one t b hu.1,fun i hi _=>sl i hi,fun t' _ ty cs h=>⟨cs,?_,rfl⟩⟩
  show lkB ((t,some b)::s.bx) t' = _
  rw [ar,if_neg (fun e=>by rw [e,hu.2] at h; cases h)]
  exact h
 | set t b =>
  refine ⟨rfl,rfl,one t b hu.1,fun i hi _=>sl i hi,fun t' _ ty cs h=>?_⟩
  show ∃ cs',lkB ((t,some b)::s.bx) t' = _∧_
  rw [ar]
  by_cases e:t' = t
  ·rw [if_pos e]
   rw [e] at h
   obtain ⟨cs',h1,h2⟩:=hu.2 ty cs h
   exact ⟨cs',by rw [h1],h2⟩
  ·rw [if_neg e]; exact ⟨cs,h,rfl⟩
 | pin t b =>
  refine ⟨rfl,rfl,fun t' _=>?_,fun i hi _=>sl i hi,fun t' _ ty cs h=>?_⟩
  ·show kQ _ (lkB ((t,some b)::s.bx) t')
   rw [ar]
   split
   ·rename_i e; subst e; exact hu
   ·exact .refl _
  ·show ∃ cs',lkB ((t,some b)::s.bx) t' = _∧_
   rw [ar]
   by_cases e:t' = t
   ·rw [if_pos e]
    have hu:kQ (lkB s.bx t) (some b):=hu
    rw [← e,h] at hu
    exact ⟨cs,hu,rfl⟩
   ·rw [if_neg e]; exact ⟨cs,h,rfl⟩
 | grow t b =>
  refine ⟨rfl,rfl,fun t' ht'=>?_,fun i hi hsf=>?_,fun t' _ ty cs h=>?_⟩
  ·show kQ _ (lkB ((t,some b)::oq t s.bx) t')
   rw [ar,if_neg (fun e=>by rw [e,hu.1] at ht'; cases ht'),jr]
   obtain ⟨b',h1,h2⟩:=hpr t' ht'
   rw [h1]
   cases b' with
   | st ty cs=>simp only [Option.map_some,LL]; rw [jq cs h2]; rfl
   | rw e k ty xs pins=>exact ⟨pins,rfl⟩
  ·show lkV (sY (D3 t s.sl) dst v) i = _
   rw [vR,if_neg (fun e=>by rw [hW i e] at hi; cases hi),AZ]
   exact D2 hu.1 _ hsf
  ·show ∃ cs',lkB ((t,some b)::oq t s.bx) t' = _∧_
   rw [ar,if_neg (fun e=>hu.2 ty cs (by rw [← e]; exact h)),jr,h]
   exact ⟨_,rfl,kw t cs⟩
end
section
variable {B:List (Nat×Option aW)} {s:SS} {p:PS} {P:Program} {ρ : Type}
theorem I0 {v:Value} {c:SD} (h:I1 v=some c) : Lo c (.v v)∧v.oneCell' = true:=by
 unfold I1 at h
 split at h
 ·injection h with h; subst h; exact ⟨rfl,rfl⟩
 ·injection h with h; subst h; exact ⟨rfl,rfl⟩
 ·injection h with h; subst h; exact ⟨rfl,rfl⟩
 ·injection h with h; subst h; exact ⟨rfl,rfl⟩
 ·cases h
theorem xP {B:List (Nat×Option aW)} : ∀ {l:List Value} {cs:List SV},FJ l=some cs→ca B cs (l.map fun x=>.d (.v x))∧∀ x∈l,x.oneCell' = true
 | [],cs,h=>by injection h with h; subst h; exact ⟨.nil,fun x hx=>by cases hx⟩
 | v::l,cs,h=>by
  simp only [FJ] at h
  split at h
  ·rename_i c cs' h1 h2
   injection h with h
   subst h
   obtain ⟨k1,k2⟩:=I0 h1
   obtain ⟨k3,k4⟩:=xP h2
   refine ⟨.cons (.d _ _ k1) k3,fun x hx=>?_⟩
   rcases List.mem_cons.1 hx with rfl | hx
   ·exact k2
   ·exact k4 x hx
  ·cases h
theorem YD {v:Value} (e:Er v = .d (.v v)) : bf B (match I1 v with | some c=>.d c | none=>.junk) (Er v):=by
 split
 ·rename_i c h
  rw [e]
  exact .d _ _ (I0 h).1
 ·exact .junk _
theorem FB (v:Value) : bf B (Ko v) (Er v):=by
 have key:=YD (B:=B) (v:=v)
 cases v with
 | agg xs =>
  simp only [Ko]
  split
  ·rename_i cs h
   obtain ⟨h1,h2⟩:=xP (B:=B) h
   have:xs.all (·.oneCell')=true:=by
    rw [← Array.all_toList,List.all_eq_true]
    exact h2
   simp only [Er,this,if_true]
   exact .ag _ _ h1.len h1.rep
  ·exact .junk _
 | tuple xs=>exact .junk _
 | _=>exact key rfl
theorem bZ (hs:Sim s p) (x:Operand) : bf s.bx (evX s x) (ev p x):=by
 cases x with
 | tmp i=>exact hs.sl i
 | const v=>exact FB v
 | global g=>exact .junk _
 | func f=>exact .fn f [] [] [] [] rfl (fun j c q h=>by simp at h) rfl (fun j c q h=>by simp at h)
theorem kX {k:IntKind} {x:Int} {q:PV} (h:bf B (.d (.int k x)) q) : q = .d (.v (.int k x)):=by
 cases h with
 | d c y h=>rw [Wf (show nrm y = .v _ from h)]
theorem kY {x:Bool} {q:PV} (h:bf B (.d (.bool x)) q) : q = .d (.v (.bool x)):=by
 cases h with
 | d c y h=>rw [Wf (show nrm y = .v _ from h)]
theorem rc {x:ByteArray} {q:PV} (h:bf B (.d (.str x)) q) : q = .d (.v (.string x)):=by
 cases h with
 | d c y h=>rw [Wf (show nrm y = .v _ from h)]
theorem Ry {q:PV} (h:bf B (.d .nl) q) : q = .d (.v (.slice none 0 0)):=by
 cases h with
 | d c y h=>rw [show y = .v (.slice none 0 0) from h]
theorem Rx {ty:Ty} {xs:List ty.den} {q:PV} (h:bf B (.d (.sl ty xs)) q) : q = .d (.sl (xs.map (bH ty)))∨(xs = []∧q = .d (.v (.slice none 0 0))):=by
 cases h with
 | d c y h =>
  rcases Z6 (show nrm y = .sl _ from h) with h | ⟨h1,h2⟩
  ·rw [h]; exact .inl rfl
  ·rw [h2]; exact .inr ⟨by simpa using h1,rfl⟩
theorem HA {cs:List SV} {q:PV} (h:bf B (.ag cs) q) : ∃ qs,q = .ag qs∧ca B cs qs:=by
 cases h with
 | ag _ qs hl hr=>exact ⟨qs,rfl,hl,hr⟩
theorem VF {cs:List SV} {q:PV} (h:bf B (.tup cs) q) : ∃ qs,q = .tup qs∧ca B cs qs:=by
 cases h with
 | tup _ qs hl hr=>exact ⟨qs,rfl,hl,hr⟩
theorem fR (k:IntKind) (x:Int) : bf B (.d (.int k x)) (.d (.v (.int k x))):=.d _ _ rfl
theorem eY (x:Bool) : bf B (.d (.bool x)) (.d (.v (.bool x))):=.d _ _ rfl
theorem wL (x:ByteArray) : bf B (.d (.str x)) (.d (.v (.string x))):=.d _ _ rfl
theorem Ot (ty:Ty) (xs:List ty.den) : bf B (.d (.sl ty xs)) (.d (.sl (xs.map (bH ty)))):=.d _ _ rfl
theorem JH (hs:Sim s p) {t:Nat} {q:PV} {c:SD} (hv:bf s.bx (.row t) q) (h:Yp s t=some c) : ∃ e k ty xs pins,lkB s.bx t=some (.rw e k ty xs pins)∧c = .sl ty xs∧q = .row t xs.length∧p.b t=some (.rw e k (xs.map (bH ty))):=by
 unfold Yp at h
 split at h
 ·rename_i e k ty xs pins hb
  injection h with h
  have hbx:=hs.bx t
  rw [hb] at hbx
  cases hv with
  | row _ n e2 k2 ty2 xs2 pins2 hb2 hn =>
   rw [hb] at hb2
   injection hb2 with hb2
   injection hb2 with e1 e2 e3 e4 e5
   subst e3
   have e4:=eq_of_heq e4
   subst e4
   exact ⟨e,k,ty,xs,pins,hb,h.symm,by rw [hn],hbx.1⟩
 ·cases h
theorem Km (hs:Sim s p) {v:SV} {q:PV} {ty:Ty} {xs:List ty.den} (hv:bf s.bx v q) (h:su s v=some (.sl ty xs)) : kV p.b q=some (xs.map (bH ty)):=by
 unfold su at h
 split at h
 ·injection h with h
  subst h
  rcases Rx hv with rfl | ⟨rfl,rfl⟩
  ·rfl
  ·simp [kV]
 ·obtain ⟨e,k,ty2,xs2,pins,h1,h2,rfl,h4⟩:=JH hs hv h
  injection h2 with e1 e2
  subst e1
  have e2:=eq_of_heq e2
  subst e2
  simp [kV,h4]
 ·cases h
theorem Zg {v:SV} {q:PV} (hv:bf s.bx v q) (h:su s v=some .nl) : q = .d (.v (.slice none 0 0)):=by
 unfold su at h
 split at h
 ·injection h with h
  subst h
  exact Ry hv
 ·unfold Yp at h
  split at h
  ·injection h with h; cases h
  ·cases h
 ·cases h
theorem W9 (hs:Sim s p) {v:SV} {q:PV} {c:SD} (hv:bf s.bx v q) (h:su s v=some c) : asData p.b q = .d c.toD∧(pJ v=true→clean q=true∧asData dY q = .d c.toD):=by
 unfold su at h
 split at h
 ·injection h with h
  subst h
  cases hv with
  | d c y h=>simp only [asData,h.nrm,clean,and_self,implies_true]
 ·obtain ⟨e,k,ty2,xs2,pins,h1,rfl,rfl,h4⟩:=JH hs hv h
  refine ⟨by simp [asData,h4,SD.toD],fun h=>by simp [pJ] at h⟩
 ·cases h
theorem SC (hs:Sim s p) : ∀ {cs:List SV} {qs:List PV} {ds:List SD},ca s.bx cs qs→Kl s cs=some ds→bQ p.b qs=ds.map (fun c=>.d c.toD)∧(cz cs=true→cL qs=true∧bQ dY qs=ds.map (fun c=>.d c.toD))
 | [],qs,ds,h,hd=>by
  rcases h.cases with ⟨_,rfl⟩ | ⟨_,_,_,_,h1,_⟩
  ·injection hd with hd; subst hd; simp [bQ,cL]
  ·cases h1
 | c::cs,qs,ds,h,hd=>by
  rcases h.cases with ⟨h1,_⟩ | ⟨c',q,cs',qs',h1,rfl,h2,h3⟩
  ·cases h1
  ·injection h1 with e1 e2
   subst e1 e2
   simp only [Kl] at hd
   split at hd
   ·rename_i d ds' k1 k2
    injection hd with hd
    subst hd
    obtain ⟨m1,m2⟩:=W9 hs h2 k1
    obtain ⟨m3,m4⟩:=SC hs h3 k2
    refine ⟨by simp [bQ,m1,m3],fun hn=>?_⟩
    simp only [cz] at hn
    split at hn
    ·rename_i hn1
     obtain ⟨n1,n2⟩:=m2 hn1
     obtain ⟨n3,n4⟩:=m4 hn
     simp [bQ,cL,n1,n2,n3,n4]
    ·cases hn
   ·cases hd
theorem Bm {v:SV} {q:PV} {cs:List SV} (hv:bf B v q) (h:Kx v=some cs) : ∃ qs,Bn q=some qs∧ca B cs qs:=by
 cases hv with
 | junk q=>cases h
 | tup=>cases h
 | ag cs' qs hl hr=>injection h with h; subst h; exact ⟨qs,rfl,hl,hr⟩
 | d c y hd=>injection h with h; subst h; exact ⟨_,rfl,.cons (.d c y hd) .nil⟩
 | ptr t o ty cs' hb=>injection h with h; subst h; exact ⟨_,rfl,.cons (.ptr t o ty cs' hb) .nil⟩
 | row t n e k ty xs pins hb hn=>injection h with h; subst h; exact ⟨_,rfl,.cons (.row t n e k ty xs pins hb hn) .nil⟩
 | re t p o n i e k ty xs pins pin hb hn hp hi=>injection h with h; subst h; exact ⟨_,rfl,.cons (.re t p o n i e k ty xs pins pin hb hn hp hi) .nil⟩
 | vw t lo hi n e k ty xs pins hb hn=>injection h with h; subst h; exact ⟨_,rfl,.cons (.vw t lo hi n e k ty xs pins hb hn) .nil⟩
 | fe cs' ds hd hn=>injection h with h; subst h; exact ⟨_,rfl,.cons (.fe cs' ds hd hn) .nil⟩
 | fn f ps qs ps' qs' hl hr hl2 hr2=>injection h with h; subst h; exact ⟨_,rfl,.cons (.fn f ps qs ps' qs' hl hr hl2 hr2) .nil⟩
theorem L5 {cs:List SV} {qs:List PV} (h:ca B cs qs) {size:Nat} {agg:Bool} {v:SV} (hp:RQ size agg cs=some v) : ∃ q,H7 size agg qs=some q∧bf B v q:=by
 unfold RQ at hp
 unfold H7
 split at hp
 ·rename_i ha
  rw [if_pos ha]
  split at hp
  ·rename_i hl
   injection hp with hp
   subst hp
   rw [h.len] at hl
   rw [if_pos hl]
   have:=h.take size
   exact ⟨_,rfl,.ag _ _ this.len this.rep⟩
  ·cases hp
 ·rename_i ha
  rw [if_neg ha]
  rcases h.cases with ⟨rfl,rfl⟩ | ⟨c,q,cs',qs',rfl,rfl,h1,h2⟩
  ·cases hp
  ·injection hp with hp; subst hp; exact ⟨q,rfl,h1⟩
theorem EA (cs:List SD) (h:∀ c∈cs,c≠.nl) : ca B (AY cs) ((cs.map SD.toD).map .d):=by
 induction cs with
 | nil=>exact .nil
 | cons c cs ih=>exact .cons (.d _ _ (Lo.of (h c List.mem_cons_self))) (ih fun c hc=>h c (List.mem_cons_of_mem _ hc))
end
section
variable {B:List (Nat×Option aW)} {s:SS} {p:PS} {P:Program} {ρ : Type}
def yg (s:SS) (k:SV→Option ρ) (res : ρ) (e:Option PV) : Prop:=∃ v q,e=some q∧k v=some res∧bf s.bx v q
theorem dp {k:SV→Option ρ} {res : ρ} {e:Option PV} {v:SV} {q:PV} (he:e=some q) (hk:k v=some res) (hv:bf s.bx v q) : yg s k res e:=⟨v,q,he,hk,hv⟩
theorem Wn {x:Operand} {n:Int} {kd:IntKind} {y:Int} (h:Wy x=some n) (hy:evX s x = .d (.int kd y)) : y=n:=by
 unfold Wy at h
 split at h
 ·injection h with h
  subst h
  simp only [evX,Ko,I1] at hy
  injection hy with hy
  injection hy with _ hy
  exact hy.symm
 ·cases h
theorem Ui {op:BinOp} {kd:IntKind} {lit:Option Int} {x y:Int} {k:SV→Option ρ} {res : ρ} (hl:∀ n,lit=some n→y=n) (h:PG op kd lit x y k=some res) : yg s k res (yZ op kd x y):=by
 cases op <;> simp only [PG] at h
 case add=>exact dp rfl h (fR _ _)
 case sub=>exact dp rfl h (fR _ _)
 case mul=>exact dp rfl h (fR _ _)
 case quo =>
  split at h
  ·rename_i n
   obtain ⟨h1,h2⟩:=ao h
   have hy:=hl n rfl
   subst hy
   have : ¬ y=0:=by simpa using h1
   exact dp (by simp [yZ,this]) h2 (fR _ _)
  ·obtain ⟨q,h1,h2⟩:=cN h
   split at h1
   ·cases h1
   ·rename_i hy
    injection h1 with h1
    subst h1
    exact dp (by simp [yZ,hy]) h2 (fR _ _)
 case rem =>
  split at h
  ·rename_i n
   obtain ⟨h1,h2⟩:=ao h
   have hy:=hl n rfl
   subst hy
   have : ¬ y=0:=by simpa using h1
   exact dp (by simp [yZ,this]) h2 (fR _ _)
  ·obtain ⟨q,h1,h2⟩:=cN h
   unfold CL at h1
   split at h1
   ·cases h1
   ·rename_i hy
    injection h1 with h1
    subst h1
    exact dp (by simp [yZ,hy]) h2 (fR _ _)
 case eql=>exact dp rfl h (eY _)
 case neq=>exact dp rfl h (eY _)
 case lss=>exact dp rfl h (eY _)
 case leq=>exact dp rfl h (eY _)
 case gtr=>exact dp rfl h (eY _)
 case geq=>exact dp rfl h (eY _)
 case and=>exact dp rfl h (fR _ _)
 case or=>exact dp rfl h (fR _ _)
 case xor=>exact dp rfl h (fR _ _)
 all_goals cases h
theorem S6 {op:BinOp} {kd:IntKind} {lit:Option Int} {x y:Int} {k:SV→Option ρ} {res : ρ} (hl:∀ n,lit=some n→y=n) (h:OH op kd lit x y k=some res) : yg s k res (tb op kd x y):=by
 unfold OH at h
 split at h
 ·rename_i n
  obtain ⟨h1,h2⟩:=ao h
  have hy:=hl n rfl
  subst hy
  have : ¬ y < 0:=by have:=zd h1; omega
  split at h2
  ·exact dp (by simp [tb,this]) h2 (fR _ _)
  ·exact dp (by simp [tb,this]) h2 (fR _ _)
  ·cases h2
 ·obtain ⟨u,h1,h2⟩:=cN h
  split at h1
  ·cases h1
  ·rename_i hy
   split at h2
   ·exact dp (by simp [tb,hy]) h2 (fR _ _)
   ·exact dp (by simp [tb,hy]) h2 (fR _ _)
   ·cases h2
theorem SX {op:BinOp} {x y:ByteArray} {k:SV→Option ρ} {res : ρ} (h:Ox op x y k=some res) : yg s k res (LG op x y):=by
 cases op <;> simp only [Ox] at h
 case add =>
  obtain ⟨z,h1,h2⟩:=cN h
  unfold mw at h1
  split at h1
  ·rename_i hz
   injection h1 with h1
   subst h1
   exact dp (by simp only [LG,hz,if_true]) h2 (wL _)
  ·cases h1
 case eql=>exact dp rfl h (eY _)
 case neq=>exact dp rfl h (eY _)
 case lss=>exact dp rfl h (eY _)
 case leq=>exact dp rfl h (eY _)
 case gtr=>exact dp rfl h (eY _)
 case geq=>exact dp rfl h (eY _)
 all_goals cases h
theorem Ou {op:BinOp} {x y:Bool} {k:SV→Option ρ} {res : ρ} (h:Jx op x y k=some res) : yg s k res (rf op x y):=by
 cases op <;> simp only [Jx] at h
 case eql=>exact dp rfl h (eY _)
 case neq=>exact dp rfl h (eY _)
 all_goals cases h
theorem IE:∀ {l m:List Nat},J9 l m=true→l=m
 | [],[],_=>rfl
 | [],_ :: _,h=>by cases h
 | _ :: _,[],h=>by cases h
 | a::l,b::m,h=>by
  simp only [J9,cY] at h
  by_cases e:a=b
  ·simp only [e,decide_true] at h; rw [e,IE h]
  ·simp only [e,decide_false] at h; cases h
theorem IG {c d:SD} {q w:PV} {n:Nat} {r:Bool} (hc:bf B (.d c) q) (hd:bf B (.d d) w) (hn:O7 (.d c)=some n) (h:tu c d=some r) : Bb n q w=some r:=by
 cases c with
 | int k a =>
  cases d <;> simp only [tu] at h <;> try cases h
  rw [kX hc,kX hd]
  injection hn with hn
  subst hn
  exact h
 | bool a =>
  cases d <;> simp only [tu] at h <;> try cases h
  rw [kY hc,kY hd]
  injection hn with hn
  subst hn
  rfl
 | str a =>
  cases d <;> simp only [tu] at h <;> try cases h
  rw [rc hc,rc hd]
  injection hn with hn
  subst hn
  rfl
 | sl t xs=>cases hn
 | nl=>cases hn
theorem YZ:∀ {cs ds:List SV} {qs ws:List PV} {l:List Nat} {r:Bool},ca B cs qs→ca B ds ws→Du cs=some l→Ci cs ds=some r→jX l qs ws=some r:=by
 intro cs
 induction cs with
 | nil=>intro ds qs ws l r _ _ _ h; cases ds <;> simp [Ci] at h
 | cons c cs ih =>
  intro ds qs ws l r hc hd hl h
  rcases hc.cases with ⟨h1,_⟩ | ⟨c',q,cs',qs',h1,rfl,hcq,hcs⟩
  ·cases h1
  injection h1 with e1 e2
  subst e1 e2
  rcases hd.cases with ⟨rfl,_⟩ | ⟨d,w,ds',ws',rfl,rfl,hdw,hds⟩
  ·cases c <;> cases cs <;> simp [Ci] at h
  simp only [Du] at hl
  split at hl
  ·rename_i n l' hn hl'
   injection hl with hl
   subst hl
   cases c with
   | d c =>
    cases d with
    | d d =>
     by_cases hlast:cs = []∧ds' = []
     ·obtain ⟨rfl,rfl⟩:=hlast
      simp only [Ci] at h
      have:=IG hcq hdw hn h
      rcases hcs.cases with ⟨_,rfl⟩ | ⟨_,_,_,_,h1,_⟩
      ·rcases hds.cases with ⟨_,rfl⟩ | ⟨_,_,_,_,h1,_⟩
       ·injection hl' with hl'
        subst hl'
        simp [jX,this]
       ·cases h1
      ·cases h1
     ·have h:(match tu c d,Ci cs ds' with | some a,some r=>some (a&&r) | _,_=>none)=some r:=by
       cases cs with
       | nil=>cases ds' with
        | nil=>exact absurd ⟨rfl,rfl⟩ hlast
        | cons=>exact h
       | cons=>exact h
      split at h
      ·rename_i a r' k1 k2
       injection h with h
       subst h
       simp [jX,IG hcq hdw hn k1,ih hcs hds hl' k2]
      ·cases h
    | _=>cases cs <;> simp [Ci] at h
   | _=>simp [O7] at hn
  ·cases hl
theorem Zo {op:BinOp} {t:TypeId} {lit:Option Int} {v w:SV} {q r:PV} {k:SV→Option ρ} {res : ρ} (hv:bf s.bx v q) (hw:bf s.bx w r) (hl:∀ n kd y,lit=some n→w = .d (.int kd y)→y=n) (h:aap P op t lit v w k=some res) : yg s k res (tD P op t q r):=by
 unfold aap at h
 split at h
 ·rename_i kd x kd' y
  obtain rfl:=kX hv
  obtain rfl:=kX hw
  have e:tD P op t (.d (.v (.int kd x))) (.d (.v (.int kd' y)))=if J0 op then tb op kd x y else if kd=kd' then yZ op kd x y else none:=rfl
  rw [e]
  split at h
  ·rename_i hs
   rw [if_pos hs]
   exact S6 (fun n hn=>hl n kd' y hn rfl) h
  ·rename_i hs
   rw [if_neg (by simp [hs])]
   split at h
   ·rename_i hk
    rw [if_pos hk]
    exact Ui (fun n hn=>hl n kd' y hn rfl) h
   ·cases h
 ·obtain rfl:=rc hv
  obtain rfl:=rc hw
  exact SX h
 ·obtain rfl:=kY hv
  obtain rfl:=kY hw
  split at h
  ·rename_i hu
   rename_i x y _
   have e:tD P op t (.d (.v (.bool x))) (.d (.v (.bool y)))=rf op x y:=by simp [tD,asI,asS,asB,hu]
   rw [e]
   exact Ou h
  ·cases h
 ·rename_i xs ys
  obtain ⟨qs,rfl,hq⟩:=HA hv
  obtain ⟨ws,rfl,hws⟩:=HA hw
  split at h
  ·rename_i l l' r h1 h2 h3
   obtain ⟨h4,h5⟩:=ao h
   obtain rfl:=IE h4
   have h6:=YZ hq hws h2 h3
   have e:tD P op t (.ag qs) (.ag ws)=rf op r true:=by simp [tD,asI,asS,asB,Kf,h1,h6]
   rw [e]
   split at h5
   ·exact dp (by simp [rf]) h5 (eY _)
   ·exact dp (by simp [rf]) h5 (eY _)
   ·cases h5
  ·cases h
 ·cases h
theorem ZU {op:UnOp} {v:SV} {q:PV} {k:SV→Option ρ} {res : ρ} (hv:bf s.bx v q) (h:unX op v k=some res) : yg s k res (Su op q):=by
 unfold unX at h
 split at h
 ·obtain rfl:=kY hv; exact dp rfl h (eY _)
 ·obtain rfl:=kX hv; exact dp rfl h (fR _ _)
 ·cases h
theorem Cl:∀ (xs:List Int) (acc:ByteArray),vX (List.map (bH (.int .u8)) xs) acc=some (xs.foldl (fun r n=>r.push (UInt8.ofNat n.toNat)) acc)
 | [],acc=>rfl
 | x::xs,acc=>Cl xs (acc.push (UInt8.ofNat x.toNat))
theorem Fp {b:Nat→Option Box} {src dst e:TypeId} {q:PV} {x:Int} {xs:List Int} (h1:P.underlying src=some (.slice e)) (h2:P.underlying dst=some .string) (h3:P.underlying e=some (.int .u8)) (h4:kV b q=some (List.map (bH (.int .u8)) (x::xs))) :
  ij P b src dst q=(vX (List.map (bH (.int .u8)) (x::xs)) ByteArray.empty).map fun s=>.d (.v (.string s)):=by
 unfold ij
 rw [h1,h2]
 simp only [h3,h4]
 rfl
theorem Fl {b:Nat→Option Box} {src dst:TypeId} {q:PV} {u:TypeDesc} (h1:P.underlying src=some u) (hne:∀ e,u = .slice e→False) : ij P b src dst q=tB P src dst q:=by
 unfold ij
 split
 ·rename_i e h3 h4
  rw [h1] at h3
  injection h3 with h3
  exact absurd h3 (hne e)
 ·rfl
theorem Xi (hs:Sim s p) {src dst:TypeId} {v:SV} {q:PV} {k:SV→Option ρ} {res : ρ} (hv:bf s.bx v q) (h:Xj P s src dst v k=some res) : yg s k res (ij P p.b src dst q):=by
 unfold Xj at h
 split at h
 ·cases h
 ·rename_i e h1
  split at h
  ·rename_i h2
   split at h
   ·rename_i xs h3 h4
    obtain ⟨z,h5,h6⟩:=cN h
    have h7:=Km hs hv h4
    unfold Yo at h5
    split at h5
    ·cases h5
    ·rename_i hne
     injection h5 with h5
     cases xs with
     | nil=>exact absurd rfl hne
     | cons x xs =>
      refine dp ?_ h6 (wL _)
      rw [Fp h1 h2 h3 h7]
      exact congrArg (Option.map _) ((Cl _ _).trans (congrArg some h5))
   ·cases h
  ·cases h
 ·rename_i u hne h1
  rw [show ij P p.b src dst q=tB P src dst q from Fl h1 (fun e he=>hne e he)]
  split at h
  ·rename_i h2
   obtain rfl:=kX hv
   exact dp (by simp [tB,h1,h2,asI]) h (fR _ _)
  ·rename_i h2
   obtain rfl:=rc hv
   exact dp (by simp [tB,h1,h2,asS]) h (wL _)
  ·cases h
theorem G4 {t:TypeId} {f:Nat} {v:SV} {q:PV} {k:SV→Option ρ} {res : ρ} (hv:bf s.bx v q) (h:xH P t v f k=some res) : yg s k res (gW P t q f):=by
 unfold xH at h
 split at h
 ·rename_i off size agg hf
  obtain ⟨h1,h2⟩:=ao h
  have hsz : ¬ size=0:=by simpa using h1
  split at h2
  ·cases hv with
   | ptr _ _ ty cs hb=>exact dp (by simp [gW,hf,hsz]) h2 (.ptr _ _ ty cs hb)
  ·cases hv with
   | fe cs ds hd hn=>exact dp (q:=.fe (ds.drop off)) (by simp [gW,hf,hsz]) h2 (.fe _ _ (by rw [hd,List.map_drop]) (fun c hc=>hn c (List.mem_of_mem_drop hc)))
  ·cases hv with
   | re _ _ _ n i e k ty xs pins pin hb hn hp hi=>exact dp (q:=.re _ n i (_ + off)) (by simp [gW,hf,hsz]) h2 (.re _ _ _ n i e k ty xs pins pin hb hn hp hi)
  ·cases h2
 ·cases h
theorem YI {v:SV} {q:PV} {k:SV→Option ρ} {res : ρ} (hv:bf s.bx v q) (h:Z8 v k=some res) : yg s k res (xJ q):=by
 unfold Z8 at h
 split at h
 ·cases hv with
  | ptr _ _ ty cs hb=>exact dp (by simp [xJ]) h (.ptr _ _ ty cs hb)
 ·cases hv with
  | re _ _ _ n i e k ty xs pins pin hb hn hp hi=>exact dp (q:=.re _ n i _) (by simp [xJ]) h (.re _ _ _ n i e k ty xs pins pin hb hn hp hi)
 ·cases hv with
  | fe cs ds hd hn=>exact dp (q:=.fe ds) (by simp [xJ]) h (.fe _ _ hd hn)
 ·cases h
theorem TY {t:TypeId} {f:Nat} {v:SV} {q:PV} {k:SV→Option ρ} {res : ρ} (hv:bf s.bx v q) (h:Pp P t v f k=some res) : yg s k res (uY P t q f):=by
 unfold Pp at h
 split at h
 ·rename_i off size agg cs hf
  obtain ⟨qs,rfl,hq⟩:=HA hv
  split at h
  ·rename_i v' h1
   obtain ⟨q',h2,h3⟩:=L5 (hq.drop off) h1
   exact dp (by simp [uY,hf,h2]) h h3
  ·cases h
 ·cases h
theorem Xw (hs:Sim s p) {v:SV} {q:PV} {cs:List SV} (hv:bf s.bx v q) (h:Xx s v=some cs) : ∃ qs,va p.b q=some qs∧ca s.bx cs qs:=by
 unfold Xx at h
 split at h
 ·rename_i t off
  cases hv
  split at h
  ·rename_i ty cs' hb
   injection h with h
   subst h
   have:=hs.bx t
   rw [hb] at this
   obtain ⟨qs,h1,h2⟩:=this
   exact ⟨qs.drop off,by simp [va,h1],h2.drop off⟩
  ·cases h
 ·injection h with h
  subst h
  cases hv with
  | fe _ ds hd hn=>exact ⟨_,rfl,by rw [hd]; exact EA _ hn⟩
 ·rename_i t pi off
  split at h
  ·rename_i e k ty xs pins hb
   split at h
   ·rename_i j cs' hp
    injection h with h
    subst h
    have hbx:=hs.bx t
    rw [hb] at hbx
    obtain ⟨h1,h2⟩:=hbx
    obtain ⟨h3,h4⟩:=h2 pi _ hp
    obtain ⟨x,h5,h6⟩:=h4 cs' rfl
    cases hv with
    | re _ _ _ n i e2 k2 ty2 xs2 pins2 pin2 hb2 hn2 hp2 hi2 =>
     rw [hb] at hb2
     injection hb2 with hb2
     injection hb2 with e1 e2 e3 e4 e5
     subst e3
     have e4:=eq_of_heq e4
     subst e4 e5
     rw [hp] at hp2
     injection hp2 with hp2
     subst hp2
     refine ⟨((bH ty x).drop off).map .d,by simp [va,h1,hn2,hi2,h5],?_⟩
     have:=EA (B:=s.bx) (cs'.drop off) (fun c hc=>by rw [h6] at hc; exact Sq ty x c (List.mem_of_mem_drop hc))
     rw [h6] at this ⊢
     rw [List.map_drop,Dw] at this
     simpa [List.map_drop] using this
   ·cases h
  ·cases h
 ·cases h
theorem Mg (hs:Sim s p) {t:TypeId} {v w:SV} {q:PV} (hv:bf s.bx v q) (h:R3 P s t v=some w) : ∃ r,qV P p.b t q=some r∧bf s.bx w r:=by
 unfold R3 at h
 split at h
 ·rename_i i cl h1 h2
  obtain ⟨qs,h3,h4⟩:=Xw hs hv h2
  obtain ⟨r,h5,h6⟩:=L5 h4 h
  exact ⟨r,by simp [qV,h1,h3,h5],h6⟩
 ·cases h
theorem TE {v:SV} {q:PV} {i:Int} (hv:bf B v q) (h:A4 v=some i) : ∃ k,q = .d (.v (.int k i)):=by
 unfold A4 at h
 split at h
 ·injection h with h; subst h; exact ⟨_,kX hv⟩
 ·cases h
theorem lr {q:PV} {k:IntKind} {i:Int} {n:Nat} (h:q = .d (.v (.int k i))) (h0 : 0≤i) : wu (some q) n=some i.toNat:=by
 subst h
 simp [wu,asI,h0]
end
section
variable {B:List (Nat×Option aW)} {s:SS} {p:PS} {P:Program} {ρ : Type}
def Om (s:SS) (p:PS) (dst:Option Nat) (k:SV→Upd→Option ρ) (res : ρ) (e:Option (PV×Option (Nat×Box))) : Prop :=
 ∃ v u q w,e=some (q,w)∧k v u=some res∧Sim (s.upd dst v u) (p.upd dst q w)∧OkU s u∧OkW s dst u w
theorem yg.done (hs:Sim s p) {dst:Option Nat} {k:SV→Upd→Option ρ} {res : ρ} {e:Option PV} (h:yg s (fun v=>k v .no) res e) : Om s p dst k res (e.map fun r=>(r,none)):=by
 obtain ⟨v,q,rfl,h2,h3⟩:=h
 exact ⟨v,.no,q,none,rfl,h2,lg hs h3,trivial,dV⟩
theorem Ik {α : Type} {xs:List α} {i:Int} {x : α} (h:aw xs i=some x) : 0≤i∧xs[i.toNat]? = some x∧i.toNat < xs.length:=by
 unfold aw at h
 split at h
 ·rename_i h0
  exact ⟨h0,h,(zg.1 h).1⟩
 ·cases h
theorem G3 (hs:Sim s p) {dst:Option Nat} {t:TypeId} {v w:SV} {q r:PV} {k:SV→Upd→Option ρ} {res : ρ} (hv:bf s.bx v q) (hw:bf s.bx w r) (h:xC P s dst t v w k=some res) :
  Om s p dst k res ((eg P p.b t q r).map fun r=>(r,none)):=by
 unfold xC at h
 split at h
 ·rename_i e kd i d hu
  obtain rfl:=kX hw
  split at h
  ·rename_i ie hie
   split at h
   ·rename_i ty xs
    obtain ⟨h1,h2⟩:=ao h
    obtain ⟨x,h3,h4⟩:=cN h2
    obtain ⟨k0,k1,k2⟩:=Ik h3
    have hl:(bH ty x).length=ie.size:=by rw [lA]; simpa using h1
    rcases Rx hv with rfl | ⟨rfl,_⟩
    ·refine ⟨_,.no,.fe (bH ty x),none,?_,h4,lg hs (.fe _ _ (Dw ty x).symm (Sq ty x)),trivial,dV⟩
     simp [eg,hu,asI,hie,k0,k1,hl]
    ·simp at k2
   ·rename_i t'
    split at h
    ·rename_i e' kk ty xs pins hb
     obtain ⟨h1,h2⟩:=ao h
     obtain ⟨h2,h3⟩:=ao h2
     obtain ⟨x,h4,h5⟩:=cN h3
     obtain ⟨k0,k1,k2⟩:=Ik h4
     have hbx:=hs.bx t'
     rw [hb] at hbx
     obtain ⟨hbx,hpins⟩:=hbx
     have hkk:kk=ie.size:=by simpa using h1
     have hnp:lkP pins d=none:=by simpa using h2
     cases hv with
     | row _ n e2 k2' ty2 xs2 pins2 hb2 hn2 =>
      rw [hb] at hb2
      injection hb2 with hb2
      injection hb2 with e1 e2 e3 e4 e5
      subst e3
      have e4:=eq_of_heq e4
      subst e4 e5 hn2
      refine ⟨_,_,.re t' xs.length i.toNat 0,none,?_,h5,?_,(show kQ (lkB s.bx t') _ from by rw [hb]; exact ⟨_,rfl⟩),dV⟩
      ·simp [eg,hu,asI,hie,k0,hbx,hkk,k2]
      ·have hble:BLe s.bx ((t',some (.rw e' kk ty xs ((d,⟨i,some (Bc ty x)⟩)::pins)))::s.bx):=PF hb rfl (fun p pin hp=>⟨pin,by
        rw [se,if_neg (fun e=>by rw [e,hnp] at hp; cases hp)]; exact hp,rfl⟩)
       refine Ym hs hble (fun _=>⟨hbx,fun p pin hp=>?_⟩) (.re t' d 0 xs.length i.toNat e' kk ty xs _ ⟨i,some (Bc ty x)⟩ (by rw [ar,if_pos rfl]) rfl (by rw [se,if_pos rfl]) rfl)
       rw [se] at hp
       split at hp
       ·injection hp with hp
        subst hp
        exact ⟨k2,fun cs hc=>⟨x,k1,by injection hc with hc; exact hc.symm⟩⟩
       ·exact hpins p pin hp
    ·cases h
   ·cases h
  ·cases h
 ·cases h
theorem vO {cs:List SV} {qs:List PV} {ds:List SD} (h:ca B cs qs) (hd:tZ cs=some ds) : qs.mapM toD=some (ds.map SD.toD):=by
 induction cs generalizing qs ds with
 | nil =>
  rcases h.cases with ⟨_,rfl⟩ | ⟨_,_,_,_,h1,_⟩
  ·injection hd with hd; subst hd; rfl
  ·cases h1
 | cons c cs ih =>
  rcases h.cases with ⟨h1,_⟩ | ⟨c',q,cs',qs',h1,rfl,h2,h3⟩
  ·cases h1
  ·injection h1 with e1 e2
   subst e1 e2
   simp only [tZ] at hd
   split at hd
   ·rename_i d ds' k1 k2
    injection hd with hd
    subst hd
    have:=ih h3 k2
    unfold ZZ at k1
    split at k1
    ·injection k1 with k1
     subst k1
     cases h2 with
     | d _ y hy=>simp [List.mapM_cons,toD,hy.nrm,this]
    ·cases k1
   ·cases hd
theorem AM:∀ {cs:List SV} {ds:List SD},tZ cs=some ds→cs.length=ds.length
 | [],ds,h=>by injection h with h; subst h; rfl
 | c::cs,ds,h=>by
  simp only [tZ] at h
  split at h
  ·rename_i d ds' k1 k2
   injection h with h
   subst h
   simp [AM k2]
  ·cases h
theorem mQ:∀ (l:List (Nat×Pin)) (i:Nat),lkP (wM l) i=(lkP l i).map fun pin=>⟨pin.i,none⟩
 | [],_=>rfl
 | (j,⟨n,cs⟩)::l,i=>by simp only [wM,se,mQ l i]; split <;> rfl
theorem SY (hs:Sim s p) {dst:Option Nat} (hd:dst=none) {t:TypeId} {v w:SV} {q r:PV} {k:SV→Upd→Option ρ} {res : ρ} (hv:bf s.bx v q) (hw:bf s.bx w r) (h:OD P s t v w k=some res) :
  Om s p dst k res ((lB P p.b t q r).map fun u=>(.junk,some u)):=by
 unfold OD at h
 split at h
 ·rename_i i ns hi hns
  obtain ⟨ws,hws,hcs⟩:=Bm hw hns
  split at h
  ·rename_i x off
   cases hv
   split at h
   ·rename_i ty cs hb
    obtain ⟨h1,h2⟩:=ao h
    obtain ⟨h2,h3⟩:=ao h2
    obtain ⟨h3,h4⟩:=ao h3
    have h1:ns.length=i.size:=by simpa using h1
    have h2:=zd h2
    obtain ⟨hro,h3⟩:=yh h3
    have hbx:=hs.bx x
    rw [hb] at hbx
    obtain ⟨qs,hq1,hq2⟩:=hbx
    have l1:=hcs.len
    have l2:=hq2.len
    refine ⟨_,_,.junk,some (x,.st ty (splice qs off ws)),?_,h4,?_,⟨h3,fun ty2 cs2 h=>?_⟩,O1 hro⟩
    ·simp only [lB,hi,hws,hq1]
     rw [if_pos ⟨by omega,by omega⟩]
     rfl
    ·refine oY hs (PE hb) (fun _=>⟨_,rfl,?_⟩) (.junk _)
     rw [mI cs off ns h2]
     exact (hq2.splice hcs off).mono (PE hb)
    ·rw [hb] at h
     injection h with h
     injection h with e1 e2
     subst e1 e2
     refine ⟨_,rfl,?_⟩
     rw [mI cs off ns h2]
     unfold splice
     simp
     omega
   ·cases h
  ·rename_i x pi off
   split at h
   ·rename_i e kk ty xs pins ds hb hds
    split at h
    ·rename_i j cs0 hp
     obtain ⟨h1,h2⟩:=ao h
     obtain ⟨h2,h3⟩:=ao h2
     obtain ⟨h3,h4⟩:=ao h3
     have h1:ns.length=i.size:=by simpa using h1
     have h2:=zd h2
     obtain ⟨hro,h3⟩:=yh h3
     split at h4
     ·rename_i cs' hcs'
      split at h4
      ·rename_i y hy
       have hbx:=hs.bx x
       rw [hb] at hbx
       obtain ⟨hbx,hpins⟩:=hbx
       obtain ⟨k1,k2⟩:=hpins pi _ hp
       have hy2:=Kh hy
       cases hv with
       | re _ _ _ n i2 e2 k2' ty2 xs2 pins2 pin2 hb2 hn2 hp2 hi2 =>
        rw [hb] at hb2
        injection hb2 with hb2
        injection hb2 with e1 e2 e3 e4 e5
        subst e3
        have e4:=eq_of_heq e4
        subst e4 e5 hn2
        rw [hp] at hp2
        injection hp2 with hp2
        subst hp2
        simp only at hi2 k1 k2
        subst hi2
        obtain ⟨x0,hx0⟩ : ∃ x0,xs[j.toNat]? = some x0:=⟨xs[j.toNat],by simp [k1]⟩
        have hds':ws.mapM toD=some (ds.map SD.toD):=vO hcs hds
        have hlen0:(bH ty x0).length=tyN ty:=lA ty x0
        have hsp:splice (bH ty x0) off (ds.map SD.toD)=bH ty y:=by
         split at hcs'
         ·rename_i hfull
          injection hcs' with hcs'
          subst hcs'
          have h0:off=0:=by omega
          subst h0
          rw [← hy2]
          have:(ds.map SD.toD).length=(bH ty x0).length:=by simp [hfull,hlen0]
          simp [splice,this]
         ·cases cs0 with
          | none=>cases hcs'
          | some cs0 =>
           injection hcs' with hcs'
           obtain ⟨x1,h7,h8⟩:=k2 cs0 rfl
           rw [hx0] at h7
           injection h7 with h7
           subst h7
           have h9:cs0.length=tyN ty:=by
            have:=Dw ty x0
            rw [← h8] at this
            have:=congrArg List.length this
            simpa [hlen0] using this
           rw [← hy2,← hcs']
           show _ = List.map SD.toD (ny cs0 off ds)
           rw [mI cs0 off ds (by omega),xj,h8,Dw]
        have hble:BLe s.bx ((x,some (.rw e kk ty (xs.set j.toNat y) ((pi,⟨j,some (Bc ty y)⟩)::wM pins)))::s.bx):=PF hb (by simp) (fun p2 pin2 hp2=>by
         rw [se]
         by_cases e:p2=pi
         ·subst e
          rw [hp] at hp2
          injection hp2 with hp2
          subst hp2
          exact ⟨_,if_pos rfl,rfl⟩
         ·rw [if_neg e,mQ,hp2]
          exact ⟨_,rfl,rfl⟩)
        refine ⟨_,_,.junk,some (x,.rw e kk ((xs.map (bH ty)).set j.toNat (splice (bH ty x0) off (ds.map SD.toD)))),?_,h4,?_,⟨h3,fun ty2 cs2 h=>by rw [hb] at h; cases h⟩,O1 hro⟩
        ·have hl2:(ds.map SD.toD).length=i.size:=by rw [List.length_map,← AM hds]; exact h1
         have hl3:off + (ds.map SD.toD).length≤(bH ty x0).length:=by rw [hlen0,List.length_map]; exact h2
         simp only [lB,hi,hws,hbx,hds',List.getElem?_map,hx0,Option.map_some,List.length_map]
         rw [List.length_map] at hl2 hl3
         rw [if_pos ⟨trivial,hl2,hl3⟩]
         rfl
        ·rw [hsp,← List.map_set]
         refine oY hs hble (fun _=>⟨rfl,fun p2 pin2 hp2=>?_⟩) (.junk _)
         rw [se] at hp2
         split at hp2
         ·injection hp2 with hp2
          subst hp2
          exact ⟨by simpa using k1,fun cs hc=>⟨y,by simp [k1],by injection hc with hc; exact hc.symm⟩⟩
         ·rw [mQ,zm] at hp2
          obtain ⟨pin3,h7,rfl⟩:=hp2
          exact ⟨by simpa using (hpins p2 pin3 h7).1,fun cs hc=>by cases hc⟩
      ·cases h4
     ·cases h4
    ·cases h
   ·cases h
  ·cases h
 ·cases h
end
section
variable {B:List (Nat×Option aW)} {s:SS} {p:PS} {P:Program} {ρ : Type}
theorem E6 (hs:Sim s p) (place:Nat→Option (Nat×Nat)) : ∀ {l:List (Nat×Operand)} {cs cs':List SV} {qs:List PV},ca s.bx cs qs→MD place cs (xr s l)=some cs'→∃ qs',E7 place qs (l.map fun (i,x)=>(i,ev p x))=some qs'∧ca s.bx cs' qs'
 | [],cs,cs',qs,h,hf=>by injection hf with hf; subst hf; exact ⟨qs,rfl,h⟩
 | (i,x)::l,cs,cs',qs,h,hf=>by
  simp only [xr,MD] at hf
  split at hf
  ·rename_i off size ns h1 h2
   obtain ⟨h3,h4⟩:=ao hf
   obtain ⟨h4,h5⟩:=ao h4
   obtain ⟨ws,h6,h7⟩:=Bm (bZ hs x) h2
   replace h3:ns.length=size:=by simpa using h3
   replace h4:=zd h4
   rw [mI cs off ns h4] at h5
   obtain ⟨qs',h8,h9⟩:=E6 hs place (h.splice h7 off) h5
   refine ⟨qs',?_,h9⟩
   have l1:=h7.len
   have l2:=h.len
   simp only [List.map_cons,E7,h1,h6]
   rw [if_pos ⟨by omega,by omega⟩]
   exact h8
  ·cases hf
theorem vL {i:TI} {z:List SV} (h:DM i=some z) : ca B z (pC i):=(xP h).1
theorem LU {cs:List SV} {qs:List PV} (h:ca B cs qs) : ∀ n,ca B (VY n cs) (List.replicate n qs).flatten
 | 0=>.nil
 | n + 1=>by rw [List.replicate_succ,List.flatten_cons]; exact h.append (LU h n)
theorem IY (k:Nat) : ∀ (n:Nat) (l:List SD),(Kv k n l).map (List.map SD.toD)=sw k n (l.map SD.toD)
 | 0,_=>rfl
 | n + 1,l=>by simp only [Kv,sw,List.map_cons,List.map_take,IY k n,List.map_drop]
theorem IW {t:Ty} : ∀ {l:List (List SD)} {xs:List t.den},Kk t l=some xs→l.map (List.map SD.toD)=xs.map (bH t)
 | [],xs,h=>by injection h with h; subst h; rfl
 | c::l,xs,h=>by
  simp only [Kk] at h
  split at h
  ·rename_i x xs' h1 h2
   injection h with h
   subst h
   simp only [List.map_cons,Kh h1,IW h2]
  ·cases h
theorem FM (hs:Sim s p) {dst:Option Nat} {t:TypeId} {n:Nat} {l:List (Nat×Operand)} {k:SV→Upd→Option ρ} {res : ρ} (h:u9 P s dst t n (xr s l) k=some res) :
  Om s p dst k res (iH P p.b dst t n (l.map fun (i,x)=>(i,ev p x))):=by
 unfold u9 at h
 split at h
 ·rename_i d e hu
  split at h
  ·rename_i i ty hi hb hty
   split at h
   ·rename_i z hz
    have h1:=(ao h).1
    replace h:=(ao h).2
    have h2:=(ao h).1
    replace h:=(ao h).2
    have h3:=(ao h).1
    replace h:=(ao h).2
    have h4:=(ao h).1
    replace h:=(ao h).2
    replace h1:=zd h1
    replace h2:=zd h2
    replace h3:=zd h3
    obtain ⟨hfr,h4⟩:=mO h4
    split at h
    ·rename_i cs hcs
     split at h
     ·rename_i ds hds
      split at h
      ·rename_i xs hxs
       obtain ⟨h5,h6⟩:=ao h
       obtain ⟨qs,h7,h8⟩:=E6 hs _ (LU (vL (B:=s.bx) hz) n) hcs
       have h9:=vO h8 hds
       have hbd:p.b d=none:=by have:=hs.bx d; rw [hb] at this; exact this hfr
       have hch:sw i.size n (ds.map SD.toD)=xs.map (bH ty):=by rw [← IY,IW hxs]
       have hlen:xs.length=n:=by
        have:=congrArg List.length hch
        rw [Bl,List.length_map] at this
        exact this.symm
       refine ⟨_,_,.row d n,some (d,.rw e i.size (xs.map (bH ty))),?_,h6,?_,⟨h4,hb⟩,yD hb rfl⟩
       ·simp only [iH,hu,hi,hbd]
        rw [if_pos ⟨h1,h2,h3⟩]
        simp only [h7,h9,hch]
       ·exact oY hs (qY hb) (fun _=>⟨rfl,fun p pin hp=>by cases hp⟩) (.row d n e i.size ty xs [] (by rw [ar,if_pos rfl]) hlen)
      ·cases h
     ·cases h
    ·cases h
   ·cases h
  ·cases h
 ·cases h
theorem I7 {α : Type} {l m z:List α} (h:aU l m=some z) : l.length + m.length≤1000000∧z=l++m:=by
 unfold aU at h
 split at h
 ·rename_i hl; injection h with h; exact ⟨hl,h.symm⟩
 ·cases h
theorem I2 {t:Ty} (h:t=t) (xs:List t.den) : yV h xs=xs:=rfl
theorem PH (hs:Sim s p) {dst:Option Nat} {t:TypeId} {v w:SV} {q r:PV} {k:SV→Upd→Option ρ} {res : ρ} (hv:bf s.bx v q) (hw:bf s.bx w r) (h:KF P s dst t v w k=some res) :
  Om s p dst k res (jv P p.b dst t q r)∧True:=by
 refine ⟨?_,trivial⟩
 unfold KF at h
 split at h
 ·rename_i e ty ys hu hdw
  have hr:=Km hs hw hdw
  split at h
  ·rename_i i hi
   have h1:=(ao h).1
   replace h:=(ao h).2
   have h2:=(ao h).1
   replace h:=(ao h).2
   have h3:=(ao h).1
   replace h:=(ao h).2
   have h4:=(ao h).1
   replace h:=(ao h).2
   replace h1:=zd h1
   replace h2:=zd h2
   replace h3:=zd h3
   replace h4:tyN ty=i.size:=by simpa using h4
   have hla:xz i.size (ys.map (bH ty)):=by
    intro x hx
    obtain ⟨y,_,rfl⟩:=List.mem_map.1 hx
    rw [lA,h4]
   have sm:∀ n,n≤1000000→small n i.bytes:=fun n hn=>by
    unfold small
    exact Nat.le_trans (Nat.mul_le_mul hn h3) (by decide)
   split at h
   ·rename_i x
    split at h
    ·rename_i e' kk ty' xs pins hb
     split at h
     ·rename_i hty hsame
      obtain rfl:=hty
      have h5:=(ao h).1
      replace h:=(ao h).2
      have h6:=(ao h).1
      replace h:=(ao h).2
      have h7:=(ao h).1
      replace h:=(ao h).2
      replace h5:e' = e:=by simpa using h5
      replace h6:kk=i.size:=by simpa using h6
      obtain ⟨hfr,h7⟩:=yh h7
      obtain ⟨zs,h8,h9⟩:=cN h
      rw [I2] at h8
      obtain ⟨h10,rfl⟩:=I7 h8
      have hbx:=hs.bx x
      rw [hb] at hbx
      obtain ⟨hbx,_⟩:=hbx
      cases hv with
      | row _ n e2 k2 ty2 xs2 pins2 hb2 hn2 =>
       rw [hb] at hb2
       injection hb2 with hb2
       injection hb2 with q1 q2 q3 q4 q5
       subst q3
       have q4:=eq_of_heq q4
       subst q4 hn2
       refine ⟨_,_,.row x (xs.length + ys.length),some (x,.rw e' kk (xs.map (bH ty)++ys.map (bH ty))),?_,h9,?_,⟨h7,fun ty2 cs2 h=>by rw [hb] at h; cases h⟩,Z4 hfr⟩
       ·simp only [jv,hu,hr,hi,hbx]
        rw [if_pos ⟨h1,h2,hla⟩,if_pos ⟨by simp,h5,h6,by simpa using sm _ h10⟩]
        simp [h5]
       ·rw [← List.map_append]
        exact VQ hs hb (.row x _ e' kk ty (xs++ys) [] (by rw [ar,if_pos rfl]) (by simp))
     ·cases h
    ·cases h
   ·obtain rfl:=Ry hv
    split at h
    ·rename_i d
     split at h
     ·rename_i hb
      have h7:=(ao h).1
      replace h:=(ao h).2
      obtain ⟨hfr,h7⟩:=mO h7
      obtain ⟨zs,h8,h9⟩:=cN h
      obtain ⟨h10,rfl⟩:=I7 h8
      have hbd:p.b d=none:=by have:=hs.bx d; rw [hb] at this; exact this hfr
      refine ⟨_,_,.row d zs.length,some (d,.rw e i.size (zs.map (bH ty))),?_,h9,?_,⟨h7,hb⟩,yD hb rfl⟩
      ·simp only [jv,hu,hr,hi,hbd]
       rw [if_pos ⟨h1,h2,hla⟩,if_pos ⟨trivial,trivial⟩,if_pos (by simpa using sm _ (by simpa using h10))]
       simp
      ·exact oY hs (qY hb) (fun _=>⟨rfl,fun p pin hp=>by cases hp⟩) (.row d _ e i.size ty _ [] (by rw [ar,if_pos rfl]) (by simp))
     ·cases h
    ·cases h
   ·cases h
  ·cases h
 ·cases h
theorem S0 (hs:Sim s p) {t:TypeId} {v:SV} {q:PV} {lo hi:Option Operand} {k:SV→Option ρ} {res : ρ} (hv:bf s.bx v q) (h:OG P s t v (lo.map (evX s)) (hi.map (evX s)) k=some res) : yg s k res (ey P p.b t q (lo.map (ev p)) (hi.map (ev p))):=by
 have int:∀ {x:Operand} {i:Int},A4 (evX s x)=some i→∃ kd,ev p x = .d (.v (.int kd i)):=fun {x i} h=>TE (bZ hs x) h
 unfold OG at h
 split at h
 ·rename_i e ty xs hu
  have hq:kV p.b q=some (xs.map (bH ty))∧∃ y,q = .d y:=by
   rcases Rx hv with rfl | ⟨rfl,rfl⟩
   ·exact ⟨rfl,_,rfl⟩
   ·exact ⟨by simp [kV],_,rfl⟩
  obtain ⟨hq,y,rfl⟩:=hq
  split at h
  ·rename_i i hi'
   have h1:=(ao h).1
   replace h:=(ao h).2
   replace h1:tyN ty=i.size:=by simpa using h1
   have hla:xz i.size (xs.map (bH ty)):=by
    intro x hx
    obtain ⟨y,_,rfl⟩:=List.mem_map.1 hx
    rw [lA,h1]
   split at h
   ·rename_i hl hh
    rw [Option.map_eq_none_iff] at hl hh
    subst hl hh
    refine dp ?_ h (Ot ty xs)
    simp only [ey,hu,hi',hq,Option.map_none,wu]
    rw [if_pos ⟨Nat.zero_le _,Nat.le_refl _,hla⟩]
    simp [List.take_of_length_le]
   ·rename_i l hl hh
    rw [Option.map_eq_none_iff] at hh
    rw [zm] at hl
    obtain ⟨lo,rfl,rfl⟩:=hl
    subst hh
    split at h
    ·rename_i li hli
     obtain ⟨kd,hkd⟩:=int hli
     obtain ⟨z,h2,h3⟩:=cN h
     unfold loO at h2
     split at h2
     ·rename_i hc
      injection h2 with h2
      subst h2
      refine dp ?_ h3 (Ot ty _)
      simp only [ey,hu,hi',hq,Option.map_none,Option.map_some,hkd,lr rfl hc.1]
      simp only [wu,List.length_map]
      rw [if_pos ⟨hc.2,Nat.le_refl _,hla⟩]
      rw [← List.map_drop,← List.map_take,List.take_of_length_le (by simp)]
     ·cases h2
    ·cases h
   ·rename_i l hl hh
    rw [Option.map_eq_none_iff] at hl
    rw [zm] at hh
    obtain ⟨hi2,rfl,rfl⟩:=hh
    subst hl
    split at h
    ·rename_i li hli
     obtain ⟨kd,hkd⟩:=int hli
     obtain ⟨z,h2,h3⟩:=cN h
     unfold hiO at h2
     split at h2
     ·rename_i hc
      injection h2 with h2
      subst h2
      refine dp ?_ h3 (Ot ty _)
      simp only [ey,hu,hi',hq,Option.map_none,Option.map_some,hkd,lr rfl hc.1]
      simp only [wu,List.length_map]
      rw [if_pos ⟨Nat.zero_le _,hc.2,hla⟩]
      simp
     ·cases h2
    ·cases h
   ·rename_i l l' hl hh
    rw [zm] at hl hh
    obtain ⟨lo,rfl,rfl⟩:=hl
    obtain ⟨hi2,rfl,rfl⟩:=hh
    split at h
    ·rename_i li hi3 hli hhi
     obtain ⟨kd,hkd⟩:=int hli
     obtain ⟨kd2,hkd2⟩:=int hhi
     obtain ⟨z,h2,h3⟩:=cN h
     unfold lhO at h2
     split at h2
     ·rename_i hc
      injection h2 with h2
      subst h2
      refine dp ?_ h3 (Ot ty _)
      simp only [ey,hu,hi',hq,Option.map_some,hkd,hkd2,lr rfl hc.1,lr rfl hc.2.1,List.length_map]
      rw [if_pos ⟨hc.2.2.1,hc.2.2.2,hla⟩]
      simp
     ·cases h2
    ·cases h
  ·cases h
 ·rename_i e x hu
  split at h
  ·rename_i i e' kk ty xs pins hi' hb
   have h1:=(ao h).1
   replace h:=(ao h).2
   replace h1:kk=i.size:=by simpa using h1
   have hbx:=hs.bx x
   rw [hb] at hbx
   obtain ⟨hbx,_⟩:=hbx
   have ox:∀ {o:Option Operand} {n:Nat} {l:Int},Z3 (o.map (evX s)) (n:Int)=some l→0≤l→wu (o.map (ev p)) n=some l.toNat:=by
    intro o n l ho h0
    cases o with
    | none=>injection ho with ho; subst ho; rfl
    | some y =>
     obtain ⟨kd,hkd⟩:=int (show A4 (evX s y)=some l from ho)
     rw [Option.map_some,lr hkd h0]
   cases hv with
   | row _ n e2 k2 ty2 xs2 pins2 hb2 hn2 =>
    rw [hb] at hb2
    injection hb2 with hb2
    injection hb2 with q1 q2 q3 q4 q5
    subst q3
    have q4:=eq_of_heq q4
    subst q4 hn2
    split at h
    ·rename_i l h' hl hh
     obtain ⟨_,h2,h3⟩:=cN h
     unfold vwO at h2
     split at h2
     ·rename_i hc
      refine dp (q:=.vw x xs.length l.toNat h'.toNat) ?_ h3 (.vw x _ _ _ e' kk ty xs pins hb rfl)
      have hl':=ox (n:=0) hl hc.1
      have hh':=ox (n:=xs.length) hh hc.2.1
      simp only [ey,hu,hi',hbx,hl',hh',List.length_map]
      rw [if_pos ⟨trivial,h1,hc.2.2.1,hc.2.2.2⟩]
     ·cases h2
    ·cases h
  ·cases h
 ·rename_i x hu
  obtain rfl:=rc hv
  split at h
  ·rename_i l hl hh
   rw [Option.map_eq_none_iff] at hh
   rw [zm] at hl
   obtain ⟨lo,rfl,rfl⟩:=hl
   subst hh
   split at h
   ·rename_i li hli
    obtain ⟨kd,hkd⟩:=int hli
    obtain ⟨z,h2,h3⟩:=cN h
    unfold S7 at h2
    split at h2
    ·rename_i hc
     injection h2 with h2
     subst h2
     refine dp ?_ h3 (wL _)
     simp only [ey,hu,asS,Option.map_none,Option.map_some,hkd,lr rfl hc.1]
     simp only [wu]
     rw [if_pos ⟨hc.2,Nat.le_refl _⟩]
    ·cases h2
   ·cases h
  ·rename_i l hl hh
   rw [Option.map_eq_none_iff] at hl
   rw [zm] at hh
   obtain ⟨hi2,rfl,rfl⟩:=hh
   subst hl
   split at h
   ·rename_i li hli
    obtain ⟨kd,hkd⟩:=int hli
    obtain ⟨z,h2,h3⟩:=cN h
    unfold GX at h2
    split at h2
    ·rename_i hc
     injection h2 with h2
     subst h2
     refine dp ?_ h3 (wL _)
     simp only [ey,hu,asS,Option.map_none,Option.map_some,hkd,lr rfl hc.1]
     simp only [wu]
     rw [if_pos ⟨Nat.zero_le _,hc.2⟩]
    ·cases h2
   ·cases h
  ·rename_i l l' hl hh
   rw [zm] at hl hh
   obtain ⟨lo,rfl,rfl⟩:=hl
   obtain ⟨hi2,rfl,rfl⟩:=hh
   split at h
   ·rename_i li hi3 hli hhi
    obtain ⟨kd,hkd⟩:=int hli
    obtain ⟨kd2,hkd2⟩:=int hhi
    obtain ⟨z,h2,h3⟩:=cN h
    unfold JF at h2
    split at h2
    ·rename_i hc
     injection h2 with h2
     subst h2
     refine dp ?_ h3 (wL _)
     simp only [ey,hu,asS,Option.map_some,hkd,hkd2,lr rfl hc.1,lr rfl hc.2.1]
     rw [if_pos ⟨hc.2.2.1,hc.2.2.2⟩]
    ·cases h2
   ·cases h
  ·cases h
 ·cases h
theorem Yl (hs:Sim s p) {v:SV} {q:PV} {ty:Ty} {ys:List ty.den} (hv:bf s.bx v q) (h:ZX s v=some (.sl ty ys)) : kV p.b q=some (ys.map (bH ty)):=by
 unfold ZX at h
 split at h
 ·rename_i t lo hi
  split at h
  ·rename_i e kk ty2 xs pins hb
   injection h with h
   injection h with e1 e2
   subst e1
   have e2:=eq_of_heq e2
   subst e2
   have hbx:=hs.bx t
   rw [hb] at hbx
   obtain ⟨hbx,_⟩:=hbx
   cases hv with
   | vw _ _ _ n e2 k2 ty2 xs2 pins2 hb2 hn2 =>
    rw [hb] at hb2
    injection hb2 with hb2
    injection hb2 with q1 q2 q3 q4 q5
    subst q3
    have q4:=eq_of_heq q4
    subst q4 hn2
    simp only [kV,hbx,List.length_map,if_true]
    rw [← List.map_drop,← List.map_take]
  ·cases h
 ·exact Km hs hv h
theorem V7 (hs:Sim s p) {v:SV} {q:PV} {x lo hi:Nat} {e kk:Nat} {ty:Ty} {xs:List ty.den} {pins:List (Nat×Pin)} (hb:lkB s.bx x=some (.rw e kk ty xs pins)) (hv:bf s.bx v q) (h:V8 s v=some (x,lo,hi)) : RP q=some (x,xs.length,lo,hi):=by
 unfold V8 at h
 split at h
 ·rename_i t
  split at h
  ·rename_i e2 k2 ty2 xs2 pins2 hb2
   injection h with h
   injection h with q1 q2
   injection q2 with q2 q3
   subst q1 q2 q3
   cases hv with
   | row _ n e3 k3 ty3 xs3 pins3 hb3 hn3 =>
    rw [hb] at hb2 hb3
    injection hb2 with hb2
    injection hb2 with r1 r2 r3 r4 r5
    subst r3
    have r4:=eq_of_heq r4
    subst r4
    injection hb3 with hb3
    injection hb3 with r1 r2 r3 r4 r5
    subst r3
    have r4:=eq_of_heq r4
    subst r4 hn3
    rfl
  ·cases h
 ·injection h with h
  injection h with q1 q2
  injection q2 with q2 q3
  subst q1 q2 q3
  cases hv with
  | vw _ _ _ n e3 k3 ty3 xs3 pins3 hb3 hn3 =>
   rw [hb] at hb3
   injection hb3 with hb3
   injection hb3 with r1 r2 r3 r4 r5
   subst r3
   have r4:=eq_of_heq r4
   subst r4 hn3
   rfl
 ·cases h
theorem Tv {α β : Type} (f : α→β) (xs ys:List α) (lo:Nat) : (lm xs lo ys).map f=lm (xs.map f) lo (ys.map f):=by
 simp [lm,List.map_take,List.map_drop]
theorem Xg (hs:Sim s p) {dst:Option Nat} {t:TypeId} {v w:SV} {q r:PV} {k:SV→Upd→Option ρ} {res : ρ} (hv:bf s.bx v q) (hw:bf s.bx w r) (h:Xh P s t v w k=some res) :
  Om s p dst k res ((qW P p.b t q r).map fun r=>(r.1,some r.2)):=by
 unfold Xh at h
 split at h
 ·rename_i e ty ys x lo hi hu hsrc hpart
  split at h
  ·rename_i i e' kk ty' xs pins hi' hb
   split at h
   ·rename_i hty hsame
    obtain rfl:=hty
    have h1:=(ao h).1
    replace h:=(ao h).2
    have h2:=(ao h).1
    replace h:=(ao h).2
    have h3:=(ao h).1
    replace h:=(ao h).2
    replace h1:kk=i.size:=by simpa using h1
    replace h2:tyN ty=i.size:=by simpa using h2
    obtain ⟨hro,h3⟩:=yh h3
    obtain ⟨zs,h4,h5⟩:=cN h
    rw [I2] at h4
    unfold u4 at h4
    split at h4
    ·rename_i hc
     injection h4 with h4
     subst h4
     have hbx:=hs.bx x
     rw [hb] at hbx
     obtain ⟨hbx,hpins⟩:=hbx
     have hr:=Yl hs hw hsrc
     have hp:=V7 hs hb hv hpart
     have hla:xz i.size (ys.map (bH ty)):=by
      intro x hx
      obtain ⟨y,_,rfl⟩:=List.mem_map.1 hx
      rw [lA,h2]
     have hlen:(lm xs lo (ys.take (hi - lo))).length=xs.length:=H4 (by rw [List.length_take]; omega)
     have hble:BLe s.bx ((x,some (.rw e' kk ty (lm xs lo (ys.take (hi - lo))) (wM pins)))::s.bx):=PF hb hlen (fun p2 pin2 hp2=>by
      rw [mQ,hp2]
      exact ⟨_,rfl,rfl⟩)
     refine ⟨_,_,.d (.v (.int .i64 (min ys.length (hi - lo) : Nat))),some (x,.rw e' kk ((lm xs lo (ys.take (hi - lo))).map (bH ty))),?_,h5,?_,⟨h3,fun ty2 cs2 h=>by rw [hb] at h; cases h⟩,O1 hro⟩
     ·simp only [qW,hu,hr,hp,hi',hbx,List.length_map]
      rw [if_pos ⟨trivial,h1,hla,hc.1,hc.2⟩,Tv,List.map_take]
      rfl
     ·refine oY hs hble (fun _=>⟨rfl,fun p2 pin2 hp2=>?_⟩) (fR _ _)
      rw [mQ,zm] at hp2
      obtain ⟨pin3,h7,rfl⟩:=hp2
      exact ⟨by rw [hlen]; exact (hpins p2 pin3 h7).1,fun cs hc=>by cases hc⟩
    ·cases h4
   ·cases h
  ·cases h
 ·cases h
theorem DN:∀ (l:List Value),(l.map fun z=>PV.d (.v z)).mapM toD=some (l.map fun z=>nrm (.v z))
 | []=>rfl
 | z::l=>by simp only [List.map_cons,List.mapM_cons,DN l,toD]; rfl
theorem Wl (hs:Sim s p) {dst:Option Nat} {t:TypeId} {x y:Operand} {k:SV→Upd→Option ρ} {res : ρ} (h:Wm P s dst t (OJ x y) (evX s x) k=some res) :
  Om s p dst k res (vV P p.b dst t (ev p x) (ev p y)):=by
 unfold Wm at h
 split at h
 ·rename_i d e kd n hu hx hsame
  have hpx:=bZ hs x
  rw [hx] at hpx
  have hpx:=kX hpx
  have hpy:∃ kd',ev p y = .d (.v (.int kd' n)):=by
   unfold OJ at hsame
   split at hsame
   ·rename_i i j hq
    have:i=j:=by simpa using hsame
    subst this
    exact ⟨kd,hpx⟩
   ·rename_i k1 n1 k2 m1 hq
    have:n1=m1:=by simpa using hsame
    subst this
    have:ev p (.const (.int k1 n1)) = .d (.v (.int k1 n1)):=rfl
    rw [this] at hpx
    injection hpx with hpx
    injection hpx with hpx
    injection hpx with q1 q2
    subst q2
    exact ⟨k2,rfl⟩
   ·cases hsame
  obtain ⟨kd',hpy⟩:=hpy
  split at h
  ·rename_i i ty hi hb hty
   split at h
   ·rename_i z hz
    split at h
    ·rename_i ds hds
     split at h
     ·rename_i z0 hz0
      have h1:=(ao h).1
      replace h:=(ao h).2
      have h2:=(ao h).1
      replace h:=(ao h).2
      have h3:=(ao h).1
      replace h:=(ao h).2
      have h4:=(ao h).1
      replace h:=(ao h).2
      replace h1:=zd h1
      replace h2:=zd h2
      obtain ⟨hfr,h4⟩:=mO h4
      obtain ⟨xs,h5,h6⟩:=cN h
      unfold mkO at h5
      split at h5
      ·rename_i hc
       injection h5 with h5
       subst h5
       have hbd:p.b d=none:=by have:=hs.bx d; rw [hb] at this; exact this hfr
       have e1:(i.zero.map fun z=>nrm (.v z))=bH ty z0:=by
        have h7:=vO (vL (B:=s.bx) hz) hds
        rw [show pC i=i.zero.map (fun z=>PV.d (.v z)) from rfl,DN] at h7
        injection h7 with h7
        rw [h7]; exact Kh hz0
       refine ⟨_,_,.row d n.toNat,some (d,.rw e i.size ((List.replicate n.toNat z0).map (bH ty))),?_,h6,?_,⟨h4,hb⟩,yD hb rfl⟩
       ·simp only [vV,hu,hpx,hpy,asI,hi,hbd]
        rw [if_pos ⟨trivial,hc.1,hc.2,h1,h2⟩,List.map_replicate,e1]
       ·exact oY hs (qY hb) (fun _=>⟨rfl,fun p pin hp=>by cases hp⟩) (.row d _ e i.size ty _ [] (by rw [ar,if_pos rfl]) (by simp))
      ·cases h5
     ·cases h
    ·cases h
   ·cases h
  ·cases h
 ·cases h
theorem AW (mx:Bool) : ∀ (l:List SV) (v w:SV) (q:PV) (qs:List PV),bf B v q→ca B l qs→yF mx v l=some w→∃ r,(match mx with | true=>tz q qs | false=>tv q qs)=some r∧bf B w r
 | [],v,w,q,qs,hv,hl,h=>by
  rcases hl.cases with ⟨_,rfl⟩ | ⟨_,_,_,_,h1,_⟩
  ·have:v=w:=by cases v <;> (injection h)
   subst this
   exact ⟨q,by cases mx <;> rfl,hv⟩
  ·cases h1
 | u::l,v,w,q,qs,hv,hl,h=>by
  rcases hl.cases with ⟨h1,_⟩ | ⟨u',r,l',qs',h1,rfl,h2,h3⟩
  ·cases h1
  ·injection h1 with e1 e2
   subst e1 e2
   unfold yF at h
   split at h
   ·rename_i heq; cases heq
   ·rename_i k x k' y l2 heq
    injection heq with e1 e2
    subst e1 e2
    obtain rfl:=kX hv
    obtain rfl:=kX h2
    obtain ⟨r',h4,h5⟩:=AW mx l _ w _ qs' (fR _ _) h3 h
    refine ⟨r',?_,h5⟩
    cases mx
    ·simp only [tv,Fh,asI]; exact h4
    ·simp only [tz,Fj,asI]; exact h4
   ·cases h
theorem YP (hs:Sim s p) {t:TypeId} {v:SV} {q:PV} {k:SV→Option ρ} {res : ρ} (hv:bf s.bx v q) (h:aaa P s t v k=some res) : yg s k res (uX P t q):=by
 unfold aaa at h
 split at h
 ·rename_i e hu
  split at h
  ·rename_i ty xs hd
   refine dp ?_ h (fR _ _)
   have:O6 q=some xs.length:=by
    unfold su at hd
    split at hd
    ·injection hd with hd
     subst hd
     rcases Rx hv with rfl | ⟨rfl,rfl⟩
     ·simp [O6]
     ·rfl
    ·obtain ⟨e,k,ty2,xs2,pins,h1,h2,rfl,h4⟩:=JH hs hv hd
     injection h2 with e1 e2
     subst e1
     have e2:=eq_of_heq e2
     subst e2
     rfl
    ·cases hd
   simp [uX,hu,this]
  ·rename_i hd
   obtain rfl:=Zg hv hd
   exact dp (by simp [uX,hu,O6]) h (fR _ _)
  ·split at h
   ·cases hv
    exact dp (by simp [uX,hu,O6]) h (fR _ _)
   ·cases h
 ·rename_i hu
  split at h
  ·obtain rfl:=rc hv
   exact dp (by simp [uX,hu,asS]) h (fR _ _)
  ·cases h
 ·cases h
end
section
mutual
def qK:PV→PV
 | .d x=>.d (nrm x)
 | .ag cs=>.ag (dM cs)
 | .tup cs=>.tup (dM cs)
 | .fn f ps qs=>.fn f (dM ps) (dM qs)
 | p=>p
def dM:List PV→List PV
 | []=>[]
 | c::cs=>qK c::dM cs
end
def sd:Box→Box
 | .st ty cs=>.st ty (dM cs)
 | b=>b
theorem fV:∀ cs:List PV,(dM cs).length=cs.length
 | []=>rfl
 | c::cs=>by simp [dM,fV cs]
theorem kN:∀ (cs:List PV) (j:Nat) (c:PV),(dM cs)[j]? = some c→∃ d,cs[j]? = some d∧c=qK d
 | [],j,c,h=>by simp [dM] at h
 | d::cs,0,c,h=>by simp [dM] at h; exact ⟨d,rfl,h.symm⟩
 | d::cs,j + 1,c,h=>by simp [dM] at h; simpa using kN cs j c h
section
variable {P:Program} {ρ ρ' ρ2:Nat→Value} {b b' b2:Nat→Option Box} {w w':World} {w0:WM} {F F' F0:Nat→Prop} {n:Nat} {σ τ : Nat→Nat}
theorem aJ.nrmd {x:Value} {p:PV} (h:aJ ρ b w F x p) : aJ ρ b w F x (qK p):=by
 induction h with
 | junk x=>exact .junk x
 | d x d h=>exact .d x _ h.nrm
 | ag xs cs hl h1 hr ih=>exact .ag xs _ (by rw [fV]; exact hl) h1 (fun j x c h2 h3=>by obtain ⟨d,h4,rfl⟩:=kN cs j c h3; exact ih j x d h2 h4)
 | tup xs cs hl hr ih=>exact .tup xs _ (by rw [fV]; exact hl) (fun j x c h2 h3=>by obtain ⟨d,h4,rfl⟩:=kN cs j c h3; exact ih j x d h2 h4)
 | ptr t off g ty cs hb hρ=>exact .ptr t off g ty cs hb hρ
 | row t n A c e k es hb hn hc hA hρ=>exact .row t n A c e k es hb hn hc hA hρ
 | re t n i off a e k es hb hn hi hρ=>exact .re t n i off a e k es hb hn hi hρ
 | vw t n lo hi A m c e k es hb hn hl hh hm hρ=>exact .vw t n lo hi A m c e k es hb hn hl hh hm hρ
 | fe a cs us hF hcell hrep=>exact .fe a cs us hF hcell hrep
 | fn f xs ys ps qs hl hr hl2 hr2 ih ih2 =>
  exact .fn f xs ys _ _ (by rw [fV]; exact hl) (fun j x c h2 h3=>by obtain ⟨d,h4,rfl⟩:=kN ps j c h3; exact ih j x d h2 h4)
   (by rw [fV]; exact hl2) (fun j x c h2 h3=>by obtain ⟨d,h4,rfl⟩:=kN qs j c h3; exact ih2 j x d h2 h4)
end
mutual
def mu (σ : Nat→Nat) : PV→PV
 | .ptr t o=>.ptr (σ t) o
 | .row t n=>.row (σ t) n
 | .re t n i o=>.re (σ t) n i o
 | .vw t n i o=>.vw (σ t) n i o
 | .ag cs=>.ag (fg σ cs)
 | .tup cs=>.tup (fg σ cs)
 | .fn f ps qs=>.fn f (fg σ ps) (fg σ qs)
 | p=>p
def fg (σ : Nat→Nat) : List PV→List PV
 | []=>[]
 | c::cs=>mu σ c::fg σ cs
end
def wt (σ : Nat→Nat) : Box→Box
 | .st ty cs=>.st ty (fg σ cs)
 | b=>b
def LX:Box→List Nat
 | .st _ cs=>bL cs
 | .rw ..=>[]
def mt (σ : Nat→Nat) : BU→BU
 | []=>[]
 | (t,B)::l=>(σ t,wt σ B)::mt σ l
def bU:BU→List Nat
 | []=>[]
 | (t,_)::l=>t::bU l
theorem kM (σ : Nat→Nat) : ∀ cs:List PV,(fg σ cs).length=cs.length
 | []=>rfl
 | c::cs=>by simp [fg,kM σ cs]
theorem mL (σ : Nat→Nat) : ∀ (cs:List PV) (j:Nat) (c:PV),(fg σ cs)[j]? = some c→∃ d,cs[j]? = some d∧c=mu σ d
 | [],j,c,h=>by simp [fg] at h
 | d::cs,0,c,h=>by simp [fg] at h; exact ⟨d,rfl,h.symm⟩
 | d::cs,j + 1,c,h=>by simp [fg] at h; simpa using mL σ cs j c h
theorem dQ {t:Nat} : ∀ {cs:List PV} {j:Nat} {c:PV},cs[j]? = some c→t∈bg c→t∈bL cs
 | [],j,c,h,_=>by simp at h
 | d::cs,0,c,h,ht=>by simp at h; subst h; simp [bL,ht]
 | d::cs,j + 1,c,h,ht=>by simp [bL]; exact .inr (dQ (by simpa using h) ht)
theorem cR:∀ {l:BU} {t:Nat},t∈bU l↔∃ B,lkU l t=some B
 | [],t=>by simp [bU,lkU]
 | (j,B)::l,t=>by
  simp only [bU,List.mem_cons,lkU]
  by_cases h:t=j
  ·subst h; simp
  ·simp only [h,false_or,if_false]; exact cR
mutual
theorem LV (σ : Nat→Nat) : ∀ p:PV,bg (mu σ p)=(bg p).map σ
 | .junk=>rfl
 | .d _=>rfl
 | .ptr _ _=>rfl
 | .row _ _=>rfl
 | .re _ _ _ _=>rfl
 | .vw _ _ _ _=>rfl
 | .fe _=>rfl
 | .ag cs=>by simp only [mu,bg,pm σ cs]
 | .tup cs=>by simp only [mu,bg,pm σ cs]
 | .fn f ps qs=>by simp only [mu,bg,pm σ ps,pm σ qs,List.map_append]
theorem pm (σ : Nat→Nat) : ∀ cs:List PV,bL (fg σ cs)=(bL cs).map σ
 | []=>rfl
 | c::cs=>by simp only [fg,bL,LV σ c,pm σ cs,List.map_append]
end
mutual
theorem RK {σ τ : Nat→Nat} : ∀ (p:PV),(∀ t∈bg p,σ (τ t)=t)→mu σ (mu τ p)=p
 | .junk,_=>rfl
 | .d _,_=>rfl
 | .ptr t o,h=>by simp only [mu]; rw [h t (by simp [bg])]
 | .row t o,h=>by simp only [mu]; rw [h t (by simp [bg])]
 | .re t _ _ _,h=>by simp only [mu]; rw [h t (by simp [bg])]
 | .vw t _ _ _,h=>by simp only [mu]; rw [h t (by simp [bg])]
 | .fe _,_=>rfl
 | .ag cs,h=>by simp only [mu]; rw [rZ cs h]
 | .tup cs,h=>by simp only [mu]; rw [rZ cs h]
 | .fn f ps qs,h=>by simp only [mu]; rw [rZ ps (fun t ht=>h t (by simp [bg,ht])),rZ qs (fun t ht=>h t (by simp [bg,ht]))]
theorem rZ {σ τ : Nat→Nat} : ∀ (cs:List PV),(∀ t∈bL cs,σ (τ t)=t)→fg σ (fg τ cs)=cs
 | [],_=>rfl
 | c::cs,h=>by simp only [fg]; rw [RK c (fun t ht=>h t (by simp [bL,ht])),rZ cs (fun t ht=>h t (by simp [bL,ht]))]
end
theorem Ds {σ : Nat→Nat} : ∀ {l:BU} {t:Nat} {B:Box},(∀ s∈bU l,∀ s'∈bU l,σ s = σ s'→s=s')→lkU l t=some B→lkU (mt σ l) (σ t)=some (wt σ B)
 | [],t,B,_,h=>by cases h
 | (j,C)::l,t,B,hinj,h=>by
  simp only [lkU] at h
  simp only [mt,lkU]
  by_cases ht:t=j
  ·subst ht
   rw [if_pos rfl] at h
   injection h with h
   subst h
   rw [if_pos rfl]
  ·rw [if_neg ht] at h
   have hm:t∈bU l:=cR.2 ⟨B,h⟩
   rw [if_neg (fun e=>ht (hinj t (by simp [bU,hm]) j (by simp [bU]) e))]
   exact Ds (fun s hs s' hs' e=>hinj s (by simp [bU,hs]) s' (by simp [bU,hs']) e) h
theorem uQ {σ : Nat→Nat} : ∀ {l:BU} {i:Nat} {B:Box},lkU (mt σ l) i=some B→∃ t∈bU l,i = σ t
 | [],i,B,h=>by cases h
 | (j,C)::l,i,B,h=>by
  simp only [mt,lkU] at h
  by_cases hi:i = σ j
  ·exact ⟨j,by simp [bU],hi⟩
  ·rw [if_neg hi] at h
   obtain ⟨t,h1,h2⟩:=uQ h
   exact ⟨t,by simp [bU,h1],h2⟩
section
variable {P:Program} {ρ ρ' ρ2:Nat→Value} {b b' b2:Nat→Option Box} {w w':World} {w0:WM} {F F' F0:Nat→Prop} {n:Nat} {σ τ : Nat→Nat}
theorem aJ.ren {x:Value} {p:PV} (h:aJ ρ b w F x p) : (∀ t∈bg p,∀ B,b t=some B→b2 (σ t)=some (wt σ B)∧ρ2 (σ t) = ρ t)→aJ ρ2 b2 w F x (mu σ p):=by
 induction h with
 | junk x=>exact fun _=>.junk x
 | d x d h=>exact fun _=>.d x d h
 | ag xs cs hl h1 hr ih=>exact fun hc=>.ag xs _ (by rw [kM]; exact hl) h1 (fun j x c h2 h3=>by obtain ⟨d,h4,rfl⟩:=mL σ cs j c h3; exact ih j x d h2 h4 (fun t ht=>hc t (dQ h4 ht)))
 | tup xs cs hl hr ih=>exact fun hc=>.tup xs _ (by rw [kM]; exact hl) (fun j x c h2 h3=>by obtain ⟨d,h4,rfl⟩:=mL σ cs j c h3; exact ih j x d h2 h4 (fun t ht=>hc t (dQ h4 ht)))
 | ptr t off g ty cs hb hρ =>
  intro hc
  obtain ⟨h1,h2⟩:=hc t (by simp [bg]) _ hb
  exact .ptr _ off g ty _ h1 (h2.trans hρ)
 | row t n A c e k es hb hn hcc hA hρ =>
  intro hc
  obtain ⟨h1,h2⟩:=hc t (by simp [bg]) _ hb
  exact .row _ n A c e k es h1 hn hcc hA (fun h=>h2.trans (hρ h))
 | re t n i off a e k es hb hn hi hρ =>
  intro hc
  obtain ⟨h1,h2⟩:=hc t (by simp [bg]) _ hb
  exact .re _ n i off a e k es h1 hn hi (fun h=>by obtain ⟨g,c,h3,h4⟩:=hρ h; exact ⟨g,c,h2.trans h3,h4⟩)
 | vw t n lo hi A m c e k es hb hn hl hh hm hρ =>
  intro hc
  obtain ⟨h1,h2⟩:=hc t (by simp [bg]) _ hb
  exact .vw _ n lo hi A m c e k es h1 hn hl hh hm (fun h=>by obtain ⟨g,c,h3,h4⟩:=hρ h; exact ⟨g,c,h2.trans h3,h4⟩)
 | fe a cs us hF hcell hrep=>exact fun _=>.fe a cs us hF hcell hrep
 | fn f xs ys ps qs hl hr hl2 hr2 ih ih2 =>
  intro hc
  exact .fn f xs ys _ _ (by rw [kM]; exact hl) (fun j x c h2 h3=>by obtain ⟨d,h4,rfl⟩:=mL σ ps j c h3; exact ih j x d h2 h4 (fun t ht=>hc t (by simp only [bg,List.mem_append]; exact .inl (dQ h4 ht))))
   (by rw [kM]; exact hl2) (fun j x c h2 h3=>by obtain ⟨d,h4,rfl⟩:=mL σ qs j c h3; exact ih2 j x d h2 h4 (fun t ht=>hc t (by simp only [bg,List.mem_append]; exact .inr (dQ h4 ht))))
theorem jp.ren {own own':Nat→Prop} {t:Nat} {B:Box} (h:jp ρ b own w F t B) (hρ : ρ2 (σ t) = ρ t) (ho:∀ g,blk (ρ t)=some g→own' g) (hc:∀ t∈LX B,∀ B,b t=some B→b2 (σ t)=some (wt σ B)∧ρ2 (σ t) = ρ t) : jp ρ2 b2 own' w F (σ t) (wt σ B):=by
 cases h with
 | st ty cs g xs hr0 hg hF0 hh hl h1 hr =>
  exact .st ty _ g xs (hρ.trans hr0) (ho g (by rw [hr0]; rfl)) hF0 hh (by rw [kM]; exact hl) h1 (fun j x c h2 h3=>by obtain ⟨d,h4,rfl⟩:=mL σ cs j c h3; exact (hr j x d h2 h4).ren (fun t ht=>hc t (dQ h4 ht)))
 | rw e k es xs hk0 h1 hF0 hk hl hr hown =>
  exact .rw e k es xs hk0 (by rw [hρ]; exact h1) (by rw [hρ]; exact hF0) hk hl hr (by rw [hρ]; exact ho)
 | gn e k es hr0=>exact .gn e k es (hρ.trans hr0)
theorem aJ.nb {x:Value} {p:PV} (h:aJ ρ b w F x p) : aJ ρ (fun i=>(b i).map sd) w F x p:=by
 induction h with
 | junk x=>exact .junk x
 | d x d h=>exact .d x d h
 | ag xs cs hl h1 hr ih=>exact .ag xs _ hl h1 ih
 | tup xs cs hl hr ih=>exact .tup xs _ hl ih
 | ptr t off g ty cs hb hρ=>exact .ptr _ off g ty (dM cs) (by rw [hb]; rfl) hρ
 | row t n A c e k es hb hn hcc hA hρ=>exact .row _ n A c e k es (by rw [hb]; rfl) hn hcc hA hρ
 | re t n i off a e k es hb hn hi hρ=>exact .re _ n i off a e k es (by rw [hb]; rfl) hn hi hρ
 | vw t n lo hi A m c e k es hb hn hl hh hm hρ=>exact .vw _ n lo hi A m c e k es (by rw [hb]; rfl) hn hl hh hm hρ
 | fe a cs us hF hcell hrep=>exact .fe a cs us hF hcell hrep
 | fn f xs ys ps qs hl hr hl2 hr2 ih ih2=>exact .fn f xs ys _ _ hl ih hl2 ih2
theorem jp.nb {own:Nat→Prop} {t:Nat} {B:Box} (h:jp ρ b own w F t B) : jp ρ (fun i=>(b i).map sd) own w F t (sd B):=by
 cases h with
 | st ty cs g xs hr0 hg hF0 hh hl h1 hr=>exact .st ty _ g xs hr0 hg hF0 hh (by rw [fV]; exact hl) h1 (fun j x c h2 h3=>by obtain ⟨d,h4,rfl⟩:=kN cs j c h3; exact (hr j x d h2 h4).nb.nrmd)
 | rw e k es xs hk0 h1 hF0 hk hl hr hown=>exact .rw e k es xs hk0 h1 hF0 hk hl hr hown
 | gn e k es hr0=>exact .gn e k es hr0
def CS (ρ : Nat→Value) (b:Nat→Option Box) : Nat→Prop:=fun g=>∃ t B,b t=some B∧blk (ρ t)=some g
def EH (bi:BU) (K:List Nat) : Nat→Option Box:=fun t=>if t∈K then lkU bi t else none
def PCm (P:Program) (f:FuncId) (args:List PV) (bi:BU) (K:List Nat) (Q:PV→BU→Prop) : Prop :=
 dB P f=true∧∀ (w:World) (F:Nat→Prop) (ρ : Nat→Value) (vs:Array Value),Inv ⟨w,CS ρ (lkU bi),fun _=>none⟩ F ρ (lkU bi) w F→cJ ρ (lkU bi) w F vs.toList args →
  Calls P f vs w fun e w'=>∃ v ρ' F' r bo,Q r bo∧e = .returned v∧Inv ⟨w,CS ρ (lkU bi),fun _=>none⟩ F ρ' (lkU bo) w' F'∧Stp ρ (EH bi K) w F ρ' (lkU bo) w' F'∧aJ ρ' (lkU bo) w' F' v r
def Kp (l:BU) : Prop:=∀ t B,lkU l t=some B→∀ s∈LX B,s∈bU l
structure aa8 (τi τ : Nat→Nat) (bi bo:BU) (K:List Nat) (u:BU) : Prop where
 out:∀ s B,lkU bo s=some B→lkU u (τ s)=some (wt τ B)
 gone:∀ s B,lkU bi s=some B→s ∉ K→∃ e k es es',B = .rw e k es∧lkU u (τi s)=some (.rw e k es')∧es.length < es'.length
 only:∀ i B,lkU u i=some B→(∃ s∈bU bo,i = τ s)∨(∃ s∈bU bi,s ∉ K∧i = τi s)
structure aba (τi τ : Nat→Nat) (bi bo:BU) (K:List Nat) : Prop where
 ii:∀ s∈bU bi,∀ s'∈bU bi,τi s = τi s'→s=s'
 oo:∀ s∈bU bo,∀ s'∈bU bo,τ s = τ s'→s=s'
 io:∀ s∈bU bi,∀ s'∈bU bo,τi s = τ s'→s=s'∧s∈K
 k:∀ s∈K,s∈bU bi∧s∈bU bo∧τi s = τ s
theorem Xo {f:FuncId} {τi:Nat→Nat} {args args':List PV} {bi u:BU} {K N:List Nat} {Q:PV→BU→Prop} {r':PV} (h:PCm P f args bi K Q) (hii:∀ s∈bU bi,∀ s'∈bU bi,τi s = τi s'→s=s')
  (hQ:∀ r bo,Q r bo→∃ τ,aba τi τ bi bo K∧aa8 τi τ bi bo K u∧mu τ r=r'∧∀ s∈bU bo,s ∉ K→τ s∈N) (hnew:∀ t∈N,t < 1000000)
  (ha:∀ s∈bL args,s∈bU bi) (hargs:dM args' = fg τi args) (hbi:Kp bi)
  (w0:WM) (F0:Nat→Prop) (ρ : Nat→Value) (b:Nat→Option Box) (w:World) (F:Nat→Prop) (vs:Array Value) (hb:∀ s B,lkU bi s=some B→∃ B',b (τi s)=some B'∧sd B' = wt τi B) (hbn:∀ t∈N,b t=none)
  (hi:Inv w0 F0 ρ b w F) (hv:cJ ρ b w F vs.toList args') :
  Calls P f vs w fun e w'=>∃ v ρ' F',e = .returned v∧Inv w0 F0 ρ' (dx b u) w' F'∧Stp ρ b w F ρ' (dx b u) w' F'∧aJ ρ' (dx b u) w' F' v r':=by
 classical
 obtain ⟨_,hcall⟩:=h
 have mkσ : ∀ (τ : Nat→Nat) (dom:Nat→Prop),(∀ s,dom s→∀ s',dom s'→τ s = τ s'→s=s')→∃ σ : Nat→Nat,∀ s,dom s→σ (τ s)=s:=fun τ dom hinj=>by
  refine ⟨fun i=>if h:∃ s,dom s∧τ s=i then h.choose else i,fun s hs=>?_⟩
  have hex:∃ s',dom s'∧τ s' = τ s:=⟨s,hs,rfl⟩
  show (if h:∃ s',dom s'∧τ s' = τ s then h.choose else τ s)=s
  rw [dif_pos hex]
  exact hinj _ hex.choose_spec.1 s hs hex.choose_spec.2
 obtain ⟨σ,hσ⟩:=mkσ τi (fun s=>s∈bU bi) hii
 let ρ0:Nat→Value:=fun s=>ρ (τi s)
 let bn:Nat→Option Box:=fun i=>(b i).map sd
 have hbt:∀ s B,lkU bi s=some B→bn (τi s)=some (wt τi B):=fun s B hs=>by
  obtain ⟨B',h1,h2⟩:=hb s B hs
  show (b (τi s)).map sd = _
  rw [h1,← h2]; rfl
 have hdi:∀ {s B},lkU bi s=some B→s∈bU bi:=fun h=>cR.2 ⟨_,h⟩
 have hback:∀ s B,lkU bi s=some B→wt σ (wt τi B)=B:=fun s B hs=>by
  cases B with
  | st ty cs=>simp only [wt]; rw [rZ cs (fun t ht=>hσ t (hbi s _ hs t ht))]
  | rw=>rfl
 have hgo:∀ s∈bU bi,∀ B',bn (τi s)=some B'→lkU bi (σ (τi s))=some (wt σ B')∧ρ0 (σ (τi s)) = ρ (τi s):=fun s hs B' hB'=>by
  obtain ⟨B,hB⟩:=cR.1 hs
  rw [hbt s B hB] at hB'
  injection hB' with hB'
  subst hB'
  rw [hσ s hs,hback s B hB]
  exact ⟨hB,rfl⟩
 have hin:∀ {x:Value} {p:PV},(∀ s∈bg p,s∈bU bi)→aJ ρ bn w F x (mu τi p)→aJ ρ0 (lkU bi) w F x p:=fun {x p} hp hx=>by
  have:=hx.ren (σ:=σ) (b2:=lkU bi) (ρ2:=ρ0) (fun t ht B hB=>by
   rw [LV] at ht
   obtain ⟨s,hs,rfl⟩:=List.mem_map.1 ht
   exact hgo s (hp s hs) B hB)
  rw [RK p (fun t ht=>hσ t (hp t ht))] at this
  exact this
 have hown:∀ s B g,lkU bi s=some B→blk (ρ0 s)=some g→g < w.heap.size∧w0.own g∧¬ F g:=fun s B g hs hg=>by
  obtain ⟨B',h1,_⟩:=hb s B hs
  exact (hi.box _ _ h1).lt hg
 have hi0:Inv ⟨w,CS ρ0 (lkU bi),fun _=>none⟩ F ρ0 (lkU bi) w F:=by
  refine ⟨.of w rfl,fun _ h=>h,hi.flt,fun _ h=>.inl h,fun s B hs=>?_,fun s s' B B' g h1 h2 hne hg=>?_,fun t q h=>by cases h⟩
  ·obtain ⟨B1,h1,h2⟩:=hb s B hs
   have hbx:=(hi.box _ _ h1).nb
   rw [h2] at hbx
   have:=hbx.ren (σ:=σ) (ρ2:=ρ0) (b2:=lkU bi) (own':=WM.own ⟨w,CS ρ0 (lkU bi),fun _=>none⟩) (by show ρ (τi (σ (τi s))) = ρ (τi s); rw [hσ s (hdi hs)]) (fun g hg=>.inr ⟨s,B,hs,hg⟩) (fun t ht B' hB'=>by
    have ht:t∈(LX B).map τi:=by
     cases B with
     | st ty cs=>show t∈(bL cs).map τi; rw [← pm]; exact ht
     | rw=>exact ht
    obtain ⟨s',hs',rfl⟩:=List.mem_map.1 ht
    exact hgo s' (hbi s B hs s' hs') B' hB')
   rw [hσ s (hdi hs),hback s B hs] at this
   exact this
  ·obtain ⟨B1,m1,_⟩:=hb s B h1
   obtain ⟨B2,m2,_⟩:=hb s' B' h2
   exact hi.dist _ _ _ _ g m1 m2 (fun e=>hne (hii s (hdi h1) s' (hdi h2) e)) hg
 have hv0:cJ ρ0 (lkU bi) w F vs.toList args:=by
  have hlen:args'.length=args.length:=by rw [← fV args',hargs,kM]
  refine ⟨by rw [hv.len,hlen],fun j x c h1 h2=>hin (fun s hs=>ha s (dQ h2 hs)) ?_⟩
  have hlt:j < args.length:=(zg.1 h2).1
  have h3:args'[j]? = some args'[j]:=by simp [hlen,hlt]
  have h4:=(hv.rep j x _ h1 h3).nb.nrmd
  have h5:(dM args')[j]? = some (qK args'[j]):=by
   have hl2:j < (dM args').length:=by rw [fV,hlen]; exact hlt
   obtain ⟨d,h6,h7⟩:=kN args' j _ (zq hl2)
   rw [h3] at h6
   injection h6 with h6
   rw [zq hl2,h7,h6]
  have h8:(fg τi args)[j]? = some (mu τi c):=by
   have hl2:j < (fg τi args).length:=by rw [kM]; exact hlt
   obtain ⟨d,h6,h7⟩:=mL τi args j _ (zq hl2)
   rw [h2] at h6
   injection h6 with h6
   rw [zq hl2,h7,h6]
  rw [hargs,h8] at h5
  injection h5 with h5
  rw [h5]
  exact h4
 refine (hcall w F ρ0 vs hi0 hv0).mono ?_
 rintro e w' ⟨v,ρ1,F',r,bo,hq,rfl,k1,k2,k3⟩
 obtain ⟨τ,hfit,hu,hr',hN⟩:=hQ r bo hq
 rw [← hr']
 have hnew:∀ s∈bU bo,s ∉ K→τ s < 1000000:=fun s h1 h2=>hnew _ (hN s h1 h2)
 have hbn:∀ s∈bU bo,s ∉ K→b (τ s)=none:=fun s h1 h2=>hbn _ (hN s h1 h2)
 obtain ⟨σo,hσo⟩:=mkσ τ (fun s=>s∈bU bo) hfit.oo
 have hdo:∀ {s B},lkU bo s=some B→s∈bU bo:=fun h=>cR.2 ⟨_,h⟩
 let ρ':Nat→Value:=fun i=>match lkU u i with | none=>ρ i | some _=>if ∃ s,s∈bU bo∧τ s=i then ρ1 (σo i) else .tuple #[]
 have hρin:∀ s B,lkU bo s=some B→ρ' (τ s) = ρ1 s:=fun s B hs=>by
  show (match lkU u (τ s) with | none=>ρ (τ s) | some _=>if ∃ s',s'∈bU bo∧τ s' = τ s then ρ1 (σo (τ s)) else .tuple #[]) = ρ1 s
  rw [hu.out s B hs]
  simp only [hσo s (hdo hs)]
  rw [if_pos ⟨s,hdo hs,rfl⟩]
 have hρgone:∀ s B,lkU bi s=some B→s ∉ K→ρ' (τi s) = .tuple #[]:=fun s B hs hn=>by
  obtain ⟨e,k,es,es',_,h1,_⟩:=hu.gone s B hs hn
  show (match lkU u (τi s) with | none=>ρ (τi s) | some _=>if ∃ s',s'∈bU bo∧τ s' = τi s then ρ1 (σo (τi s)) else .tuple #[]) = .tuple #[]
  rw [h1]
  simp only
  rw [if_neg]
  rintro ⟨s',h2,h3⟩
  exact hn (hfit.io s (hdi hs) s' h2 h3.symm).2
 have hρout:∀ i,lkU u i=none→ρ' i = ρ i:=fun i h=>by
  show (match lkU u i with | none=>ρ i | some _=>if ∃ s,s∈bU bo∧τ s=i then ρ1 (σo i) else .tuple #[]) = ρ i
  rw [h]
 have hbin:∀ s B,lkU bo s=some B→dx b u (τ s)=some (wt τ B):=fun s B hs=>by
  simp only [dx,hu.out s B hs]
 have hbout:∀ i,lkU u i=none→dx b u i=b i:=fun i h=>by simp only [dx,h]
 have hgo':∀ s B,lkU bo s=some B→dx b u (τ s)=some (wt τ B)∧ρ' (τ s) = ρ1 s:=fun s B hs=>⟨hbin s B hs,hρin s B hs⟩
 have huse:∀ s B,lkU bi s=some B→∃ C,lkU u (τi s)=some C:=fun s B hs=>by
  by_cases hk:s∈K
  ·obtain ⟨_,h2,h3⟩:=hfit.k s hk
   obtain ⟨C,hC⟩:=cR.1 h2
   exact ⟨_,by rw [h3]; exact hu.out s C hC⟩
  ·obtain ⟨e,k,es,es',_,h1,_⟩:=hu.gone s B hs hk; exact ⟨_,h1⟩
 have houtside:∀ i B,lkU u i=none→b i=some B→∀ g,blk (ρ i)=some g→g < w.heap.size∧¬ CS ρ0 (lkU bi) g:=fun i B h hB g hg=>by
  refine ⟨((hi.box i B hB).lt hg).1,?_⟩
  rintro ⟨s,C,hs,hg2⟩
  obtain ⟨B1,m1,_⟩:=hb s C hs
  refine hi.dist i (τi s) B _ g hB m1 (fun e=>?_) hg hg2
  obtain ⟨D,hD⟩:=huse s C hs
  rw [e,hD] at h
  cases h
 have hown':∀ g,WM.own ⟨w,CS ρ0 (lkU bi),fun _=>none⟩ g→w0.own g:=by
  rintro g (hg | ⟨s,B,hs,hg⟩)
  ·exact .inl (Nat.le_trans hi.ext.size hg)
  ·exact (hown s B g hs hg).2.1
 have hcase:∀ i B,dx b u i=some B→(∃ s C,lkU bo s=some C∧i = τ s∧B=wt τ C)∨(lkU u i=none∧b i=some B)∨(∃ e k es,B = .rw e k es∧ρ' i = .tuple #[]):=fun i B hB=>by
  cases hl:lkU u i with
  | none=>exact .inr (.inl ⟨rfl,by rw [hbout i hl] at hB; exact hB⟩)
  | some C =>
   rcases hu.only i C hl with ⟨s,hs,rfl⟩ | ⟨s,hs,hk,rfl⟩
   ·obtain ⟨C',hC'⟩:=cR.1 hs
    rw [hbin s C' hC'] at hB
    injection hB with hB
    exact .inl ⟨s,C',hC',rfl,hB.symm⟩
   ·obtain ⟨B0,hB0⟩:=cR.1 hs
    obtain ⟨e,k,es,es',_,h1,_⟩:=hu.gone s B0 hB0 hk
    simp only [dx,h1] at hB
    injection hB with hB
    exact .inr (.inr ⟨e,k,es',hB.symm,hρgone s B0 hB0 hk⟩)
 have hold:∀ s∈bU bo,∀ B,b (τ s)=some B→∃ B0,lkU bi s=some B0∧sd B=wt τi B0∧EH bi K s=some B0∧ρ (τ s) = ρ0 s:=fun s hs B hB=>by
  by_cases hk:s∈K
  ·obtain ⟨h1,h2,h3⟩:=hfit.k s hk
   obtain ⟨B0,hB0⟩:=cR.1 h1
   obtain ⟨B1,m1,m2⟩:=hb s B0 hB0
   rw [h3,hB] at m1
   injection m1 with m1
   subst m1
   exact ⟨B0,hB0,m2,by unfold EH; rw [if_pos hk]; exact hB0,by show ρ (τ s) = ρ (τi s); rw [h3]⟩
  ·rw [hbn s hs hk] at hB
   cases hB
 have hs:Stp ρ b w F ρ' (dx b u) w' F':=by
  refine ⟨k2.hF,k2.hw,fun t ty cs ht=>?_,fun t e k es ht=>?_⟩
  ·cases hl:lkU u t with
   | none=>exact ⟨⟨ty,cs,by rw [hbout t hl]; exact ht⟩,hρout t hl⟩
   | some C =>
    rcases hu.only t C hl with ⟨s,hs,rfl⟩ | ⟨s,hs,hk,rfl⟩
    ·obtain ⟨B0,h1,h2,h3,h4⟩:=hold s hs _ ht
     cases B0 with
     | rw=>cases h2
     | st ty0 cs0 =>
      obtain ⟨⟨ty1,cs1,h5⟩,h6⟩:=k2.hst s ty0 cs0 h3
      exact ⟨⟨ty1,_,hbin s _ h5⟩,by rw [hρin s _ h5,h6,h4]⟩
    ·exfalso
     obtain ⟨B0,hB0⟩:=cR.1 hs
     obtain ⟨e,k,es,es',rfl,_⟩:=hu.gone s B0 hB0 hk
     obtain ⟨B1,m1,m2⟩:=hb s _ hB0
     rw [m1] at ht
     injection ht with ht
     subst ht
     cases m2
  ·cases hl:lkU u t with
   | none=>exact ⟨e,es,by rw [hbout t hl]; exact ht,Nat.le_refl _,fun _=>hρout t hl⟩
   | some C =>
    rcases hu.only t C hl with ⟨s,hs,rfl⟩ | ⟨s,hs,hk,rfl⟩
    ·obtain ⟨B0,h1,h2,h3,h4⟩:=hold s hs _ ht
     cases B0 with
     | st=>cases h2
     | rw e0 k0 es0 =>
      injection h2 with q1 q2 q3
      subst q1 q2 q3
      obtain ⟨e1,es1,h5,h6,h7⟩:=k2.hrw s _ _ _ h3
      exact ⟨e1,es1,hbin s _ h5,h6,fun he=>by rw [hρin s _ h5,h7 he,h4]⟩
    ·obtain ⟨B0,hB0⟩:=cR.1 hs
     obtain ⟨e1,k1',es1,es',rfl,h1,h2⟩:=hu.gone s B0 hB0 hk
     obtain ⟨B1,m1,m2⟩:=hb s _ hB0
     rw [m1] at ht
     injection ht with ht
     subst ht
     injection m2 with q1 q2 q3
     subst q1 q2 q3
     exact ⟨e,es',by simp only [dx,h1],Nat.le_of_lt h2,fun he=>by omega⟩
 refine ⟨v,ρ',F',rfl,⟨?_,fun g hg=>k1.f0 g (hi.f0 g hg),k1.flt,fun g hg=>?_,fun i B hB=>?_,fun i i' B B' g hB hB' hne hg=>?_,hi.reg_stp hs fun t ht hn=>?_⟩,hs,k3.ren fun t ht B hB=>hgo' t B hB⟩
 ·exact hi.ext.step k1.ext.os k1.ext.tape k1.ext.output k1.ext.size fun g hg hM=>k1.ext.block g (Nat.lt_of_lt_of_le hg hi.ext.size) fun ⟨s,B,hs,hg2⟩=>vP hg hM (hown s B g hs hg2).2.1
 ·rcases k1.fnew g hg with h | h
  ·exact hi.fnew g h
  ·exact .inr (hown' g h)
 ·rcases hcase i B hB with ⟨s,C,hC,rfl,rfl⟩ | ⟨hl,hB⟩ | ⟨e,k,es,rfl,hg⟩
  ·exact (k1.box s C hC).ren (hρin s C hC) (fun g hg=>hown' g ((k1.box s C hC).lt hg).2.1) (fun t ht B hB=>hgo' t B hB)
  ·refine (hi.box i B hB).mono hs (hρout i hl) (fun g hg=>?_) (fun g hg hF=>?_)
   ·obtain ⟨h1,h2⟩:=houtside i B hl hB g hg
    exact k1.ext.block g h1 h2
   ·obtain ⟨h1,h2⟩:=houtside i B hl hB g hg
    rcases k1.fnew g hF with h | h | h
    ·exact ((hi.box i B hB).lt hg).2.2 h
    ·exact absurd h1 (Nat.not_lt.2 h)
    ·exact h2 h
  ·exact .gn e k es hg
 ·have mixed:∀ s C i B,lkU bo s=some C→lkU u i=none→b i=some B→blk (ρ1 s)=some g→blk (ρ i)≠some g:=fun s C i B hC hl hB h1 h2=>by
   obtain ⟨m1,m2⟩:=houtside i B hl hB g h2
   rcases ((k1.box s C hC).lt h1).2.1 with h | h
   ·exact absurd m1 (Nat.not_lt.2 h)
   ·exact m2 h
  rcases hcase i B hB with ⟨s,C,hC,rfl,rfl⟩ | ⟨hl,hB⟩ | ⟨e,k,es,rfl,hgo⟩
  ·rw [hρin s C hC] at hg
   rcases hcase i' B' hB' with ⟨s',C',hC',rfl,rfl⟩ | ⟨hl',hB'⟩ | ⟨e,k,es,rfl,hgo⟩
   ·rw [hρin s' C' hC']
    exact k1.dist s s' C C' g hC hC' (fun e=>hne (by rw [e])) hg
   ·rw [hρout i' hl']
    exact mixed s C i' B' hC hl' hB' hg
   ·rw [hgo]; exact fun h=>by cases h
  ·rw [hρout i hl] at hg
   rcases hcase i' B' hB' with ⟨s',C',hC',rfl,rfl⟩ | ⟨hl',hB'⟩ | ⟨e,k,es,rfl,hgo⟩
   ·rw [hρin s' C' hC']
    exact fun h=>mixed s' C' i B hC' hl hB h hg
   ·rw [hρout i' hl']
    exact hi.dist i i' B B' g hB hB' hne hg
   ·rw [hgo]; exact fun h=>by cases h
  ·rw [hgo] at hg; cases hg
 ·cases hl:lkU u t with
  | none=>rw [hbout t hl]; exact hn
  | some C =>
   exfalso
   rcases hu.only t C hl with ⟨s,hs,rfl⟩ | ⟨s,hs,hk,rfl⟩
   ·by_cases hk:s∈K
    ·obtain ⟨h1,h2,h3⟩:=hfit.k s hk
     obtain ⟨B0,hB0⟩:=cR.1 h1
     obtain ⟨B1,m1,_⟩:=hb s B0 hB0
     rw [h3,hn] at m1
     cases m1
    ·have:=hnew s hs hk
     omega
   ·obtain ⟨B0,hB0⟩:=cR.1 hs
    obtain ⟨B1,m1,_⟩:=hb s B0 hB0
    rw [m1] at hn
    cases hn
end
end
section
section
variable {P:Program} {ρ ρ' ρ2:Nat→Value} {b b' b2:Nat→Option Box} {w w':World} {w0:WM} {F F' F0:Nat→Prop} {n:Nat}
theorem aJ.to {x:Value} {p:PV} (h:aJ ρ b w F x p) : (∀ t∈bg p,(∀ ty cs,b t=some (.st ty cs)→∃ cs',b2 t=some (.st ty cs'))∧∀ e k es,b t=some (.rw e k es)→b2 t=some (.rw e k es))→aJ ρ b2 w F x p:=by
 induction h with
 | junk x=>exact fun _=>.junk x
 | d x d h=>exact fun _=>.d x d h
 | ag xs cs hl h1 hr ih=>exact fun hc=>.ag xs _ hl h1 (fun j x c h2 h3=>ih j x c h2 h3 (fun t ht=>hc t (dQ h3 ht)))
 | tup xs cs hl hr ih=>exact fun hc=>.tup xs _ hl (fun j x c h2 h3=>ih j x c h2 h3 (fun t ht=>hc t (dQ h3 ht)))
 | ptr t off g ty cs hb hρ =>
  intro hc
  obtain ⟨cs',h1⟩:=(hc t (by simp [bg])).1 _ _ hb
  exact .ptr _ off g ty _ h1 hρ
 | row t n A c e k es hb hn hcc hA hρ =>
  intro hc
  exact .row _ n A c e k es ((hc t (by simp [bg])).2 _ _ _ hb) hn hcc hA hρ
 | re t n i off a e k es hb hn hi hρ =>
  intro hc
  exact .re _ n i off a e k es ((hc t (by simp [bg])).2 _ _ _ hb) hn hi hρ
 | vw t n lo hi A m c e k es hb hn hl hh hm hρ =>
  intro hc
  exact .vw _ n lo hi A m c e k es ((hc t (by simp [bg])).2 _ _ _ hb) hn hl hh hm hρ
 | fe a cs us hF hcell hrep=>exact fun _=>.fe a cs us hF hcell hrep
 | fn f xs ys ps qs hl hr hl2 hr2 ih ih2 =>
  intro hc
  exact .fn f xs ys _ _ hl (fun j x c h2 h3=>ih j x c h2 h3 (fun t ht=>hc t (by simp only [bg,List.mem_append]; exact .inl (dQ h3 ht))))
   hl2 (fun j x c h2 h3=>ih2 j x c h2 h3 (fun t ht=>hc t (by simp only [bg,List.mem_append]; exact .inr (dQ h3 ht))))
mutual
theorem LW:∀ p:PV,bg (qK p)=bg p
 | .junk=>rfl
 | .d _=>rfl
 | .ptr _ _=>rfl
 | .row _ _=>rfl
 | .re _ _ _ _=>rfl
 | .vw _ _ _ _=>rfl
 | .fe _=>rfl
 | .ag cs=>by simp only [qK,bg,pn cs]
 | .tup cs=>by simp only [qK,bg,pn cs]
 | .fn f ps qs=>by simp only [qK,bg,pn ps,pn qs]
theorem pn:∀ cs:List PV,bL (dM cs)=bL cs
 | []=>rfl
 | c::cs=>by simp only [dM,bL,LW c,pn cs]
end
def yx (ρ : Nat→Value) (bi:BU) (K:List Nat) : Nat→Option (Value×Option (Nat×Nat)):=fun t=>if t∈K then (match lkU bi t with
 | some (.st _ _)=>some (ρ t,none)
 | some (.rw _ k es)=>some (ρ t,some (k,es.length))
 | none=>none) else none
def aa6 (P:Program) (fn:Func) (K:List Nat) (Q:PV→BU→Prop) (e:Exit) (s:PS) : Prop :=
 (match e with | .normal=>True | .ret=>True | _=>False)∧∃ r bo,Q r bo∧(∀ t∈K,t∈bU bo)∧(∀ s∈bg r,s∈bU bo)∧Kp bo∧(∃ p,rg P fn s=some p∧qK p=r)∧∀ t B,lkU bo t=some B→∃ B',s.b t=some B'∧sd B' = B
theorem Tp {f:FuncId} {fn:Func} {c:Code} {args:List PV} {bi:BU} {K:List Nat} {Q:PV→BU→Prop} (hf:P.funcs[f]? = some fn) (hb:fn.body=some c) (hcb:dB P f=true) (hlen:args.length≤fn.ntmps)
  (hid:∀ t∈K,1000000≤t) (h:PWP P fn.ntmps c (aa6 P fn K Q) ⟨mA args,lkU bi⟩) : PCm P f args bi K Q:=by
 refine ⟨hcb,fun w F ρ vs hi0 hv=>?_⟩
 refine calls_of_wp hf hb ?_
 have hl:vs.size=args.length:=by have:=hv.len; simpa using this
 have hi1:Inv ⟨w,CS ρ (lkU bi),yx ρ bi K⟩ F ρ (lkU bi) w F:=by
  refine ⟨⟨hi0.ext.os,hi0.ext.tape,hi0.ext.output,hi0.ext.size,hi0.ext.block⟩,hi0.f0,hi0.flt,hi0.fnew,hi0.box,hi0.dist,fun t q hq=>?_⟩
  have hq:yx ρ bi K t=some q:=hq
  unfold yx at hq
  split at hq
  ·rename_i hk
   split at hq
   ·rename_i ty cs hB
    injection hq with hq
    subst hq
    exact ⟨hid t hk,.inr ⟨⟨ty,cs,hB⟩,rfl⟩⟩
   ·rename_i e k es hB
    injection hq with hq
    subst hq
    exact ⟨hid t hk,.inr ⟨e,es,hB,Nat.le_refl _,fun _=>rfl⟩⟩
   ·cases hq
  ·cases hq
 have hc:oh fn.ntmps ⟨w,CS ρ (lkU bi),yx ρ bi K⟩ F ⟨mA args,lkU bi⟩ { tmps:=vs++Array.replicate (fn.ntmps - vs.size) undef,defers:=[] } w:=by
  refine ⟨by simp; omega,rfl,ρ,F,hi1,fun i=>?_⟩
  by_cases hi:i < vs.size
  ·have e1:(vs++Array.replicate (fn.ntmps - vs.size) undef).getD i undef=vs[i]:=by simp [Array.getElem?_append,hi]
   show aJ ρ (lkU bi) w F _ (mA args i)
   rw [e1]
   have hia:i < args.length:=by omega
   unfold mA
   rw [zq hia]
   exact hv.rep i _ _ (by simp [hi]) (zq hia)
  ·show aJ ρ (lkU bi) w F _ (mA args i)
   unfold mA
   rw [List.getElem?_eq_none (by omega)]
   exact .junk _
 refine wp_mono (h ⟨w,CS ρ (lkU bi),yx ρ bi K⟩ F _ w hc) fun e a' w' ⟨s',⟨hex,r,bo,hq,hid2,hr,hbo,⟨p,h1,h2⟩,h3⟩,_,hd,ρ',F',hi,hev⟩=>?_
 obtain ⟨v,hv1,hv2⟩:=Ec (P:=P) hi hev h1
 have hto:∀ t∈bU bo,(∀ ty cs,s'.b t=some (.st ty cs)→∃ cs',lkU bo t=some (.st ty cs'))∧∀ e k es,s'.b t=some (.rw e k es)→lkU bo t=some (.rw e k es):=fun t ht=>by
  obtain ⟨B,hB⟩:=cR.1 ht
  obtain ⟨B',hB',hn⟩:=h3 t B hB
  refine ⟨fun ty cs k=>?_,fun e k es k1=>?_⟩
  ·rw [hB'] at k
   injection k with k
   subst k
   exact ⟨_,by rw [hB,← hn]; rfl⟩
  ·rw [hB'] at k1
   injection k1 with k1
   subst k1
   rw [hB,← hn]; rfl
 have hbox:∀ t B,lkU bo t=some B→jp ρ' (lkU bo) (WM.own ⟨w,CS ρ (lkU bi),fun _=>none⟩) w' F' t B:=fun t B hB=>by
  obtain ⟨B',hB',rfl⟩:=h3 t B hB
  have hbx:=hi.box t B' hB'
  have hcl:=hbo t _ hB
  cases hbx with
  | st ty cs g xs hr0 hg hF0 hh hl h1 hr =>
   refine .st ty _ g xs hr0 hg hF0 hh (by rw [fV]; exact hl) h1 (fun j x c k1 k2=>?_)
   obtain ⟨d,k3,rfl⟩:=kN cs j c k2
   refine ((hr j x d k1 k3).to fun s hs=>hto s (hcl s ?_)).nrmd
   show s∈bL (dM cs)
   rw [pn]
   exact dQ k3 hs
  | rw e k es xs hk0 m1 m2 m3 m4 m5 m6=>exact .rw e k es xs hk0 m1 m2 m3 m4 m5 m6
  | gn e k es m1=>exact .gn e k es m1
 have hstp:Stp ρ (EH bi K) w F ρ' (lkU bo) w' F':=by
  have hk:∀ t B,EH bi K t=some B→lkU bi t=some B∧t∈K∧t∈bU bo:=fun t B ht=>by
   unfold EH at ht
   split at ht
   ·rename_i hk; exact ⟨ht,hk,hid2 t hk⟩
   ·cases ht
  refine ⟨fun g hg=>hi.f0 g hg,fun g hg=>?_,fun t ty cs ht=>?_,fun t e k es ht=>?_⟩
  ·exact hi.ext.block g (hi0.flt g hg) fun ⟨t,B,hB,hg2⟩=>((hi0.box t B hB).lt hg2).2.2 hg
  ·obtain ⟨ht,hkt,m1⟩:=hk t _ ht
   have m2:=(hi.reg t (ρ t,none) (by show yx ρ bi K t = _; unfold yx; rw [if_pos hkt,ht])).2
   rcases m2 with m2 | ⟨⟨ty',cs',m2⟩,m3⟩
   ·obtain ⟨B,hB⟩:=cR.1 m1
    obtain ⟨B',hB',_⟩:=h3 t B hB
    rw [m2] at hB'
    cases hB'
   ·obtain ⟨cs2,h5⟩:=(hto t m1).1 _ _ m2
    exact ⟨⟨_,_,h5⟩,m3⟩
  ·obtain ⟨ht,hkt,m1⟩:=hk t _ ht
   have m2:=(hi.reg t (ρ t,some (k,es.length)) (by show yx ρ bi K t = _; unfold yx; rw [if_pos hkt,ht])).2
   rcases m2 with m2 | ⟨e',es',m2,m3,m4⟩
   ·obtain ⟨B,hB⟩:=cR.1 m1
    obtain ⟨B',hB',_⟩:=h3 t B hB
    rw [m2] at hB'
    cases hB'
   ·exact ⟨e',es',(hto t m1).2 _ _ _ m2,m3,m4⟩
 have hinv:Inv ⟨w,CS ρ (lkU bi),fun _=>none⟩ F ρ' (lkU bo) w' F':=by
  refine ⟨⟨hi.ext.os,hi.ext.tape,hi.ext.output,hi.ext.size,hi.ext.block⟩,hi.f0,hi.flt,hi.fnew,hbox,fun t t' B B' g k1 k2 hne hg=>?_,fun t q hq=>by cases hq⟩
  obtain ⟨_,m1,_⟩:=h3 t B k1
  obtain ⟨_,m2,_⟩:=h3 t' B' k2
  exact hi.dist t t' _ _ g m1 m2 hne hg
 have hres:aJ ρ' (lkU bo) w' F' v r:=by
  rw [← h2]
  exact (hv2.to fun s hs=>hto s (hr s (by rw [← h2,LW]; exact hs))).nrmd
 have fin:a'.defers = []∧∃ v,(results fn a'.tmps).run P w' = .ok v w'∧∃ v' ρ'' F'' r bo,Q r bo∧Ending.returned v = .returned v'∧Inv ⟨w,CS ρ (lkU bi),fun _=>none⟩ F ρ'' (lkU bo) w' F''∧Stp ρ (EH bi K) w F ρ'' (lkU bo) w' F''∧aJ ρ'' (lkU bo) w' F'' v' r :=
  ⟨hd,v,hv1,v,ρ',F',r,bo,hq,rfl,hinv,hstp,hres⟩
 cases e with
 | normal=>exact fin
 | ret=>exact fin
 | exit _=>exact hex.elim
 | goto _=>exact hex.elim
 | panic _=>exact hex.elim
 | outgrown=>exact hex.elim
end
end
section
variable {B:List (Nat×Option aW)} {s:SS} {p:PS} {P:Program} {ρ : Type}
theorem n7 (hs:Sim s p) : ∀ l:List Operand,ca s.bx (wv s l) (l.map (ev p))
 | []=>.nil
 | x::l=>.cons (bZ hs x) (n7 hs l)
theorem V4 {c:Bool} {v w z:SV} {q r:PV} (hv:bf B v q) (hw:bf B w r) (h:V5 c v w=some z) : bf B z (if c then q else r):=by
 unfold V5 at h
 split at h
 ·split at h
  ·rename_i hk
   subst hk
   injection h with h
   subst h
   obtain rfl:=kX hv
   obtain rfl:=kX hw
   cases c
   ·exact fR _ _
   ·exact fR _ _
  ·cases h
 ·injection h with h
  subst h
  obtain rfl:=kY hv
  obtain rfl:=kY hw
  cases c
  ·exact eY _
  ·exact eY _
 ·injection h with h
  subst h
  obtain rfl:=rc hv
  obtain rfl:=rc hw
  cases c
  ·exact wL _
  ·exact wL _
 ·cases c
  ·injection h with h; subst h; exact hw
  ·injection h with h; subst h; exact hv
theorem S8 {x:ByteArray} {i z:Int} (h:jT x i=some z) : 0≤i∧∃ c:UInt8,x.data.toList[i.toNat]? = some c∧z=(c.toNat:Int):=by
 unfold jT at h
 split at h
 ·rename_i h0
  rw [zm] at h
  obtain ⟨c,h1,h2⟩:=h
  exact ⟨h0,c,h1,h2.symm⟩
 ·cases h
theorem Y4 {o:Oper} (hs:Sim s p) {k:SV→Upd→Option ρ} {res : ρ} (hst:∀ t x y,o.op = .store t x y→o.dst=none) (h:Y5 P o s k=some res) : Om s p o.dst k res (eff P o p):=by
 unfold Y5 at h
 unfold eff
 split at h
 all_goals
  rename_i ho
  simp only [ho]
 ·exact ⟨_,.no,_,none,rfl,h,lg hs (bZ hs _),trivial,dV⟩
 ·exact ⟨_,.no,_,none,rfl,h,lg hs (bZ hs _),trivial,dV⟩
 ·rename_i c x y
  split at h
  ·rename_i t hc
   split at h
   ·rename_i v hv
    have hq:=bZ hs c
    rw [hc] at hq
    have hb:asB (ev p c)=some t:=by rw [kY hq]; rfl
    simp only [hb]
    exact ⟨_,.no,_,none,rfl,h,lg hs (V4 (bZ hs x) (bZ hs y) hv),trivial,dV⟩
   ·cases h
  ·cases h
 ·rename_i e
  split at h
  ·rename_i t i hd hi
   split at h
   ·rename_i z hb hz
    obtain ⟨h1,h2⟩:=ao h
    obtain ⟨hfr,h1⟩:=mO h1
    have hbd:p.b t=none:=by have:=hs.bx t; rw [hb] at this; exact this hfr
    refine ⟨_,_,.ptr t 0,some (t,.st e (pC i)),?_,h2,?_,⟨h1,hb⟩,yD hb hd⟩
    ·simp [uZ,hd,hi,hbd]
    ·exact oY hs (qY hb) (fun _=>⟨_,rfl,vL hz⟩) (.ptr t 0 _ _ (by rw [ar,if_pos rfl]))
   ·cases h
  ·cases h
 ·rename_i e x
  split at h
  ·rename_i t cs hd hc
   split at h
   ·rename_i hb
    obtain ⟨h1,h2⟩:=ao h
    obtain ⟨hfr,h1⟩:=mO h1
    have hbd:p.b t=none:=by have:=hs.bx t; rw [hb] at this; exact this hfr
    obtain ⟨qs,h3,h4⟩:=Bm (bZ hs x) hc
    refine ⟨_,_,.ptr t 0,some (t,.st e qs),?_,h2,?_,⟨h1,hb⟩,yD hb hd⟩
    ·simp [Fq,hd,h3,hbd]
    ·exact oY hs (qY hb) (fun _=>⟨_,rfl,h4.mono (qY hb)⟩) (.ptr t 0 _ _ (by rw [ar,if_pos rfl]))
   ·cases h
  ·cases h
 ·rename_i t ps
  split at h
  ·rename_i i fl hi hf
   split at h
   ·rename_i z hz
    split at h
    ·rename_i cs hcs
     obtain ⟨qs,h1,h2⟩:=E6 hs _ (vL hz) hcs
     refine ⟨_,.no,.ag qs,none,?_,h,lg hs (.ag _ _ h2.len h2.rep),trivial,dV⟩
     simp only [yU,hi,hf,h1]
     rfl
    ·cases h
   ·cases h
  ·cases h
 ·exact FM hs h
 ·rename_i t x
  split at h
  ·rename_i v hv
   obtain ⟨r,h1,h2⟩:=Mg hs (bZ hs x) hv
   exact ⟨_,.no,r,none,by simp [h1],h,lg hs h2,trivial,dV⟩
  ·cases h
 ·rename_i t x y
  exact SY hs (hst _ _ _ ho) (bZ hs x) (bZ hs y) h
 ·rename_i op t x y yt
  exact (Zo (bZ hs x) (bZ hs y) (fun n kd z hn hz=>Wn hn hz) h).done hs
 ·rename_i op t x
  exact (ZU (bZ hs x) h).done hs
 ·rename_i src dst x
  exact (Xi hs (bZ hs x) h).done hs
 ·rename_i t x lo hi
  exact (S0 hs (bZ hs x) h).done hs
 ·rename_i t x f
  exact (G4 (bZ hs x) h).done hs
 ·rename_i t x f
  exact (TY (bZ hs x) h).done hs
 ·rename_i t x i
  exact G3 hs (bZ hs x) (bZ hs i) h
 ·rename_i x i
  split at h
  ·rename_i vs hv
   split at h
   ·rename_i v hvi
    have hq:=bZ hs x
    rw [hv] at hq
    obtain ⟨qs,h1,h2⟩:=VF hq
    have hlt:i < qs.length:=by rw [← h2.len]; exact (zg.1 hvi).1
    have hqi:qs[i]? = some qs[i]:=by simp [hlt]
    refine ⟨_,.no,qs[i],none,?_,h,lg hs (h2.rep i _ _ hvi hqi),trivial,dV⟩
    simp [tA,h1,hqi]
   ·cases h
  ·cases h
 ·rename_i t x i
  split at h
  ·rename_i sx kd ix hu hx hi
   obtain ⟨z,h1,h2⟩:=cN h
   obtain ⟨h3,c,h4,rfl⟩:=S8 h1
   have hq:=bZ hs x
   rw [hx] at hq
   have hr:=bZ hs i
   rw [hi] at hr
   refine ⟨_,.no,_,none,?_,h2,lg hs (fR .u8 _),trivial,dV⟩
   simp [Ke,hu,rc hq,kX hr,asS,asI,h3,h4]
  ·cases h
 ·rename_i c
  split at h
  ·rename_i f hf
   simp only [hf]
   unfold Na at h
   unfold tC
   have hargs:=n7 hs c.args.toList
   split at h
   ·split at h
    ·rename_i x t hx ht
     rw [hx] at hargs
     rcases hargs.cases with ⟨h1,_⟩ | ⟨v,q,vs,qs,h1,h2,h3,h4⟩
     ·cases h1
     ·injection h1 with e1 e2
      subst e1 e2
      rcases h4.cases with ⟨_,rfl⟩ | ⟨_,_,_,_,h5,_⟩
      ·simp only [h2,ht]
       exact (YP hs h3 h).done hs
      ·cases h5
    ·cases h
   ·split at h
    ·rename_i x y t t' hx ht
     rw [hx] at hargs
     rcases hargs.cases with ⟨h1,_⟩ | ⟨v,q,vs,qs,h1,h2,h3,h4⟩
     ·cases h1
     ·injection h1 with e1 e2
      subst e1 e2
      rcases h4.cases with ⟨h5,_⟩ | ⟨v2,q2,vs2,qs2,h5,h6,h7,h8⟩
      ·cases h5
      ·injection h5 with e1 e2
       subst e1 e2
       rcases h8.cases with ⟨_,rfl⟩ | ⟨_,_,_,_,h9,_⟩
       ·subst h6
        simp only [h2,ht]
        split at h
        ·rename_i htt
         have htt:t' = t:=by simpa using htt
         rw [if_pos htt]
         exact (PH hs h3 h7 h).1
        ·cases h
       ·cases h9
    ·cases h
   ·split at h
    ·rename_i x xs hx
     rw [hx] at hargs
     rcases hargs.cases with ⟨h1,_⟩ | ⟨v,q,vs,qs,h1,h2,h3,h4⟩
     ·cases h1
     ·injection h1 with e1 e2
      subst e1 e2
      split at h
      ·rename_i w hw
       obtain ⟨r,h5,h6⟩:=AW false xs x w q qs h3 h4 hw
       simp only [h2]
       exact ⟨_,.no,r,none,by simp [show tv q qs=some r from h5],h,lg hs h6,trivial,dV⟩
      ·cases h
    ·cases h
   ·split at h
    ·rename_i x xs hx
     rw [hx] at hargs
     rcases hargs.cases with ⟨h1,_⟩ | ⟨v,q,vs,qs,h1,h2,h3,h4⟩
     ·cases h1
     ·injection h1 with e1 e2
      subst e1 e2
      split at h
      ·rename_i w hw
       obtain ⟨r,h5,h6⟩:=AW true xs x w q qs h3 h4 hw
       simp only [h2]
       exact ⟨_,.no,r,none,by simp [show tz q qs=some r from h5],h,lg hs h6,trivial,dV⟩
      ·cases h
    ·cases h
   ·split at h
    ·rename_i x y t t' hx ht
     rw [hx] at hargs
     rcases hargs.cases with ⟨h1,_⟩ | ⟨v,q,vs,qs,h1,h2,h3,h4⟩
     ·cases h1
     ·injection h1 with e1 e2
      subst e1 e2
      rcases h4.cases with ⟨h5,_⟩ | ⟨v2,q2,vs2,qs2,h5,h6,h7,h8⟩
      ·cases h5
      ·injection h5 with e1 e2
       subst e1 e2
       rcases h8.cases with ⟨_,rfl⟩ | ⟨_,_,_,_,h9,_⟩
       ·subst h6
        simp only [h2,ht]
        exact Xg hs h3 h7 h
       ·cases h9
    ·cases h
   ·cases h
  ·cases h
 ·rename_i f ps qs
  have h1:=n7 hs ps.toList
  have h2:=n7 hs qs.toList
  exact ⟨_,.no,_,none,rfl,h,lg hs (.fn f _ _ _ _ h1.len h1.rep h2.len h2.rep),trivial,dV⟩
 ·rename_i t x y
  exact Wl hs h
 ·rename_i x
  exact (YI (bZ hs x) h).done hs
 ·cases h
def toC:(c:CT)→c.den→PV
 | .v t,x=>.d (qL t x).toD
 | .a i,x=>.ag ((stD i x).map .d)
 | .pl t,x=>.fe [(qL t x).toD]
 | .ps i,x=>.fe (stD i x)
def DX:(cs:List CT)→u6 cs→List PV
 | [],_=>[]
 | c::cs,x=>toC c x.1::DX cs x.2
def pD:(p:PT)→p.den→PV
 | .lf t,x=>.d (qL t x).toD
 | .ag i,x=>.ag ((stD i x).map .d)
 | .pl t,x=>.fe [(qL t x).toD]
 | .ps i,x=>.fe (stD i x)
 | .fn f a b,x=>.fn f (DX a x.1) (DX b x.2)
 | .own ..,_=>.junk
 | .mv ..,_=>.junk
 | .bx ..,_=>.junk
 | .agr ..,_=>.junk
 | .io _,_=>.junk
def rR:(ps:List PT)→ct ps→List PV
 | [],_=>[]
 | p::ps,x=>pD p x.1::rR ps x.2
def yq:(rs:List PT)→bc rs→List PV
 | [],_=>[]
 | [p],x=>[pD p x]
 | p::q::l,x=>pD p x.1::yq (q::l) x.2
def toR (rs:List PT) (x:bc rs) : PV:=match rs,x with
 | [p],x=>pD p x
 | rs,x=>.tup (yq rs x)
def ef (rows:List (Nat×Nat×Nat×Nat×Ty)) : Nat→List D→List PV
 | _,[]=>[]
 | j,d::ds=>(match pQ rows j with
  | some (R,_,_,_)=>(match d with | .sl es=>.row R es.length | .v _=>.junk)
  | none=>.d d)::ef rows (j + 1) ds
def ch (rows:List (Nat×Nat×Nat×Nat×Ty)) : Nat→List D→BU
 | _,[]=>[]
 | j,d::ds=>match pQ rows j with
  | some (R,e,k,_)=>(match d with | .sl es=>(R,.rw e k es)::ch rows (j + 1) ds | .v _=>ch rows (j + 1) ds)
  | none=>ch rows (j + 1) ds
def rwU (e k:Nat) (t:Ty) (xs:List t.den) : Box:=.rw e k (xs.map (bH t))
def toI:(p:PT)→List Nat→p.den→PV×BU
 | .own e k t,is,xs=>(match is with | [i]=>(.row i (show List t.den from xs).length,[(i,rwU e k t xs)]) | _=>(.junk,[]))
 | .mv e k t,is,xs=>(match is with | [i]=>(.row i (show List t.den from xs).length,[(i,rwU e k t xs)]) | _=>(.junk,[]))
 | .bx ty n rows,is,x=>(match is with | i::is=>(.ptr i 0,(i,.st ty (ef (mr rows is) 0 (stD n x)))::ch (mr rows is) 0 (stD n x)) | _=>(.junk,[]))
 | .agr n rows,is,x=>(.ag (ef (mr rows is) 0 (stD n x)),ch (mr rows is) 0 (stD n x))
 | .io _,_,_=>(.junk,[])
 | .lf t,_,x=>(pD (.lf t) x,[])
 | .ag i,_,x=>(pD (.ag i) x,[])
 | .pl t,_,x=>(pD (.pl t) x,[])
 | .ps i,_,x=>(pD (.ps i) x,[])
 | .fn f a b,_,x=>(pD (.fn f a b) x,[])
def dL:(ps:List PT)→List (List Nat)→ct ps→List PV×BU
 | [],_,_=>([],[])
 | p::ps,is::iss,x=>((toI p is x.1).1::(dL ps iss x.2).1,(toI p is x.1).2++(dL ps iss x.2).2)
 | _ :: _,[],_=>([],[])
def WF:Box→Box
 | .rw e k es=>.rw e k (es ++ [[]])
 | B=>B
def Cd (l:BU) : List Nat→BU
 | []=>[]
 | t::ts=>(t,match lkU l t with | some B=>WF B | none=>.st 0 [])::Cd l ts
def toO:(p:PT)→(b:IB)→List Nat→List Nat→p.den→b.den→BU
 | .own ..,.own e k t,is,_,_,xs=>(match is with | [i]=>[(i,rwU e k t xs)] | _=>[])
 | .bx ..,.bx ty n rows,is,js,_,x=>(match is with | i :: _=>(i,.st ty (ef (mr rows js) 0 (stD n x)))::ch (mr rows js) 0 (stD n x) | _=>[])
 | _,_,_,_,_,_=>[]
def ES:PT→List Nat→List Nat
 | .mv ..,is=>is
 | .bx ..,_ :: is=>is
 | _,_=>[]
def oO:List PT→List (List Nat)→List Nat
 | p::ps,is::iss=>ES p is++oO ps iss
 | _,_=>[]
def Ow:(ps:List PT)→(ls:List IB)→List (List Nat)→List (List Nat)→ct ps→yB ls→BU
 | p::ps,b::ls,is::iss,js::kss,x,o=>toO p b is js x.1 o.1++Ow ps ls iss kss x.2 o.2
 | _,_,_,_,_,_=>[]
def cT:(rs:List PT)→List (List Nat)→bc rs→List PV×BU
 | [p],is :: _,x=>([(toI p is x).1],(toI p is x).2)
 | p::q::l,is::iss,x=>((toI p is x.1).1::(cT (q::l) iss x.2).1,(toI p is x.1).2++(cT (q::l) iss x.2).2)
 | _,_,_=>([],[])
def yC:List PV→PV
 | [v]=>v
 | vs=>.tup vs
def aaP:(p:PT)→(b:IB)→p.den→b.den→Prop
 | .own _ _ t,.own _ _ t',x,o=>(show List t'.den from o).length=(show List t.den from x).length
 | _,_,_,_=>True
def Ml:(ps:List PT)→(ls:List IB)→ct ps→yB ls→Prop
 | p::ps,b::ls,x,o=>aaP p b x.1 o.1∧Ml ps ls x.2 o.2
 | _,_,_,_=>True
def iQ:List PT→List (List Nat)→Prop
 | [],[]=>True
 | p::ps,is::iss=>is.length=p.nI∧iQ ps iss
 | _,_=>False
def jZ:List IB→List (List Nat)→Prop
 | [],[]=>True
 | b::ls,js::kss=>js.length=b.nJ∧jZ ls kss
 | _,_=>False
def pN (ps rs:List PT) (iss kss jss:List (List Nat)) (x:ct ps) (r:bc rs) : BU:=Ow ps (cx rs) iss kss x (jN rs r)++((cT (eZ rs) jss (hZ rs r)).2++Cd (dL ps iss x).2 (oO ps iss))
def abb (P:Program) (f:FuncId) (ps rs:List PT) (x:ct ps) (r:bc rs) : Prop :=
 Ml ps (cx rs) x (jN rs r)∧∀ iss kss jss,iQ ps iss→jZ (cx rs) kss→iQ (eZ rs) jss→(br iss++(br kss++br jss)).Nodup→(∀ j∈br kss++br jss,j < 1000000)→(∀ i∈br iss,i∈bU (dL ps iss x).2)→dB P f=true ∧
  ∀ (w0:WM) (F0:Nat→Prop) (ρ : Nat→Value) (b:Nat→Option Box) (w:World) (F:Nat→Prop) (vs:Array Value) (args:List PV),dM args=(dL ps iss x).1→(∀ t B,lkU (dL ps iss x).2 t=some B→∃ B',b t=some B'∧sd B' = B)→(∀ t∈br kss++br jss,b t=none) →
   Inv w0 F0 ρ b w F→cJ ρ b w F vs.toList args→Calls P f vs w fun e w'=>∃ v ρ' F',e = .returned v∧Inv w0 F0 ρ' (dx b (pN ps rs iss kss jss x r)) w' F'∧Stp ρ b w F ρ' (dx b (pN ps rs iss kss jss x r)) w' F'∧aJ ρ' (dx b (pN ps rs iss kss jss x r)) w' F' v (yC (cT (eZ rs) jss (hZ rs r)).1)
def bO (P:Program) (f:FuncId) (ps rs:List PT) (F:ct ps→Option (bc rs)) : Prop:=∀ x r,F x=some r→((pa ps||pa rs)=false→PC P f (rR ps x) (toR rs r))∧((pa ps||pa rs)=true→abb P f ps rs x r)
def qZ (P:Program) (T:List (Nat×Ent)) : Prop:=∀ f vs en,lkE T f vs=some en→bO P f en.ps en.rs en.f
theorem qZ.nil:qZ P []:=fun f vs en h=>by cases h
theorem qZ.cons {T:List (Nat×Ent)} {f:FuncId} {ps rs:List PT} {F:ct ps→Option (bc rs)} (h:bO P f ps rs F) (hT:qZ P T) : qZ P ((f,⟨ps,rs,F⟩)::T):=by
 intro g vs en hg
 simp only [lkE,cY] at hg
 by_cases e:g=f
 ·subst e
  simp only [decide_true] at hg
  split at hg
  ·injection hg with hg
   subst hg
   exact h
  ·exact hT g vs en hg
 ·simp only [e,decide_false] at hg
  exact hT g vs en hg
theorem Dx {t:Ty} {c:SD} {x:t.den} (h:c.as t=some x) : (qL t x).toD=c.toD:=by
 have h1:=SD.as_ok h
 cases t with
 | st i=>simp [SD.as] at h
 | _=>simp only [bH,List.cons.injEq,and_true] at h1; exact h1
theorem Xa (hs:Sim s p) {t:Ty} {v:SV} {q:PV} {x:t.den} (hv:bf s.bx v q) (h:Y9 s t v=some x) : asData p.b q = .d (qL t x).toD∧(pJ v=true→clean q=true∧asData dY q = .d (qL t x).toD):=by
 unfold Y9 at h
 split at h
 ·rename_i c hc
  have:=W9 hs hv hc
  simp only [Dx h]
  exact this
 ·cases h
theorem aa5 (hs:Sim s p) {i:Nat} {v:SV} {q:PV} {x:ST i} (hv:bf s.bx v q) (h:Zc s i v=some x) : asData p.b q = .ag ((stD i x).map .d)∧(pJ v=true→clean q=true∧asData dY q = .ag ((stD i x).map .d)):=by
 unfold Zc at h
 split at h
 ·rename_i cs
  split at h
  ·rename_i ds hds
   obtain ⟨qs,rfl,hq⟩:=HA hv
   obtain ⟨h1,h2⟩:=SC hs hq hds
   have h3:=AH h
   have e:ds.map (fun c=>PV.d c.toD)=(stD i x).map .d:=by rw [← h3,List.map_map]; rfl
   refine ⟨by simp only [asData,h1,e],fun hn=>?_⟩
   obtain ⟨h4,h5⟩:=h2 hn
   exact ⟨by simpa [clean] using h4,by simp only [asData,h5,e]⟩
  ·cases h
 ·cases h
theorem aaW {cs:List SD} {q:PV} (b:Nat→Option Box) (hv:bf B (.fe cs) q) : asData b q = .fe (cs.map SD.toD)∧clean q=true:=by
 cases hv with
 | fe _ ds h hn=>subst h; exact ⟨rfl,rfl⟩
theorem TZ {t:Ty} {v:SV} {q:PV} {x:t.den} (b:Nat→Option Box) (hv:bf B v q) (h:SA t v=some x) : asData b q = .fe [(qL t x).toD]∧clean q=true:=by
 unfold SA at h
 split at h
 ·rename_i c
  have e:(qL t x).toD=c.toD:=Dx h
  rw [e]
  exact aaW b hv
 ·cases h
theorem TO {i:Nat} {v:SV} {q:PV} {x:ST i} (b:Nat→Option Box) (hv:bf B v q) (h:Sz i v=some x) : asData b q = .fe (stD i x)∧clean q=true:=by
 unfold Sz at h
 split at h
 ·rename_i cs
  rw [← AH h]
  exact aaW b hv
 ·cases h
theorem Zd (hs:Sim s p) {t:CT} {v:SV} {q:PV} {x:t.den} (hv:bf s.bx v q) (h:aa0 s t v=some x) : asData p.b q=toC t x∧(pJ v=true→clean q=true∧asData dY q=toC t x):=by
 cases t with
 | v t=>exact Xa hs hv h
 | a i=>exact aa5 hs hv h
 | pl t=>exact ⟨(TZ p.b hv h).1,fun _=>⟨(TZ p.b hv h).2,(TZ dY hv h).1⟩⟩
 | ps i=>exact ⟨(TO p.b hv h).1,fun _=>⟨(TO p.b hv h).2,(TO dY hv h).1⟩⟩
theorem Fx (hs:Sim s p) : ∀ {ps:List CT} {vs:List SV} {qs:List PV} {x:u6 ps},ca s.bx vs qs→M2 s ps vs=some x→bQ p.b qs=DX ps x∧(cz vs=true→cL qs=true∧bQ dY qs=DX ps x)
 | [],[],qs,x,hv,h=>by
  rcases hv.cases with ⟨_,rfl⟩ | ⟨_,_,_,_,h1,_⟩
  ·simp [bQ,DX,cL]
  ·cases h1
 | [],_ :: _,_,_,_,h=>by cases h
 | _ :: _,[],_,_,_,h=>by cases h
 | t::ps,v::vs,qs,x,hv,h=>by
  rcases hv.cases with ⟨h1,_⟩ | ⟨v',q,vs',qs',h1,rfl,h2,h3⟩
  ·cases h1
  ·injection h1 with e1 e2
   subst e1 e2
   simp only [M2] at h
   obtain ⟨y,h4,h5⟩:=cN h
   obtain ⟨ys,h6,h7⟩:=cN h5
   injection h7 with h7
   subst h7
   obtain ⟨m1,m2⟩:=Zd hs h2 h4
   obtain ⟨m3,m4⟩:=Fx hs h3 h6
   refine ⟨by simp [bQ,DX,m1,m3],fun hn=>?_⟩
   simp only [cz] at hn
   split at hn
   ·rename_i hn1
    obtain ⟨n1,n2⟩:=m2 hn1
    obtain ⟨n3,n4⟩:=m4 hn
    simp [bQ,cL,DX,n1,n2,n3,n4]
   ·cases hn
theorem Zt {f:FuncId} {ps qs:List SV} {q:PV} (h:bf B (.fn f ps qs) q) : ∃ ps' qs',q = .fn f ps' qs'∧ca B ps ps'∧ca B qs qs':=by
 cases h with
 | fn _ _ _ ps' qs' hl hr hl2 hr2=>exact ⟨ps',qs',rfl,⟨hl,hr⟩,hl2,hr2⟩
theorem Dy (hs:Sim s p) {t:PT} {v:SV} {q:PV} {x:t.den} (hv:bf s.bx v q) (h:M5 s t v=some x) : asData p.b q=pD t x∧(pJ v=true→clean q=true∧asData dY q=pD t x):=by
 cases t with
 | lf t=>exact Xa hs hv h
 | ag i=>exact aa5 hs hv h
 | pl t=>exact ⟨(TZ p.b hv h).1,fun _=>⟨(TZ p.b hv h).2,(TZ dY hv h).1⟩⟩
 | ps i=>exact ⟨(TO p.b hv h).1,fun _=>⟨(TO p.b hv h).2,(TO dY hv h).1⟩⟩
 | fn f a b =>
  have h:aam s f a b v=some x:=h
  unfold aam at h
  split at h
  ·rename_i f' ps qs
   split at h
   ·rename_i hf
    rw [cY] at hf
    have hf:=zd hf
    subst hf
    obtain ⟨y,h4,h5⟩:=cN h
    obtain ⟨ys,h6,h7⟩:=cN h5
    injection h7 with h7
    subst h7
    obtain ⟨ps',qs',rfl,k1,k2⟩:=Zt hv
    obtain ⟨m1,m2⟩:=Fx hs k1 h4
    obtain ⟨m3,m4⟩:=Fx hs k2 h6
    refine ⟨by simp only [asData,pD,m1,m3],fun hn=>?_⟩
    simp only [pJ] at hn
    split at hn
    ·rename_i hn1
     obtain ⟨n1,n2⟩:=m2 hn1
     obtain ⟨n3,n4⟩:=m4 hn
     exact ⟨by simp only [clean,n1,n3,Bool.and_self],by simp only [asData,pD,n2,n4]⟩
    ·cases hn
   ·cases h
  ·cases h
 | own=>exact dN (x:=x) h
 | mv=>exact dN (x:=x) h
 | bx=>exact dN (x:=x) h
 | agr=>exact dN (x:=x) h
 | io=>exact dN (x:=x) h
theorem M4 (hs:Sim s p) : ∀ {ps:List PT} {vs:List SV} {qs:List PV} {x:ct ps},ca s.bx vs qs→SB s ps vs=some x→bQ p.b qs=rR ps x∧(cz vs=true→cL qs=true∧bQ dY qs=rR ps x)
 | [],[],qs,x,hv,h=>by
  rcases hv.cases with ⟨_,rfl⟩ | ⟨_,_,_,_,h1,_⟩
  ·simp [bQ,rR,cL]
  ·cases h1
 | [],_ :: _,_,_,_,h=>by cases h
 | _ :: _,[],_,_,_,h=>by cases h
 | t::ps,v::vs,qs,x,hv,h=>by
  rcases hv.cases with ⟨h1,_⟩ | ⟨v',q,vs',qs',h1,rfl,h2,h3⟩
  ·cases h1
  ·injection h1 with e1 e2
   subst e1 e2
   simp only [SB] at h
   obtain ⟨y,h4,h5⟩:=cN h
   obtain ⟨ys,h6,h7⟩:=cN h5
   injection h7 with h7
   subst h7
   obtain ⟨m1,m2⟩:=Dy hs h2 h4
   obtain ⟨m3,m4⟩:=M4 hs h3 h6
   refine ⟨by simp [bQ,rR,m1,m3],fun hn=>?_⟩
   simp only [cz] at hn
   split at hn
   ·rename_i hn1
    obtain ⟨n1,n2⟩:=m2 hn1
    obtain ⟨n3,n4⟩:=m4 hn
    simp [bQ,cL,rR,n1,n2,n3,n4]
   ·cases hn
theorem JB (i:Nat) (x:ST i) : ca B (AY (stC i x)) ((stD i x).map .d):=by
 rw [← uy i x]
 exact EA _ (xh i x)
theorem Sn {t:Ty} (x:t.den) (h:∀ i,t≠.st i) : bf B (.fe [qL t x]) (.fe [(qL t x).toD]):=by
 refine .fe _ _ rfl fun c hc=>?_
 simp only [List.mem_cons,List.not_mem_nil,or_false] at hc
 subst hc
 cases t with
 | st i=>exact absurd rfl (h i)
 | _=>exact fun e=>by cases e
theorem W5:∀ (t:CT) (x:t.den),aa1 t=true→bf B (aaY t x) (toC t x)
 | .v (.int _),x,_=>fR _ _
 | .v .bool,x,_=>eY _
 | .v .str,x,_=>wL _
 | .v (.sl t),x,_=>Ot t x
 | .v (.st i),x,h=>by cases h
 | .a i,x,_=>.ag _ _ (JB (B:=B) i x).len (JB i x).rep
 | .pl t,x,h=>Sn x fun i e=>by subst e; cases h
 | .ps i,x,_=>.fe _ _ (uy i x).symm (xh i x)
theorem Bf:∀ (ps:List CT) (x:u6 ps),Fz ps=true→ca B (IJ ps x) (DX ps x)
 | [],_,_=>.nil
 | p::ps,x,h=>by
  simp only [Fz] at h
  split at h
  ·rename_i hp; exact .cons (W5 p x.1 hp) (Bf ps x.2 h)
  ·cases h
theorem yS:∀ (t:PT) (x:t.den),Tn t=true→bf B (T1 t x) (pD t x)
 | .lf (.int _),x,_=>fR _ _
 | .lf .bool,x,_=>eY _
 | .lf .str,x,_=>wL _
 | .lf (.sl t),x,_=>Ot t x
 | .lf (.st i),x,h=>by cases h
 | .ag i,x,_=>.ag _ _ (JB (B:=B) i x).len (JB i x).rep
 | .pl t,x,h=>Sn x fun i e=>by subst e; cases h
 | .ps i,x,_=>.fe _ _ (uy i x).symm (xh i x)
 | .fn f a b,x,h=>by
  have h:(match Fz a with | true=>Fz b | false=>false)=true:=h
  split at h
  ·rename_i h1
   have k1:=Bf (B:=B) a x.1 h1
   have k2:=Bf (B:=B) b x.2 h
   exact .fn f _ _ _ _ k1.len k1.rep k2.len k2.rep
  ·cases h
 | .own ..,x,h=>by cases h
 | .mv ..,x,h=>by cases h
 | .bx ..,x,h=>by cases h
 | .agr ..,x,h=>by cases h
 | .io _,x,h=>by cases h
theorem IK:∀ (ps:List PT) (x:ct ps),uI ps=true→ca B (Cj ps x) (rR ps x)
 | [],_,_=>.nil
 | p::ps,x,h=>by
  simp only [uI] at h
  split at h
  ·rename_i hp; exact .cons (yS p x.1 hp) (IK ps x.2 h)
  ·cases h
theorem Be:∀ (rs:List PT) (x:bc rs),uI rs=true→ca B (Sr rs x) (yq rs x)
 | [],_,_=>.nil
 | [p],x,h=>by
  simp only [uI] at h
  split at h
  ·rename_i hp; exact .cons (yS p x hp) .nil
  ·cases h
 | p::q::l,x,h=>by
  have h':Tn p=true∧uI (q::l)=true:=by
   rw [uI] at h
   split at h
   ·rename_i hp; exact ⟨hp,h⟩
   ·cases h
  exact .cons (yS p x.1 h'.1) (Be (q::l) x.2 h'.2)
theorem W4 (rs:List PT) (x:bc rs) (h:uI rs=true) : bf B (aaX rs x) (toR rs x):=by
 match rs,x,h with
 | [],x,h=>exact .tup _ _ rfl (fun j c q h1=>by simp [Sr] at h1)
 | [p],x,h =>
  have:=Be (B:=B) [p] x h
  exact this.head
 | p::q::l,x,h =>
  have:=Be (B:=B) (p::q::l) x h
  exact .tup _ _ this.len this.rep
theorem E0:∀ {ds:List D},(∀ d∈ds,∃ x,d = .v x)→uW (ds.map .d)=true
 | [],_=>rfl
 | d::ds,h=>by
  obtain ⟨x,rfl⟩:=h d List.mem_cons_self
  simp [uW,flat,E0 (fun d hd=>h d (List.mem_cons_of_mem _ hd))]
theorem Iw:∀ (t:PT) (x:t.den),t.flat=true→flat (pD t x)=true
 | .lf (.int _),_,_=>rfl
 | .lf .bool,_,_=>rfl
 | .lf .str,_,_=>rfl
 | .lf (.sl _),_,h=>by cases h
 | .lf (.st _),_,h=>by cases h
 | .ag i,x,h=>by
  simp only [pD,flat]
  exact E0 (ZW i x h)
 | .pl _,_,h=>by cases h
 | .ps _,_,h=>by cases h
 | .fn _ _ _,_,h=>by cases h
 | .own ..,_,h=>by cases h
 | .mv ..,_,h=>by cases h
 | .bx ..,_,h=>by cases h
 | .agr ..,_,h=>by cases h
 | .io _,_,h=>by cases h
theorem Iv:∀ (rs:List PT) (x:bc rs),qU rs=true→uW (yq rs x)=true
 | [],_,_=>rfl
 | [p],x,h=>by
  simp only [qU] at h
  split at h
  ·rename_i hp; simp [yq,uW,Iw p x hp]
  ·cases h
 | p::q::l,x,h=>by
  have h':p.flat=true∧qU (q::l)=true:=by
   rw [qU] at h
   split at h
   ·rename_i hp; exact ⟨hp,h⟩
   ·cases h
  simp [yq,uW,Iw p x.1 h'.1,Iv (q::l) x.2 h'.2]
theorem u5:∀ (ds:List D),cL (ds.map .d)=true
 | []=>rfl
 | d::ds=>by simp [cL,clean,u5 ds]
theorem Ug:∀ (t:CT) (x:t.den),clean (toC t x)=true
 | .v _,_=>rfl
 | .a i,x=>by simp [toC,clean,u5]
 | .pl _,_=>rfl
 | .ps _,_=>rfl
theorem FH:∀ (cs:List CT) (x:u6 cs),cL (DX cs x)=true
 | [],_=>rfl
 | c::cs,x=>by simp only [DX,cL,Ug c x.1,FH cs x.2,Bool.and_self]
theorem dR:∀ (t:PT) (x:t.den),clean (pD t x)=true
 | .lf _,_=>rfl
 | .ag i,x=>by simp [pD,clean,u5]
 | .pl _,_=>rfl
 | .ps _,_=>rfl
 | .fn _ a b,x=>by simp only [pD,clean,FH,Bool.and_self]
 | .own ..,_=>rfl
 | .mv ..,_=>rfl
 | .bx ..,_=>rfl
 | .agr ..,_=>rfl
 | .io _,_=>rfl
theorem FG:∀ (rs:List PT) (x:bc rs),cL (yq rs x)=true
 | [],_=>rfl
 | [p],x=>by simp only [yq,cL,Bool.and_true]; exact dR p x
 | p::q::l,x=>by simp only [yq,cL,Bool.and_eq_true]; exact ⟨dR p x.1,FG (q::l) x.2⟩
theorem rQ (rs:List PT) (x:bc rs) : (∃ p,yq rs x = [p]∧toR rs x=p)∨toR rs x = .tup (yq rs x):=by
 match rs,x with
 | [],x=>exact .inr rfl
 | [p],x=>exact .inl ⟨_,rfl,rfl⟩
 | p::q::l,x=>exact .inr rfl
theorem WT (rs:List PT) (x:bc rs) (h:qU rs=true) : flat (toR rs x)=true:=by
 have:=Iv rs x h
 rcases rQ rs x with ⟨p,h1,h2⟩ | h1
 ·rw [h1] at this
  rw [h2]
  simpa [uW] using this
 ·rw [h1]
  simpa [flat] using this
theorem Uf (rs:List PT) (x:bc rs) : clean (toR rs x)=true:=by
 have:=FG rs x
 rcases rQ rs x with ⟨p,h1,h2⟩ | h1
 ·rw [h1] at this
  rw [h2]
  simpa [cL] using this
 ·rw [h1]
  simpa [clean] using this
theorem Xl {T:List (Nat×Ent)} (hT:qZ P T) (hs:Sim s p) {f:Nat} {vs:List SV} {qs:List PV} (hM:TC T f vs=false) (hv:ca s.bx vs qs) {k:SV→Option ρ} {res : ρ} (h:SG T f s vs k=some res) : ∃ v r,Lq P f p.b qs r∧k v=some res∧bf s.bx v r:=by
 unfold SG at h
 split at h
 ·cases h
 ·rename_i en hen
  have h0:=(ao h).1
  replace h:=(ao h).2
  have h1:=(ao h).1
  replace h:=(ao h).2
  obtain ⟨x,h2,h⟩:=cN h
  obtain ⟨r,h3,h4⟩:=cN h
  obtain ⟨m1,m2⟩:=M4 hs hv h2
  have hc:=(hT f _ en hen x r h3).1 (by unfold TC at hM; rw [hen] at hM; exact hM)
  refine ⟨_,toR en.rs r,?_,h4,W4 en.rs r h0⟩
  simp only [Bool.or_eq_true] at h1
  rcases h1 with h1 | h1
  ·obtain ⟨n1,n2⟩:=m2 h1
   exact .inl ⟨n1,Uf _ _,by rw [n2]; exact hc⟩
  ·exact .inr ⟨WT _ _ h1,by rw [m1]; exact hc⟩
end
section
section
variable {P:Program} {n:Nat} {Qs:Exit→PS→Prop} {c:Code}
end
end
end Go.Proofs.YtmjkjaahbgikjaaGreat
