/- My texts, in one. -/
import Derived.Test.YtaknepbdbappdaaGreatZA
set_option linter.all false
set_option maxRecDepth 100000
set_option maxHeartbeats 4000000
namespace Go.Proofs.YtaknepbdbappdaaGreat
open Go.RowKit
open IntKind (i64)
open Go.Proofs.Tryz (prog)
section
section
variable {α σ τ S:Type}
theorem aM {f : σ→Option (σ⊕τ)} (I : σ→Prop) (μ : σ→Nat) (Q : τ→Prop) (h:∀ s,I s→(∃ s',f s=some (.inl s')∧I s'∧μ s' < μ s)∨(∃ r,f s=some (.inr r)∧Q r)) : ∀ (N:Nat) (s : σ),I s→μ s < N→∃ r,ah f N s=some r∧Q r
 | 0,s,_,hm=>absurd hm (Nat.not_lt_zero _)
 | N + 1,s,hI,hm=>by
  rcases h s hI with ⟨s',h1,h2,h3⟩ | ⟨r,h1,h2⟩
  ·obtain ⟨r,h4,h5⟩:=aM I μ Q h N s' h2 (by omega)
   exact ⟨r,by simp only [ah,h1]; exact h4,h5⟩
  ·exact ⟨r,by simp only [ah,h1],h2⟩
def bl (g : σ→α→Option (σ⊕τ)) (fin : σ→τ) : σ→List α→Option τ
 | a,[]=>some (fin a)
 | a,x::l=>match g a x with
  | none=>none
  | some (.inl a')=>bl g fin a' l
  | some (.inr r)=>some r
def nC (g : σ→Int→α→Option (σ⊕τ)) (fin : σ→τ) : σ→Nat→List α→Option τ
 | a,_,[]=>some (fin a)
 | a,k,x::l=>match g a (k:Int) x with
  | none=>none
  | some (.inl a')=>nC g fin a' (k + 1) l
  | some (.inr r)=>some r
theorem tO (l:List α) (mk : σ→Int→S) (f:S→Option (S⊕τ)) (g : σ→Int→α→Option (σ⊕τ)) (fin : σ→τ)
  (hstep:∀ (k:Nat) (a : σ) (x : α),l[k]? = some x→f (mk a (k:Int))=(g a (k:Int) x).map (fun o=>match o with | .inl a'=>.inl (mk a' ((k + 1:Nat) : Int)) | .inr r=>.inr r))
  (hend:∀ a,f (mk a (l.length:Int))=some (.inr (fin a))) : ∀ (N k:Nat) (a : σ),k≤l.length→l.length - k < N→ah f N (mk a (k:Int))=nC g fin a k (l.drop k)
 | 0,k,a,_,hN=>absurd hN (Nat.not_lt_zero _)
 | N + 1,k,a,hk,hN=>by
  by_cases hlt:k < l.length
  ·have hx:l[k]? = some l[k]:=zq hlt
   have hd:l.drop k=l[k] :: l.drop (k + 1):=(List.getElem_cons_drop hlt).symm
   rw [hd]
   simp only [ah,hstep k a _ hx,nC]
   cases hg:g a (k:Int) l[k] with
   | none=>rfl
   | some o =>
    cases o with
    | inl a'=>exact tO l mk f g fin hstep hend N (k + 1) a' hlt (by omega)
    | inr r=>rfl
  ·have:k=l.length:=by omega
   subst this
   simp only [ah,hend a,List.drop_length,nC]
theorem fa (l:List α) (mk : σ→Int→S) {f:S→Option (S⊕τ)} (g : σ→Int→α→Option (σ⊕τ)) (fin : σ→τ) {N:Nat} (hN:l.length < N)
  (hstep:∀ (k:Nat) (a : σ) (x : α),l[k]? = some x→f (mk a (k:Int))=(g a (k:Int) x).map (fun o=>match o with | .inl a'=>.inl (mk a' ((k + 1:Nat) : Int)) | .inr r=>.inr r))
  (hend:∀ a,f (mk a (l.length:Int))=some (.inr (fin a))) (a : σ) : ah f N (mk a 0)=nC g fin a 0 l:=by
 have:=tO l mk f g fin hstep hend N 0 a (Nat.zero_le _) (by omega)
 rwa [List.drop_zero] at this
theorem GW {β γ δ : Type} (o:Option β) (k : β→Option γ) (f : γ→δ) : (o.bind k).map f=o.bind fun x=>(k x).map f:=by cases o <;> rfl
theorem Ui {γ δ : Type} {c:Bool} (a b:Option γ) (f : γ→δ) : (if c=true then a else b).map f=if c=true then a.map f else b.map f:=by cases c <;> rfl
theorem Wv {β γ δ ε : Type} (o : β⊕γ) (a : β→Option δ) (b : γ→Option δ) (f : δ→ε) : (match o with | .inr y=>b y | .inl x=>a x).map f=match o with | .inr y=>(b y).map f | .inl x=>(a x).map f:=by cases o <;> rfl
theorem vZ (l:List α) (mk : σ→Int→S) (f:S→Option (S⊕τ)) (g : σ→α→Option (σ⊕τ)) (fin : σ→τ)
  (hstep:∀ (k:Nat) (a : σ) (x : α),l[k]? = some x→f (mk a (k:Int))=(g a x).map (fun o=>match o with | .inl a'=>.inl (mk a' ((k + 1:Nat) : Int)) | .inr r=>.inr r))
  (hend:∀ a,f (mk a (l.length:Int))=some (.inr (fin a))) : ∀ (N k:Nat) (a : σ),k≤l.length→l.length - k < N→ah f N (mk a (k:Int))=bl g fin a (l.drop k)
 | 0,k,a,_,hN=>absurd hN (Nat.not_lt_zero _)
 | N + 1,k,a,hk,hN=>by
  by_cases hlt:k < l.length
  ·have hx:l[k]? = some l[k]:=zq hlt
   have hd:l.drop k=l[k] :: l.drop (k + 1):=(List.getElem_cons_drop hlt).symm
   rw [hd]
   simp only [ah,hstep k a _ hx,bl]
   cases hg:g a l[k] with
   | none=>rfl
   | some o =>
    cases o with
    | inl a'=>exact vZ l mk f g fin hstep hend N (k + 1) a' hlt (by omega)
    | inr r=>rfl
  ·have:k=l.length:=by omega
   subst this
   simp only [ah,hend a,List.drop_length,bl]
theorem ax (l:List α) (mk : σ→Int→S) {f:S→Option (S⊕τ)} (g : σ→α→Option (σ⊕τ)) (fin : σ→τ) {N:Nat} (hN:l.length < N)
  (hstep:∀ (k:Nat) (a : σ) (x : α),l[k]? = some x→f (mk a (k:Int))=(g a x).map (fun o=>match o with | .inl a'=>.inl (mk a' ((k + 1:Nat) : Int)) | .inr r=>.inr r))
  (hend:∀ a,f (mk a (l.length:Int))=some (.inr (fin a))) (a : σ) : ah f N (mk a 0)=bl g fin a l:=by
 have:=vZ l mk f g fin hstep hend N 0 a (Nat.zero_le _) (by omega)
 rwa [List.drop_zero] at this
theorem vY (l:List α) (p : α→Bool) {f:Int→Option (Int⊕Int)} (hstep:∀ (k:Nat) (x : α),l[k]? = some x→f (k:Int)=if p x=true then some (.inl ((k + 1:Nat) : Int)) else some (.inr (k:Int))) (hend:f (l.length:Int)=some (.inr (l.length:Int))) :
  ∀ (N k:Nat),k≤l.length→l.length - k < N→ah f N (k:Int)=some ((k + ((l.drop k).takeWhile p).length:Nat) : Int)
 | 0,k,_,hN=>absurd hN (Nat.not_lt_zero _)
 | N + 1,k,hk,hN=>by
  by_cases hlt:k < l.length
  ·have hx:l[k]? = some l[k]:=zq hlt
   have hd:l.drop k=l[k] :: l.drop (k + 1):=(List.getElem_cons_drop hlt).symm
   simp only [ah,hstep k _ hx]
   rw [hd,List.takeWhile_cons]
   cases hp:p l[k] with
   | true =>
    simp only [if_true]
    rw [vY l p hstep hend N (k + 1) hlt (by omega)]
    simp only [List.length_cons]
    congr 2
    omega
   | false=>simp
  ·have:k=l.length:=by omega
   subst this
   simp only [ah,hend,List.drop_length,List.takeWhile_nil,List.length_nil,Nat.add_zero]
theorem DN (l:List α) (p : α→Bool) {f:Int→Option (Int⊕Int)} {N:Nat} (hN:l.length < N) (hstep:∀ (k:Nat) (x : α),l[k]? = some x→f (k:Int)=if p x=true then some (.inl ((k + 1:Nat) : Int)) else some (.inr (k:Int))) (hend:f (l.length:Int)=some (.inr (l.length:Int))) :
  ah f N 0=some ((l.takeWhile p).length:Int):=by
 have:=vY l p hstep hend N 0 (Nat.zero_le _) (by omega)
 simpa using this
theorem rU (p : α→Bool) (l:List α) : (l.takeWhile p).length≤l.length:=(List.takeWhile_sublist p).length_le
theorem pm {l:List α} {k:Nat} (h:k≤l.length) : hiO l (k:Int)=some (l.take k):=by
 unfold hiO
 rw [if_pos ⟨Int.natCast_nonneg k,by rw [zt]; exact h⟩,zt]
theorem lh {l:List α} {k:Nat} (h:k≤l.length) : loO l (k:Int)=some (l.drop k):=by
 unfold loO
 rw [if_pos ⟨Int.natCast_nonneg k,by rw [zt]; exact h⟩,zt]
theorem aD {l m:List α} (h:l.length + m.length≤1000000) : aW l m=some (l++m):=by unfold aW; rw [if_pos h]
theorem aV {g : σ→α→Option (σ⊕τ)} {fin : σ→τ} (I:Nat→σ→Prop) (Q : τ→Prop) : ∀ (l:List α) (k:Nat) (a : σ),(∀ (j:Nat) (a : σ) (x : α),l[j]? = some x→I (k + j) a→∃ o,g a x=some o∧(∀ a',o = .inl a'→I (k + j + 1) a')∧∀ r,o = .inr r→Q r)→(∀ a,I (k + l.length) a→Q (fin a))→I k a→∃ r,bl g fin a l=some r∧Q r
 | [],k,a,_,hf,hI=>⟨fin a,rfl,hf a hI⟩
 | x::l,k,a,h,hf,hI=>by
  obtain ⟨o,h1,h2,h3⟩:=h 0 a x rfl hI
  cases o with
  | inl a' =>
   obtain ⟨r,h4,h5⟩:=aV I Q l (k + 1) a' (fun j a x hj hI=>by
    have:=h (j + 1) a x hj (by rw [show k + (j + 1)=k + 1 + j by omega]; exact hI)
    rw [show k + (j + 1) + 1=k + 1 + j + 1 by omega] at this
    exact this) (fun a hI=>hf a (by rw [List.length_cons,show k + (l.length + 1)=k + 1 + l.length by omega]; exact hI)) (h2 a' rfl)
   exact ⟨r,by simp only [bl,h1]; exact h4,h5⟩
  | inr r=>exact ⟨r,by simp only [bl,h1],h3 r rfl⟩
theorem K8 {l:List α} {i:Int} (h0 : 0≤i) (h1:i < (l.length:Int)) : ∃ x,aw l i=some x∧x∈l:=by
 unfold aw
 rw [if_pos h0]
 have:i.toNat < l.length:=by omega
 exact ⟨l[i.toNat],zq this,List.getElem_mem this⟩
theorem orB (a b:Bool) : (if a=true then some true else some b)=some (a||b):=by cases a <;> rfl
theorem dM (a b:Bool) : (if a=true then some b else some false)=some (a&&b):=by cases a <;> rfl
theorem cj (p : α→Bool) (q : α→σ) {ρ : Type} (fin:List σ→ρ) : ∀ (l:List α) (acc:List σ),acc.length + l.length≤1000000→bl (fun acc x=>if p x=true then (aW acc [q x]).map (fun a=>(.inl a:List σ⊕ρ)) else some (.inl acc)) fin acc l=some (fin (acc++(l.filter p).map q))
 | [],acc,_=>by simp [bl]
 | x::l,acc,h=>by
  simp only [List.length_cons] at h
  simp only [bl,List.filter_cons]
  cases hp:p x with
  | true =>
   simp only [if_true,aD (show acc.length + [q x].length≤1000000 by simp; omega),Option.map_some]
   rw [cj p q fin l _ (by simp; omega)]
   simp
  | false=>simpa using cj p q fin l acc (by omega)
def cM (key : α→Int) (l:List α) (a : α) : List α :=
 l.take (l.takeWhile fun x=>decide (key x < key a)).length++a::l.drop (match l[(l.takeWhile fun x=>decide (key x < key a)).length]? with | some x=>if (key x==key a)=true then (l.takeWhile fun x=>decide (key x < key a)).length + 1 else (l.takeWhile fun x=>decide (key x < key a)).length | none=>(l.takeWhile fun x=>decide (key x < key a)).length)
theorem aN {l:List α} {k:Nat} {x : α} (h:l[k]? = some x) : aw l (k:Int)=some x:=by
 unfold aw
 rw [if_pos (Int.natCast_nonneg k),zt,h]
theorem ci {l:List α} {k:Nat} {x : α} (h:l[k]? = some x) : decide ((k:Int) < (l.length:Int))=true:=by
 have:=(zg.1 h).1
 simpa using this
theorem bU (l:List α) : decide ((l.length:Int) < (l.length:Int))=false:=by simp
theorem bm {k n:Nat} (h:k < n) (hn:n≤1000000) : i64.wrap ((k:Int) + 1)=((k + 1:Nat) : Int):=YG k (by omega)
theorem an {n:Nat} (h:n≤1000000) : n < ac:=by unfold ac; omega
theorem wH (h : σ→α→σ) (fin : σ→τ) : ∀ (l:List α) (a : σ),bl (fun a x=>some (.inl (h a x))) fin a l=some (fin (l.foldl h a))
 | [],_=>rfl
 | x::l,a=>wH h fin l (h a x)
theorem rZ (p : α→Bool) (q : α→τ) (d : τ) : ∀ l:List α,bl (fun (_:Unit) x=>if p x=true then some (.inr (q x)) else some (.inl ())) (fun _=>d) () l=some (((l.find? p).map q).getD d)
 | []=>rfl
 | x::l=>by
  simp only [bl,List.find?_cons]
  cases hp:p x with
  | true=>rfl
  | false=>simpa using rZ p q d l
end
theorem bE {α : Type} {a b:Option α} (h:a=b:=by (have hk:=(zg.1 hx).1; simp only [ci hx,if_true,aN hx,zb,bm hk hl,GW,Ui,Wv,Option.map_some]; all_goals (repeat (first | rfl | (refine congrArg (Option.bind _) (funext fun r_=>?_)) | (refine iteB ?_ ?_) | (cases r_ <;> rfl))))) : a=b:=h
theorem cA {α : Type} {a b:Option α} (h:a=b:=by simp only [bU,zf,if_false]) : a=b:=h
end
inductive Ty where
 | int (k:IntKind)
 | bool
 | str
 | sl (t:Ty)
 | st (i:Nat)
def Ty.same:(a b:Ty)→Option (PLift (a=b))
 | .int j,.int k=>if h:j=k then some ⟨by rw [h]⟩ else none
 | .bool,.bool=>some ⟨rfl⟩
 | .str,.str=>some ⟨rfl⟩
 | .sl a,.sl b=>match Ty.same a b with | some ⟨h⟩=>some ⟨by rw [h]⟩ | none=>none
 | .st i,.st j=>if h:i=j then some ⟨by rw [h]⟩ else none
 | _,_=>none
def lhO {α : Type} (l:List α) (a b:Int) : Option (List α):=if 0≤a∧0≤b∧a.toNat≤b.toNat∧b.toNat≤l.length then some ((l.drop a.toNat).take (b.toNat - a.toNat)) else none
def ST:Nat→Type
 | 0=>av
 | 1=>aJ
 | 2=>az
 | 3=>eu
 | 4=>aC
 | 5=>ay
 | 6=>ai
 | 7=>aB
 | 8=>a6
 | 9=>aH
 | 10=>bk
 | 11=>bt
 | 12=>aa
 | 15=>aQ
 | 16=>aE
 | 17=>a7
 | 18=>aj
 | _=>Unit
def Ty.den:Ty→Type
 | .int _=>Int
 | .bool=>Bool
 | .str=>ByteArray
 | .sl t=>List (Ty.den t)
 | .st i=>ST i
inductive SD where
 | int (k:IntKind) (x:Int)
 | bool (b:Bool)
 | str (s:ByteArray)
 | sl (t:Ty) (xs:List t.den)
 | nl
def stD:(i:Nat)→ST i→List D
 | 0,x=>av.d x
 | 1,x=>aJ.d x
 | 2,x=>az.d x
 | 3,x=>eu.d x
 | 4,x=>aC.d x
 | 5,x=>ay.d x
 | 6,x=>ai.d x
 | 7,x=>aB.d x
 | 8,x=>a6.d x
 | 9,x=>aH.d x
 | 10,x=>bk.d x
 | 11,x=>bt.d x
 | 12,x=>aa.d x
 | 15,x=>aQ.d x
 | 16,x=>aE.d x
 | 17,x=>a7.d x
 | 18,x=>aj.d x
 | 13,_=>[]
 | 14,_=>[]
 | _ + 19,_=>[]
def bJ:(t:Ty)→t.den→List D
 | .int k,x=>[.v (.int k x)]
 | .bool,x=>[.v (.bool x)]
 | .str,x=>[.v (.string x)]
 | .sl t,xs=>[.sl (List.map (bJ t) xs)]
 | .st i,x=>stD i x
def yp {t u:Ty} (h:t=u) (xs:List t.den) : List u.den:=h ▸ xs
def SD.toD:SD→D
 | .int k x=>.v (.int k x)
 | .bool x=>.v (.bool x)
 | .str x=>.v (.string x)
 | .sl t xs=>.sl (List.map (bJ t) xs)
 | .nl=>.sl []
def SD.as:(t:Ty)→SD→Option t.den
 | .int k,.int k' x=>if k' = k then some x else none
 | .bool,.bool x=>some x
 | .str,.str x=>some x
 | .sl t,.sl t' xs=>match Ty.same t' t with | some ⟨h⟩=>some (yp h xs) | none=>none
 | .sl t,.nl=>some ([] : List t.den)
 | _,_=>none
def qe:(t:Ty)→t.den→SD
 | .int k,x=>.int k x
 | .bool,x=>.bool x
 | .str,x=>.str x
 | .sl t,xs=>.sl t xs
 | .st _,_=>.nl
def stN:Nat→Nat
 | 0=>2
 | 1=>8
 | 2=>14
 | 3=>2
 | 4=>3
 | 5=>2
 | 6=>9
 | 7=>8
 | 8=>6
 | 9=>35
 | 10=>5
 | 11=>3
 | 12=>10
 | 15=>5
 | 16=>3
 | 17=>2
 | 18=>2
 | _=>0
def Zw:TypeId→Option Nat
 | 27=>some 0
 | 126=>some 1
 | 71=>some 2
 | 98=>some 3
 | 101=>some 4
 | 34=>some 5
 | 85=>some 6
 | 57=>some 7
 | 29=>some 8
 | 73=>some 9
 | 64=>some 10
 | 87=>some 11
 | 41=>some 12
 | 75=>some 15
 | 25=>some 16
 | 268=>some 17
 | 222=>some 18
 | _=>none
def stF:Nat→Bool
 | 0=>true
 | 1=>true
 | 2=>false
 | 3=>true
 | 4=>false
 | 5=>false
 | 6=>true
 | 7=>true
 | 8=>true
 | 9=>false
 | 10=>false
 | 11=>true
 | 12=>false
 | 15=>true
 | 16=>false
 | 17=>true
 | 18=>true
 | _=>true
def stC:(i:Nat)→ST i→List SD
 | 0,(x:av)=>[.int .i64 x.be,.int .i64 x.aF]
 | 1,(x:aJ)=>[.int .i64 x.bD,.int .i64 x.a8,.int .i64 x.bu.be,.int .i64 x.bu.aF,.int .i64 x.ja,.int .i64 x.bf,.int .i64 x.fV,.int .i64 x.ke]
 | 2,(x:az)=>[.int .i64 x.fId,.int .i64 x.ef,.str x.bO,.int .i64 x.eh,.int .i64 x.bD,.int .i64 x.bI.be,.int .i64 x.bI.aF,.sl (.st 1) x.bQ,.int .i64 x.cW,.int .i64 x.co,.sl (.int .i64) x.cr,.sl (.int .i64) x.i8,.sl (.int .i64) x.s7,.sl (.int .i64) x.tY]
 | 3,(x:eu)=>[.int .i64 x.mO,.int .i64 x.tX]
 | 4,(x:aC)=>[.str x.aK,.sl (.st 3) x.bA,.int .i64 x.eh]
 | 5,(x:ay)=>[.sl (.str) x.al,.sl (.st 4) x.ae]
 | 6,(x:ai)=>[.int .i64 x.fId,.int .i64 x.bz,.int .i64 x.bf,.int .i64 x.bu.be,.int .i64 x.bu.aF,.int .i64 x.bD,.int .i64 x.a8,.bool x.bI,.int .i64 x.jw]
 | 7,(x:aB)=>[.int .i64 x.fId,.int .i64 x.a8,.int .i64 x.fV,.int .i64 x.dY.be,.int .i64 x.dY.aF,.int .i64 x.cW,.int .i64 x.co,.bool x.fUp]
 | 8,(x:a6)=>[.int .i64 x.fId,.int .i64 x.a8,.int .i64 x.pw,.int .i64 x.lr,.int .i64 x.kP.be,.int .i64 x.kP.aF]
 | 9,(x:aH)=>[.int .i64 x.hZ,.int .i64 x.fId,.int .i64 x.co,.int .i64 x.fN,.str x.Lm,.int .i64 x.bf.fId,.int .i64 x.bf.a8,.int .i64 x.bf.fV,.int .i64 x.bf.dY.be,.int .i64 x.bf.dY.aF,.int .i64 x.bf.cW,.int .i64 x.bf.co,.bool x.bf.fUp,.int .i64 x.bz.fId,.int .i64 x.bz.ef,.str x.bz.bO,.int .i64 x.bz.eh,.int .i64 x.bz.bD,.int .i64 x.bz.bI.be,.int .i64 x.bz.bI.aF,.sl (.st 1) x.bz.bQ,.int .i64 x.bz.cW,.int .i64 x.bz.co,.sl (.int .i64) x.bz.cr,.sl (.int .i64) x.bz.i8,.sl (.int .i64) x.bz.s7,.sl (.int .i64) x.bz.tY,.sl (.st 1) x.bQ,.sl (.int .i64) x.fW,.int .i64 x.pv.fId,.int .i64 x.pv.a8,.int .i64 x.pv.pw,.int .i64 x.pv.lr,.int .i64 x.pv.kP.be,.int .i64 x.pv.kP.aF]
 | 10,(x:bk)=>[.int .i64 x.Yj,.sl (.st 6) x.ab,.sl (.int .i64) x.fW,.sl (.int .i64) x.Xx,.int .i64 x.fN]
 | 11,(x:bt)=>[.int .i64 x.bf,.int .i64 x.bz,.int .i64 x.bD]
 | 12,(x:aa)=>[.sl (.str) x.bL.al,.sl (.st 4) x.bL.ae,.sl (.st 7) x.ar,.sl (.st 2) x.ao,.sl (.st 6) x.ab,.sl (.st 11) x.aR,.sl (.st 8) x.bv,.int .i64 x.cP,.int .i64 x.eW,.int .i64 x.lu]
 | 15,(x:aQ)=>[.int .i64 x.hZ,.int .i64 x.fA,.int .i64 x.fB,.int .i64 x.fC,.int .i64 x.fD]
 | 16,(x:aE)=>[.int .i64 x.I0,.sl (.int .i64) x.fNs,.sl (.st 15) x.mp]
 | 17,(x:a7)=>[.int .i64 x.fA,.int .i64 x.fP]
 | 18,(x:aj)=>[.str x.aK,.int .i64 x.be]
 | 13,_=>[]
 | 14,_=>[]
 | _ + 19,_=>[]
def av.k:List SD→Option av
 | c0::c1 :: []=>Option.bind (c0.as (.int .i64)) fun x0=>Option.bind (c1.as (.int .i64)) fun x1=>some (⟨x0,x1⟩ : av)
 | _=>none
def aJ.k:List SD→Option aJ
 | c0::c1::c2::c3::c4::c5::c6::c7 :: []=>Option.bind (c0.as (.int .i64)) fun x0=>Option.bind (c1.as (.int .i64)) fun x1=>Option.bind (c2.as (.int .i64)) fun x2=>Option.bind (c3.as (.int .i64)) fun x3=>Option.bind (c4.as (.int .i64)) fun x4=>Option.bind (c5.as (.int .i64)) fun x5=>Option.bind (c6.as (.int .i64)) fun x6=>Option.bind (c7.as (.int .i64)) fun x7=>some (⟨x0,x1,⟨x2,x3⟩,x4,x5,x6,x7⟩ : aJ)
 | _=>none
def az.k:List SD→Option az
 | c0::c1::c2::c3::c4::c5::c6::c7::c8::c9::c10::c11::c12::c13 :: []=>Option.bind (c0.as (.int .i64)) fun x0=>Option.bind (c1.as (.int .i64)) fun x1=>Option.bind (c2.as (.str)) fun x2=>Option.bind (c3.as (.int .i64)) fun x3=>Option.bind (c4.as (.int .i64)) fun x4=>Option.bind (c5.as (.int .i64)) fun x5=>Option.bind (c6.as (.int .i64)) fun x6=>Option.bind (c7.as (.sl (.st 1))) fun x7=>Option.bind (c8.as (.int .i64)) fun x8=>Option.bind (c9.as (.int .i64)) fun x9=>Option.bind (c10.as (.sl (.int .i64))) fun x10=>Option.bind (c11.as (.sl (.int .i64))) fun x11=>Option.bind (c12.as (.sl (.int .i64))) fun x12=>Option.bind (c13.as (.sl (.int .i64))) fun x13=>some (⟨x0,x1,x2,x3,x4,⟨x5,x6⟩,x7,x8,x9,x10,x11,x12,x13⟩ : az)
 | _=>none
def eu.k:List SD→Option eu
 | c0::c1 :: []=>Option.bind (c0.as (.int .i64)) fun x0=>Option.bind (c1.as (.int .i64)) fun x1=>some (⟨x0,x1⟩ : eu)
 | _=>none
def aC.k:List SD→Option aC
 | c0::c1::c2 :: []=>Option.bind (c0.as (.str)) fun x0=>Option.bind (c1.as (.sl (.st 3))) fun x1=>Option.bind (c2.as (.int .i64)) fun x2=>some (⟨x0,x1,x2⟩ : aC)
 | _=>none
def ay.k:List SD→Option ay
 | c0::c1 :: []=>Option.bind (c0.as (.sl (.str))) fun x0=>Option.bind (c1.as (.sl (.st 4))) fun x1=>some (⟨x0,x1⟩ : ay)
 | _=>none
def ai.k:List SD→Option ai
 | c0::c1::c2::c3::c4::c5::c6::c7::c8 :: []=>Option.bind (c0.as (.int .i64)) fun x0=>Option.bind (c1.as (.int .i64)) fun x1=>Option.bind (c2.as (.int .i64)) fun x2=>Option.bind (c3.as (.int .i64)) fun x3=>Option.bind (c4.as (.int .i64)) fun x4=>Option.bind (c5.as (.int .i64)) fun x5=>Option.bind (c6.as (.int .i64)) fun x6=>Option.bind (c7.as (.bool)) fun x7=>Option.bind (c8.as (.int .i64)) fun x8=>some (⟨x0,x1,x2,⟨x3,x4⟩,x5,x6,x7,x8⟩ : ai)
 | _=>none
def aB.k:List SD→Option aB
 | c0::c1::c2::c3::c4::c5::c6::c7 :: []=>Option.bind (c0.as (.int .i64)) fun x0=>Option.bind (c1.as (.int .i64)) fun x1=>Option.bind (c2.as (.int .i64)) fun x2=>Option.bind (c3.as (.int .i64)) fun x3=>Option.bind (c4.as (.int .i64)) fun x4=>Option.bind (c5.as (.int .i64)) fun x5=>Option.bind (c6.as (.int .i64)) fun x6=>Option.bind (c7.as (.bool)) fun x7=>some (⟨x0,x1,x2,⟨x3,x4⟩,x5,x6,x7⟩ : aB)
 | _=>none
def a6.k:List SD→Option a6
 | c0::c1::c2::c3::c4::c5 :: []=>Option.bind (c0.as (.int .i64)) fun x0=>Option.bind (c1.as (.int .i64)) fun x1=>Option.bind (c2.as (.int .i64)) fun x2=>Option.bind (c3.as (.int .i64)) fun x3=>Option.bind (c4.as (.int .i64)) fun x4=>Option.bind (c5.as (.int .i64)) fun x5=>some (⟨x0,x1,x2,x3,⟨x4,x5⟩⟩ : a6)
 | _=>none
def aH.k:List SD→Option aH
 | c0::c1::c2::c3::c4::c5::c6::c7::c8::c9::c10::c11::c12::c13::c14::c15::c16::c17::c18::c19::c20::c21::c22::c23::c24::c25::c26::c27::c28::c29::c30::c31::c32::c33::c34 :: []=>Option.bind (c0.as (.int .i64)) fun x0=>Option.bind (c1.as (.int .i64)) fun x1=>Option.bind (c2.as (.int .i64)) fun x2=>Option.bind (c3.as (.int .i64)) fun x3=>Option.bind (c4.as (.str)) fun x4=>Option.bind (c5.as (.int .i64)) fun x5=>Option.bind (c6.as (.int .i64)) fun x6=>Option.bind (c7.as (.int .i64)) fun x7=>Option.bind (c8.as (.int .i64)) fun x8=>Option.bind (c9.as (.int .i64)) fun x9=>Option.bind (c10.as (.int .i64)) fun x10=>Option.bind (c11.as (.int .i64)) fun x11=>Option.bind (c12.as (.bool)) fun x12=>Option.bind (c13.as (.int .i64)) fun x13=>Option.bind (c14.as (.int .i64)) fun x14=>Option.bind (c15.as (.str)) fun x15=>Option.bind (c16.as (.int .i64)) fun x16=>Option.bind (c17.as (.int .i64)) fun x17=>Option.bind (c18.as (.int .i64)) fun x18=>Option.bind (c19.as (.int .i64)) fun x19=>Option.bind (c20.as (.sl (.st 1))) fun x20=>Option.bind (c21.as (.int .i64)) fun x21=>Option.bind (c22.as (.int .i64)) fun x22=>Option.bind (c23.as (.sl (.int .i64))) fun x23=>Option.bind (c24.as (.sl (.int .i64))) fun x24=>Option.bind (c25.as (.sl (.int .i64))) fun x25=>Option.bind (c26.as (.sl (.int .i64))) fun x26=>Option.bind (c27.as (.sl (.st 1))) fun x27=>Option.bind (c28.as (.sl (.int .i64))) fun x28=>Option.bind (c29.as (.int .i64)) fun x29=>Option.bind (c30.as (.int .i64)) fun x30=>Option.bind (c31.as (.int .i64)) fun x31=>Option.bind (c32.as (.int .i64)) fun x32=>Option.bind (c33.as (.int .i64)) fun x33=>Option.bind (c34.as (.int .i64)) fun x34=>some (⟨x0,x1,x2,x3,x4,⟨x5,x6,x7,⟨x8,x9⟩,x10,x11,x12⟩,⟨x13,x14,x15,x16,x17,⟨x18,x19⟩,x20,x21,x22,x23,x24,x25,x26⟩,x27,x28,⟨x29,x30,x31,x32,⟨x33,x34⟩⟩⟩ : aH)
 | _=>none
def bk.k:List SD→Option bk
 | c0::c1::c2::c3::c4 :: []=>Option.bind (c0.as (.int .i64)) fun x0=>Option.bind (c1.as (.sl (.st 6))) fun x1=>Option.bind (c2.as (.sl (.int .i64))) fun x2=>Option.bind (c3.as (.sl (.int .i64))) fun x3=>Option.bind (c4.as (.int .i64)) fun x4=>some (⟨x0,x1,x2,x3,x4⟩ : bk)
 | _=>none
def bt.k:List SD→Option bt
 | c0::c1::c2 :: []=>Option.bind (c0.as (.int .i64)) fun x0=>Option.bind (c1.as (.int .i64)) fun x1=>Option.bind (c2.as (.int .i64)) fun x2=>some (⟨x0,x1,x2⟩ : bt)
 | _=>none
def aa.k:List SD→Option aa
 | c0::c1::c2::c3::c4::c5::c6::c7::c8::c9 :: []=>Option.bind (c0.as (.sl (.str))) fun x0=>Option.bind (c1.as (.sl (.st 4))) fun x1=>Option.bind (c2.as (.sl (.st 7))) fun x2=>Option.bind (c3.as (.sl (.st 2))) fun x3=>Option.bind (c4.as (.sl (.st 6))) fun x4=>Option.bind (c5.as (.sl (.st 11))) fun x5=>Option.bind (c6.as (.sl (.st 8))) fun x6=>Option.bind (c7.as (.int .i64)) fun x7=>Option.bind (c8.as (.int .i64)) fun x8=>Option.bind (c9.as (.int .i64)) fun x9=>some (⟨⟨x0,x1⟩,x2,x3,x4,x5,x6,x7,x8,x9⟩ : aa)
 | _=>none
def aQ.k:List SD→Option aQ
 | c0::c1::c2::c3::c4 :: []=>Option.bind (c0.as (.int .i64)) fun x0=>Option.bind (c1.as (.int .i64)) fun x1=>Option.bind (c2.as (.int .i64)) fun x2=>Option.bind (c3.as (.int .i64)) fun x3=>Option.bind (c4.as (.int .i64)) fun x4=>some (⟨x0,x1,x2,x3,x4⟩ : aQ)
 | _=>none
def aE.k:List SD→Option aE
 | c0::c1::c2 :: []=>Option.bind (c0.as (.int .i64)) fun x0=>Option.bind (c1.as (.sl (.int .i64))) fun x1=>Option.bind (c2.as (.sl (.st 15))) fun x2=>some (⟨x0,x1,x2⟩ : aE)
 | _=>none
def a7.k:List SD→Option a7
 | c0::c1 :: []=>Option.bind (c0.as (.int .i64)) fun x0=>Option.bind (c1.as (.int .i64)) fun x1=>some (⟨x0,x1⟩ : a7)
 | _=>none
def aj.k:List SD→Option aj
 | c0::c1 :: []=>Option.bind (c0.as (.str)) fun x0=>Option.bind (c1.as (.int .i64)) fun x1=>some (⟨x0,x1⟩ : aj)
 | _=>none
def stK:(i:Nat)→List SD→Option (ST i)
 | 0,cs=>av.k cs
 | 1,cs=>aJ.k cs
 | 2,cs=>az.k cs
 | 3,cs=>eu.k cs
 | 4,cs=>aC.k cs
 | 5,cs=>ay.k cs
 | 6,cs=>ai.k cs
 | 7,cs=>aB.k cs
 | 8,cs=>a6.k cs
 | 9,cs=>aH.k cs
 | 10,cs=>bk.k cs
 | 11,cs=>bt.k cs
 | 12,cs=>aa.k cs
 | 15,cs=>aQ.k cs
 | 16,cs=>aE.k cs
 | 17,cs=>a7.k cs
 | 18,cs=>aj.k cs
 | 13,_=>none
 | 14,_=>none
 | _ + 19,_=>none
theorem SD.as_ok {t:Ty} {c:SD} {x:t.den} (h:c.as t=some x) : bJ t x = [c.toD]:=by
 unfold SD.as at h
 split at h
 ·split at h
  ·rename_i hk
   subst hk
   injection h with h
   subst h
   rfl
  ·cases h
 ·injection h with h
  subst h
  rfl
 ·injection h with h
  subst h
  rfl
 ·split at h
  ·rename_i hk _
   subst hk
   injection h with h
   subst h
   rfl
  ·cases h
 ·injection h with h
  subst h
  rfl
 ·cases h
theorem tA:∀ (i:Nat) (x:ST i),(stC i x).map SD.toD=stD i x
 | 0,(x:av)=>rfl
 | 1,(x:aJ)=>rfl
 | 2,(x:az)=>rfl
 | 3,(x:eu)=>rfl
 | 4,(x:aC)=>rfl
 | 5,(x:ay)=>rfl
 | 6,(x:ai)=>rfl
 | 7,(x:aB)=>rfl
 | 8,(x:a6)=>rfl
 | 9,(x:aH)=>rfl
 | 10,(x:bk)=>rfl
 | 11,(x:bt)=>rfl
 | 12,(x:aa)=>rfl
 | 15,(x:aQ)=>rfl
 | 16,(x:aE)=>rfl
 | 17,(x:a7)=>rfl
 | 18,(x:aj)=>rfl
 | 13,_=>rfl
 | 14,_=>rfl
 | _ + 19,_=>rfl
theorem wB:∀ (i:Nat) (x:ST i) (c:SD),c∈stC i x→c≠.nl
 | 0,(x:av),c,h=>by
  simp only [stC,List.mem_cons,List.not_mem_nil,or_false] at h
  rcases h with rfl | rfl <;> (intro e; cases e)
 | 1,(x:aJ),c,h=>by
  simp only [stC,List.mem_cons,List.not_mem_nil,or_false] at h
  rcases h with rfl | rfl | rfl | rfl | rfl | rfl | rfl | rfl <;> (intro e; cases e)
 | 2,(x:az),c,h=>by
  simp only [stC,List.mem_cons,List.not_mem_nil,or_false] at h
  rcases h with rfl | rfl | rfl | rfl | rfl | rfl | rfl | rfl | rfl | rfl | rfl | rfl | rfl | rfl <;> (intro e; cases e)
 | 3,(x:eu),c,h=>by
  simp only [stC,List.mem_cons,List.not_mem_nil,or_false] at h
  rcases h with rfl | rfl <;> (intro e; cases e)
 | 4,(x:aC),c,h=>by
  simp only [stC,List.mem_cons,List.not_mem_nil,or_false] at h
  rcases h with rfl | rfl | rfl <;> (intro e; cases e)
 | 5,(x:ay),c,h=>by
  simp only [stC,List.mem_cons,List.not_mem_nil,or_false] at h
  rcases h with rfl | rfl <;> (intro e; cases e)
 | 6,(x:ai),c,h=>by
  simp only [stC,List.mem_cons,List.not_mem_nil,or_false] at h
  rcases h with rfl | rfl | rfl | rfl | rfl | rfl | rfl | rfl | rfl <;> (intro e; cases e)
 | 7,(x:aB),c,h=>by
  simp only [stC,List.mem_cons,List.not_mem_nil,or_false] at h
  rcases h with rfl | rfl | rfl | rfl | rfl | rfl | rfl | rfl <;> (intro e; cases e)
 | 8,(x:a6),c,h=>by
  simp only [stC,List.mem_cons,List.not_mem_nil,or_false] at h
  rcases h with rfl | rfl | rfl | rfl | rfl | rfl <;> (intro e; cases e)
 | 9,(x:aH),c,h=>by
  simp only [stC,List.mem_cons,List.not_mem_nil,or_false] at h
  rcases h with rfl | rfl | rfl | rfl | rfl | rfl | rfl | rfl | rfl | rfl | rfl | rfl | rfl | rfl | rfl | rfl | rfl | rfl | rfl | rfl | rfl | rfl | rfl | rfl | rfl | rfl | rfl | rfl | rfl | rfl | rfl | rfl | rfl | rfl | rfl <;> (intro e; cases e)
 | 10,(x:bk),c,h=>by
  simp only [stC,List.mem_cons,List.not_mem_nil,or_false] at h
  rcases h with rfl | rfl | rfl | rfl | rfl <;> (intro e; cases e)
 | 11,(x:bt),c,h=>by
  simp only [stC,List.mem_cons,List.not_mem_nil,or_false] at h
  rcases h with rfl | rfl | rfl <;> (intro e; cases e)
 | 12,(x:aa),c,h=>by
  simp only [stC,List.mem_cons,List.not_mem_nil,or_false] at h
  rcases h with rfl | rfl | rfl | rfl | rfl | rfl | rfl | rfl | rfl | rfl <;> (intro e; cases e)
 | 15,(x:aQ),c,h=>by
  simp only [stC,List.mem_cons,List.not_mem_nil,or_false] at h
  rcases h with rfl | rfl | rfl | rfl | rfl <;> (intro e; cases e)
 | 16,(x:aE),c,h=>by
  simp only [stC,List.mem_cons,List.not_mem_nil,or_false] at h
  rcases h with rfl | rfl | rfl <;> (intro e; cases e)
 | 17,(x:a7),c,h=>by
  simp only [stC,List.mem_cons,List.not_mem_nil,or_false] at h
  rcases h with rfl | rfl <;> (intro e; cases e)
 | 18,(x:aj),c,h=>by
  simp only [stC,List.mem_cons,List.not_mem_nil,or_false] at h
  rcases h with rfl | rfl <;> (intro e; cases e)
 | 13,_,c,h=>by cases h
 | 14,_,c,h=>by cases h
 | _ + 19,_,c,h=>by cases h
theorem V8:∀ (i:Nat) (x:ST i),(stD i x).length=stN i
 | 0,(x:av)=>rfl
 | 1,(x:aJ)=>rfl
 | 2,(x:az)=>rfl
 | 3,(x:eu)=>rfl
 | 4,(x:aC)=>rfl
 | 5,(x:ay)=>rfl
 | 6,(x:ai)=>rfl
 | 7,(x:aB)=>rfl
 | 8,(x:a6)=>rfl
 | 9,(x:aH)=>rfl
 | 10,(x:bk)=>rfl
 | 11,(x:bt)=>rfl
 | 12,(x:aa)=>rfl
 | 15,(x:aQ)=>rfl
 | 16,(x:aE)=>rfl
 | 17,(x:a7)=>rfl
 | 18,(x:aj)=>rfl
 | 13,_=>rfl
 | 14,_=>rfl
 | _ + 19,_=>rfl
theorem XQ:∀ (i:Nat) (x:ST i),stF i=true→∀ d∈stD i x,∃ y,d = .v y
 | 0,(x:av),_,d,h=>by
  simp only [stD,av.d,List.mem_cons,List.not_mem_nil,or_false] at h
  rcases h with rfl | rfl <;> exact ⟨_,rfl⟩
 | 1,(x:aJ),_,d,h=>by
  simp only [stD,aJ.d,List.mem_cons,List.not_mem_nil,or_false] at h
  rcases h with rfl | rfl | rfl | rfl | rfl | rfl | rfl | rfl <;> exact ⟨_,rfl⟩
 | 2,(x:az),h,_,_=>by cases h
 | 3,(x:eu),_,d,h=>by
  simp only [stD,eu.d,List.mem_cons,List.not_mem_nil,or_false] at h
  rcases h with rfl | rfl <;> exact ⟨_,rfl⟩
 | 4,(x:aC),h,_,_=>by cases h
 | 5,(x:ay),h,_,_=>by cases h
 | 6,(x:ai),_,d,h=>by
  simp only [stD,ai.d,List.mem_cons,List.not_mem_nil,or_false] at h
  rcases h with rfl | rfl | rfl | rfl | rfl | rfl | rfl | rfl | rfl <;> exact ⟨_,rfl⟩
 | 7,(x:aB),_,d,h=>by
  simp only [stD,aB.d,List.mem_cons,List.not_mem_nil,or_false] at h
  rcases h with rfl | rfl | rfl | rfl | rfl | rfl | rfl | rfl <;> exact ⟨_,rfl⟩
 | 8,(x:a6),_,d,h=>by
  simp only [stD,a6.d,List.mem_cons,List.not_mem_nil,or_false] at h
  rcases h with rfl | rfl | rfl | rfl | rfl | rfl <;> exact ⟨_,rfl⟩
 | 9,(x:aH),h,_,_=>by cases h
 | 10,(x:bk),h,_,_=>by cases h
 | 11,(x:bt),_,d,h=>by
  simp only [stD,bt.d,List.mem_cons,List.not_mem_nil,or_false] at h
  rcases h with rfl | rfl | rfl <;> exact ⟨_,rfl⟩
 | 12,(x:aa),h,_,_=>by cases h
 | 15,(x:aQ),_,d,h=>by
  simp only [stD,aQ.d,List.mem_cons,List.not_mem_nil,or_false] at h
  rcases h with rfl | rfl | rfl | rfl | rfl <;> exact ⟨_,rfl⟩
 | 16,(x:aE),h,_,_=>by cases h
 | 17,(x:a7),_,d,h=>by
  simp only [stD,a7.d,List.mem_cons,List.not_mem_nil,or_false] at h
  rcases h with rfl | rfl <;> exact ⟨_,rfl⟩
 | 18,(x:aj),_,d,h=>by
  simp only [stD,aj.d,List.mem_cons,List.not_mem_nil,or_false] at h
  rcases h with rfl | rfl <;> exact ⟨_,rfl⟩
 | 13,_,_,_,h=>by cases h
 | 14,_,_,_,h=>by cases h
 | _ + 19,_,_,_,h=>by cases h
theorem cG {α β : Type} {o:Option α} {k : α→Option β} {r : β} (h:o.bind k=some r) : ∃ x,o=some x∧k x=some r:=by
 cases o with
 | none=>cases h
 | some x=>exact ⟨x,rfl,h⟩
theorem aO {t:Ty} {c:SD} {β : Type} {k:t.den→Option β} {r : β} (h:(c.as t).bind k=some r) : ∃ x,bJ t x = [c.toD]∧k x=some r:=by
 obtain ⟨x,h1,h2⟩:=cG h
 exact ⟨x,SD.as_ok h1,h2⟩
theorem av.k_ok {cs:List SD} {x:av} (h:av.k cs=some x) : cs.map SD.toD=av.d x:=by
 unfold av.k at h
 split at h
 ·rename_i c0 c1
  obtain ⟨x0,q0,h⟩:=aO h
  obtain ⟨x1,q1,h⟩:=aO h
  injection h with h
  subst h
  simp only [bJ,List.cons.injEq,and_true] at q0 q1
  simp only [List.map_cons,List.map_nil,av.d,← q0,← q1]
  try rfl
 ·cases h
theorem aJ.k_ok {cs:List SD} {x:aJ} (h:aJ.k cs=some x) : cs.map SD.toD=aJ.d x:=by
 unfold aJ.k at h
 split at h
 ·rename_i c0 c1 c2 c3 c4 c5 c6 c7
  obtain ⟨x0,q0,h⟩:=aO h
  obtain ⟨x1,q1,h⟩:=aO h
  obtain ⟨x2,q2,h⟩:=aO h
  obtain ⟨x3,q3,h⟩:=aO h
  obtain ⟨x4,q4,h⟩:=aO h
  obtain ⟨x5,q5,h⟩:=aO h
  obtain ⟨x6,q6,h⟩:=aO h
  obtain ⟨x7,q7,h⟩:=aO h
  injection h with h
  subst h
  simp only [bJ,List.cons.injEq,and_true] at q0 q1 q2 q3 q4 q5 q6 q7
  simp only [List.map_cons,List.map_nil,aJ.d,← q0,← q1,← q2,← q3,← q4,← q5,← q6,← q7]
  try rfl
 ·cases h
theorem az.k_ok {cs:List SD} {x:az} (h:az.k cs=some x) : cs.map SD.toD=az.d x:=by
 unfold az.k at h
 split at h
 ·rename_i c0 c1 c2 c3 c4 c5 c6 c7 c8 c9 c10 c11 c12 c13
  obtain ⟨x0,q0,h⟩:=aO h
  obtain ⟨x1,q1,h⟩:=aO h
  obtain ⟨x2,q2,h⟩:=aO h
  obtain ⟨x3,q3,h⟩:=aO h
  obtain ⟨x4,q4,h⟩:=aO h
  obtain ⟨x5,q5,h⟩:=aO h
  obtain ⟨x6,q6,h⟩:=aO h
  obtain ⟨x7,q7,h⟩:=aO h
  obtain ⟨x8,q8,h⟩:=aO h
  obtain ⟨x9,q9,h⟩:=aO h
  obtain ⟨x10,q10,h⟩:=aO h
  obtain ⟨x11,q11,h⟩:=aO h
  obtain ⟨x12,q12,h⟩:=aO h
  obtain ⟨x13,q13,h⟩:=aO h
  injection h with h
  subst h
  simp only [bJ,List.cons.injEq,and_true] at q0 q1 q2 q3 q4 q5 q6 q7 q8 q9 q10 q11 q12 q13
  simp only [List.map_cons,List.map_nil,az.d,← q0,← q1,← q2,← q3,← q4,← q5,← q6,← q7,← q8,← q9,← q10,← q11,← q12,← q13]
  try rfl
 ·cases h
theorem eu.k_ok {cs:List SD} {x:eu} (h:eu.k cs=some x) : cs.map SD.toD=eu.d x:=by
 unfold eu.k at h
 split at h
 ·rename_i c0 c1
  obtain ⟨x0,q0,h⟩:=aO h
  obtain ⟨x1,q1,h⟩:=aO h
  injection h with h
  subst h
  simp only [bJ,List.cons.injEq,and_true] at q0 q1
  simp only [List.map_cons,List.map_nil,eu.d,← q0,← q1]
  try rfl
 ·cases h
theorem aC.k_ok {cs:List SD} {x:aC} (h:aC.k cs=some x) : cs.map SD.toD=aC.d x:=by
 unfold aC.k at h
 split at h
 ·rename_i c0 c1 c2
  obtain ⟨x0,q0,h⟩:=aO h
  obtain ⟨x1,q1,h⟩:=aO h
  obtain ⟨x2,q2,h⟩:=aO h
  injection h with h
  subst h
  simp only [bJ,List.cons.injEq,and_true] at q0 q1 q2
  simp only [List.map_cons,List.map_nil,aC.d,← q0,← q1,← q2]
  try rfl
 ·cases h
theorem ay.k_ok {cs:List SD} {x:ay} (h:ay.k cs=some x) : cs.map SD.toD=ay.d x:=by
 unfold ay.k at h
 split at h
 ·rename_i c0 c1
  obtain ⟨x0,q0,h⟩:=aO h
  obtain ⟨x1,q1,h⟩:=aO h
  injection h with h
  subst h
  simp only [bJ,List.cons.injEq,and_true] at q0 q1
  simp only [List.map_cons,List.map_nil,ay.d,← q0,← q1]
  try rfl
 ·cases h
theorem ai.k_ok {cs:List SD} {x:ai} (h:ai.k cs=some x) : cs.map SD.toD=ai.d x:=by
 unfold ai.k at h
 split at h
 ·rename_i c0 c1 c2 c3 c4 c5 c6 c7 c8
  obtain ⟨x0,q0,h⟩:=aO h
  obtain ⟨x1,q1,h⟩:=aO h
  obtain ⟨x2,q2,h⟩:=aO h
  obtain ⟨x3,q3,h⟩:=aO h
  obtain ⟨x4,q4,h⟩:=aO h
  obtain ⟨x5,q5,h⟩:=aO h
  obtain ⟨x6,q6,h⟩:=aO h
  obtain ⟨x7,q7,h⟩:=aO h
  obtain ⟨x8,q8,h⟩:=aO h
  injection h with h
  subst h
  simp only [bJ,List.cons.injEq,and_true] at q0 q1 q2 q3 q4 q5 q6 q7 q8
  simp only [List.map_cons,List.map_nil,ai.d,← q0,← q1,← q2,← q3,← q4,← q5,← q6,← q7,← q8]
  try rfl
 ·cases h
theorem aB.k_ok {cs:List SD} {x:aB} (h:aB.k cs=some x) : cs.map SD.toD=aB.d x:=by
 unfold aB.k at h
 split at h
 ·rename_i c0 c1 c2 c3 c4 c5 c6 c7
  obtain ⟨x0,q0,h⟩:=aO h
  obtain ⟨x1,q1,h⟩:=aO h
  obtain ⟨x2,q2,h⟩:=aO h
  obtain ⟨x3,q3,h⟩:=aO h
  obtain ⟨x4,q4,h⟩:=aO h
  obtain ⟨x5,q5,h⟩:=aO h
  obtain ⟨x6,q6,h⟩:=aO h
  obtain ⟨x7,q7,h⟩:=aO h
  injection h with h
  subst h
  simp only [bJ,List.cons.injEq,and_true] at q0 q1 q2 q3 q4 q5 q6 q7
  simp only [List.map_cons,List.map_nil,aB.d,← q0,← q1,← q2,← q3,← q4,← q5,← q6,← q7]
  try rfl
 ·cases h
theorem a6.k_ok {cs:List SD} {x:a6} (h:a6.k cs=some x) : cs.map SD.toD=a6.d x:=by
 unfold a6.k at h
 split at h
 ·rename_i c0 c1 c2 c3 c4 c5
  obtain ⟨x0,q0,h⟩:=aO h
  obtain ⟨x1,q1,h⟩:=aO h
  obtain ⟨x2,q2,h⟩:=aO h
  obtain ⟨x3,q3,h⟩:=aO h
  obtain ⟨x4,q4,h⟩:=aO h
  obtain ⟨x5,q5,h⟩:=aO h
  injection h with h
  subst h
  simp only [bJ,List.cons.injEq,and_true] at q0 q1 q2 q3 q4 q5
  simp only [List.map_cons,List.map_nil,a6.d,← q0,← q1,← q2,← q3,← q4,← q5]
  try rfl
 ·cases h
theorem aH.k_ok {cs:List SD} {x:aH} (h:aH.k cs=some x) : cs.map SD.toD=aH.d x:=by
 unfold aH.k at h
 split at h
 ·rename_i c0 c1 c2 c3 c4 c5 c6 c7 c8 c9 c10 c11 c12 c13 c14 c15 c16 c17 c18 c19 c20 c21 c22 c23 c24 c25 c26 c27 c28 c29 c30 c31 c32 c33 c34
  obtain ⟨x0,q0,h⟩:=aO h
  obtain ⟨x1,q1,h⟩:=aO h
  obtain ⟨x2,q2,h⟩:=aO h
  obtain ⟨x3,q3,h⟩:=aO h
  obtain ⟨x4,q4,h⟩:=aO h
  obtain ⟨x5,q5,h⟩:=aO h
  obtain ⟨x6,q6,h⟩:=aO h
  obtain ⟨x7,q7,h⟩:=aO h
  obtain ⟨x8,q8,h⟩:=aO h
  obtain ⟨x9,q9,h⟩:=aO h
  obtain ⟨x10,q10,h⟩:=aO h
  obtain ⟨x11,q11,h⟩:=aO h
  obtain ⟨x12,q12,h⟩:=aO h
  obtain ⟨x13,q13,h⟩:=aO h
  obtain ⟨x14,q14,h⟩:=aO h
  obtain ⟨x15,q15,h⟩:=aO h
  obtain ⟨x16,q16,h⟩:=aO h
  obtain ⟨x17,q17,h⟩:=aO h
  obtain ⟨x18,q18,h⟩:=aO h
  obtain ⟨x19,q19,h⟩:=aO h
  obtain ⟨x20,q20,h⟩:=aO h
  obtain ⟨x21,q21,h⟩:=aO h
  obtain ⟨x22,q22,h⟩:=aO h
  obtain ⟨x23,q23,h⟩:=aO h
  obtain ⟨x24,q24,h⟩:=aO h
  obtain ⟨x25,q25,h⟩:=aO h
  obtain ⟨x26,q26,h⟩:=aO h
  obtain ⟨x27,q27,h⟩:=aO h
  obtain ⟨x28,q28,h⟩:=aO h
  obtain ⟨x29,q29,h⟩:=aO h
  obtain ⟨x30,q30,h⟩:=aO h
  obtain ⟨x31,q31,h⟩:=aO h
  obtain ⟨x32,q32,h⟩:=aO h
  obtain ⟨x33,q33,h⟩:=aO h
  obtain ⟨x34,q34,h⟩:=aO h
  injection h with h
  subst h
  simp only [bJ,List.cons.injEq,and_true] at q0 q1 q2 q3 q4 q5 q6 q7 q8 q9 q10 q11 q12 q13 q14 q15 q16 q17 q18 q19 q20 q21 q22 q23 q24 q25 q26 q27 q28 q29 q30 q31 q32 q33 q34
  simp only [List.map_cons,List.map_nil,aH.d,← q0,← q1,← q2,← q3,← q4,← q5,← q6,← q7,← q8,← q9,← q10,← q11,← q12,← q13,← q14,← q15,← q16,← q17,← q18,← q19,← q20,← q21,← q22,← q23,← q24,← q25,← q26,← q27,← q28,← q29,← q30,← q31,← q32,← q33,← q34]
  try rfl
 ·cases h
theorem bk.k_ok {cs:List SD} {x:bk} (h:bk.k cs=some x) : cs.map SD.toD=bk.d x:=by
 unfold bk.k at h
 split at h
 ·rename_i c0 c1 c2 c3 c4
  obtain ⟨x0,q0,h⟩:=aO h
  obtain ⟨x1,q1,h⟩:=aO h
  obtain ⟨x2,q2,h⟩:=aO h
  obtain ⟨x3,q3,h⟩:=aO h
  obtain ⟨x4,q4,h⟩:=aO h
  injection h with h
  subst h
  simp only [bJ,List.cons.injEq,and_true] at q0 q1 q2 q3 q4
  simp only [List.map_cons,List.map_nil,bk.d,← q0,← q1,← q2,← q3,← q4]
  try rfl
 ·cases h
theorem bt.k_ok {cs:List SD} {x:bt} (h:bt.k cs=some x) : cs.map SD.toD=bt.d x:=by
 unfold bt.k at h
 split at h
 ·rename_i c0 c1 c2
  obtain ⟨x0,q0,h⟩:=aO h
  obtain ⟨x1,q1,h⟩:=aO h
  obtain ⟨x2,q2,h⟩:=aO h
  injection h with h
  subst h
  simp only [bJ,List.cons.injEq,and_true] at q0 q1 q2
  simp only [List.map_cons,List.map_nil,bt.d,← q0,← q1,← q2]
  try rfl
 ·cases h
theorem aa.k_ok {cs:List SD} {x:aa} (h:aa.k cs=some x) : cs.map SD.toD=aa.d x:=by
 unfold aa.k at h
 split at h
 ·rename_i c0 c1 c2 c3 c4 c5 c6 c7 c8 c9
  obtain ⟨x0,q0,h⟩:=aO h
  obtain ⟨x1,q1,h⟩:=aO h
  obtain ⟨x2,q2,h⟩:=aO h
  obtain ⟨x3,q3,h⟩:=aO h
  obtain ⟨x4,q4,h⟩:=aO h
  obtain ⟨x5,q5,h⟩:=aO h
  obtain ⟨x6,q6,h⟩:=aO h
  obtain ⟨x7,q7,h⟩:=aO h
  obtain ⟨x8,q8,h⟩:=aO h
  obtain ⟨x9,q9,h⟩:=aO h
  injection h with h
  subst h
  simp only [bJ,List.cons.injEq,and_true] at q0 q1 q2 q3 q4 q5 q6 q7 q8 q9
  simp only [List.map_cons,List.map_nil,aa.d,← q0,← q1,← q2,← q3,← q4,← q5,← q6,← q7,← q8,← q9]
  try rfl
 ·cases h
theorem aQ.k_ok {cs:List SD} {x:aQ} (h:aQ.k cs=some x) : cs.map SD.toD=aQ.d x:=by
 unfold aQ.k at h
 split at h
 ·rename_i c0 c1 c2 c3 c4
  obtain ⟨x0,q0,h⟩:=aO h
  obtain ⟨x1,q1,h⟩:=aO h
  obtain ⟨x2,q2,h⟩:=aO h
  obtain ⟨x3,q3,h⟩:=aO h
  obtain ⟨x4,q4,h⟩:=aO h
  injection h with h
  subst h
  simp only [bJ,List.cons.injEq,and_true] at q0 q1 q2 q3 q4
  simp only [List.map_cons,List.map_nil,aQ.d,← q0,← q1,← q2,← q3,← q4]
  try rfl
 ·cases h
theorem aE.k_ok {cs:List SD} {x:aE} (h:aE.k cs=some x) : cs.map SD.toD=aE.d x:=by
 unfold aE.k at h
 split at h
 ·rename_i c0 c1 c2
  obtain ⟨x0,q0,h⟩:=aO h
  obtain ⟨x1,q1,h⟩:=aO h
  obtain ⟨x2,q2,h⟩:=aO h
  injection h with h
  subst h
  simp only [bJ,List.cons.injEq,and_true] at q0 q1 q2
  simp only [List.map_cons,List.map_nil,aE.d,← q0,← q1,← q2]
  try rfl
 ·cases h
theorem a7.k_ok {cs:List SD} {x:a7} (h:a7.k cs=some x) : cs.map SD.toD=a7.d x:=by
 unfold a7.k at h
 split at h
 ·rename_i c0 c1
  obtain ⟨x0,q0,h⟩:=aO h
  obtain ⟨x1,q1,h⟩:=aO h
  injection h with h
  subst h
  simp only [bJ,List.cons.injEq,and_true] at q0 q1
  simp only [List.map_cons,List.map_nil,a7.d,← q0,← q1]
  try rfl
 ·cases h
theorem aj.k_ok {cs:List SD} {x:aj} (h:aj.k cs=some x) : cs.map SD.toD=aj.d x:=by
 unfold aj.k at h
 split at h
 ·rename_i c0 c1
  obtain ⟨x0,q0,h⟩:=aO h
  obtain ⟨x1,q1,h⟩:=aO h
  injection h with h
  subst h
  simp only [bJ,List.cons.injEq,and_true] at q0 q1
  simp only [List.map_cons,List.map_nil,aj.d,← q0,← q1]
  try rfl
 ·cases h
theorem zR:∀ {i:Nat} {cs:List SD} {x:ST i},stK i cs=some x→cs.map SD.toD=stD i x
 | 0,_,(_:av),h=>av.k_ok h
 | 1,_,(_:aJ),h=>aJ.k_ok h
 | 2,_,(_:az),h=>az.k_ok h
 | 3,_,(_:eu),h=>eu.k_ok h
 | 4,_,(_:aC),h=>aC.k_ok h
 | 5,_,(_:ay),h=>ay.k_ok h
 | 6,_,(_:ai),h=>ai.k_ok h
 | 7,_,(_:aB),h=>aB.k_ok h
 | 8,_,(_:a6),h=>a6.k_ok h
 | 9,_,(_:aH),h=>aH.k_ok h
 | 10,_,(_:bk),h=>bk.k_ok h
 | 11,_,(_:bt),h=>bt.k_ok h
 | 12,_,(_:aa),h=>aa.k_ok h
 | 15,_,(_:aQ),h=>aQ.k_ok h
 | 16,_,(_:aE),h=>aE.k_ok h
 | 17,_,(_:a7),h=>a7.k_ok h
 | 18,_,(_:aj),h=>aj.k_ok h
 | 13,_,x,h=>by
  have h2:none=some x:=h
  cases h2
 | 14,_,x,h=>by
  have h2:none=some x:=h
  cases h2
 | _ + 19,_,x,h=>by
  have h2:none=some x:=h
  cases h2
section
inductive SV where
 | junk
 | d (x:SD)
 | ag (cs:List SV)
 | tup (cs:List SV)
 | ptr (t off:Nat)
 | row (t:Nat)
 | re (t p off:Nat)
 | vw (t lo hi:Nat)
 | fe (cs:List SD)
 | fn (f:FuncId) (ps qs:List SV)
structure Pin where
 i:Int
 cs:Option (List SD)
inductive aX where
 | st (ty:TypeId) (cs:List SV)
 | rw (e k:Nat) (t:Ty) (xs:List t.den) (pins:List (Nat×Pin))
def lkV:List (Nat×SV)→Nat→SV
 | [],_=>.junk
 | (j,v)::l,i=>match Nat.beq i j with | true=>v | false=>lkV l i
def lkB:List (Nat×Option aX)→Nat→Option aX
 | [],_=>none
 | (j,v)::l,i=>match Nat.beq i j with | true=>v | false=>lkB l i
def lkP:List (Nat×Pin)→Nat→Option Pin
 | [],_=>none
 | (j,v)::l,i=>match Nat.beq i j with | true=>some v | false=>lkP l i
def aA:List Nat→Nat→Bool
 | [],_=>false
 | j::l,i=>match Nat.beq i j with | true=>true | false=>aA l i
structure SS where
 sl:List (Nat×SV)
 bx:List (Nat×Option aX)
 pr:List Nat
 ro:Bool
 oc:List Nat
def wrB (s:SS) (t:Nat) : Bool:=match s.ro with | true=>false | false=>!(aA s.pr t)
def IQ (s:SS) (t:Nat) : Bool:=match aA s.oc t with | true=>false | false=>!(aA s.pr t)
def Ax:(t:Ty)→t.den→List SD
 | .int k,x=>[.int k x]
 | .bool,x=>[.bool x]
 | .str,x=>[.str x]
 | .sl t,xs=>[.sl t xs]
 | .st i,x=>stC i x
def WW:(t:Ty)→List SD→Option t.den
 | .st i,cs=>stK i cs
 | .int k,[c]=>c.as (.int k)
 | .bool,[c]=>c.as .bool
 | .str,[c]=>c.as .str
 | .sl t,[c]=>c.as (.sl t)
 | _,_=>none
def tyN:Ty→Nat
 | .st i=>stN i
 | _=>1
def Hz:Value→Option SD
 | .int k n=>some (.int k n)
 | .bool t=>some (.bool t)
 | .string s=>some (.str s)
 | .slice none 0 0=>some .nl
 | _=>none
def EL:List Value→Option (List SV)
 | []=>some []
 | v::l=>match Hz v,EL l with | some c,some cs=>some (.d c::cs) | _,_=>none
def Jf:Value→SV
 | .agg xs=>match EL xs.toList with | some cs=>.ag cs | none=>.junk
 | v=>match Hz v with | some c=>.d c | none=>.junk
def evX (s:SS) : Operand→SV
 | .tmp i=>lkV s.sl i
 | .const v=>Jf v
 | .func f=>.fn f [] []
 | _=>.junk
def Wc (s:SS) (t:Nat) : Option SD:=match lkB s.bx t with
 | some (.rw _ _ ty xs _)=>some (.sl ty xs)
 | _=>none
def rr (s:SS) : SV→Option SD
 | .d x=>some x
 | .row t=>Wc s t
 | _=>none
def Jc (s:SS) : List SV→Option (List SD)
 | []=>some []
 | v::l=>match rr s v,Jc s l with | some c,some cs=>some (c::cs) | _,_=>none
def Jn:SV→Option (List SV)
 | .ag cs=>some cs
 | .junk=>none
 | .tup _=>none
 | v=>some [v]
mutual
def stale (t:Nat) : SV→SV
 | .row t'=>match Nat.beq t' t with | true=>.junk | false=>.row t'
 | .re t' p o=>match Nat.beq t' t with | true=>.junk | false=>.re t' p o
 | .vw t' p o=>match Nat.beq t' t with | true=>.junk | false=>.vw t' p o
 | .ag cs=>.ag (iI t cs)
 | .tup cs=>.tup (iI t cs)
 | .fn f ps qs=>.fn f (iI t ps) (iI t qs)
 | v=>v
def iI (t:Nat) : List SV→List SV
 | []=>[]
 | c::cs=>stale t c::iI t cs
end
def Db (t:Nat) : List (Nat×SV)→List (Nat×SV)
 | []=>[]
 | (i,v)::l=>(i,stale t v)::Db t l
def n8 (t:Nat) : List (Nat×Option aX)→List (Nat×Option aX)
 | []=>[]
 | (i,some (.st ty cs))::l=>(i,some (.st ty (iI t cs)))::n8 t l
 | (i,b)::l=>(i,b)::n8 t l
inductive Upd where
 | no
 | new (t:Nat) (b:aX)
 | set (t:Nat) (b:aX)
 | pin (t:Nat) (b:aX)
 | grow (t:Nat) (b:aX)
def TC:Upd→List Nat
 | .no=>[]
 | .new t _=>[t]
 | .set t _=>[t]
 | .pin _ _=>[]
 | .grow t _=>[t]
def rT (sl:List (Nat×SV)) (dst:Option Nat) (v:SV) : List (Nat×SV):=match dst with | some d=>(d,v)::sl | none=>sl
def SS.upd (s:SS) (dst:Option Nat) (v:SV) : Upd→SS
 | .no=>⟨rT s.sl dst v,s.bx,s.pr,s.ro,s.oc⟩
 | .new t b=>⟨rT s.sl dst v,(t,some b)::s.bx,s.pr,s.ro,s.oc⟩
 | .set t b=>⟨rT s.sl dst v,(t,some b)::s.bx,s.pr,s.ro,s.oc⟩
 | .pin t b=>⟨rT s.sl dst v,(t,some b)::s.bx,s.pr,s.ro,s.oc⟩
 | .grow t b=>⟨rT (Db t s.sl) dst v,(t,some b)::n8 t s.bx,s.pr,s.ro,s.oc⟩
def nh {α : Type} : List α→Nat→List α→List α
 | cs,0,[]=>cs
 | _ :: cs,0,n::ns=>n::nh cs 0 ns
 | [],_,_=>[]
 | c::cs,o + 1,ns=>c::nh cs o ns
def Qc (size:Nat) (agg:Bool) (cl:List SV) : Option SV :=
 if agg then (if size≤cl.length then some (.ag (cl.take size)) else none) else cl.head?
def Af:List SD→List SV
 | []=>[]
 | c::cs=>.d c::Af cs
variable {ρ : Type}
def chk (b:Bool) (k:Option ρ) : Option ρ:=match b with | true=>k | false=>none
def Uu:Operand→Option Int
 | .const (.int _ n)=>some n
 | _=>none
def N3 (op:BinOp) (kd:IntKind) (lit:Option Int) (x y:Int) (k:SV→Option ρ) : Option ρ :=
 match op with
 | .add=>k (.d (.int kd (kd.wrap (x + y))))
 | .sub=>k (.d (.int kd (kd.wrap (x - y))))
 | .mul=>k (.d (.int kd (kd.wrap (x * y))))
 | .quo=>match lit with
  | some n=>chk (!(n==0)) (k (.d (.int kd (kd.wrap (x.tdiv y)))))
  | none=>Option.bind (if y=0 then none else some (kd.wrap (x.tdiv y))) fun q=>k (.d (.int kd q))
 | .rem=>match lit with
  | some n=>chk (!(n==0)) (k (.d (.int kd (x.tmod y))))
  | none=>Option.bind (FV x y) fun q=>k (.d (.int kd q))
 | .eql=>k (.d (.bool (x==y)))
 | .neq=>k (.d (.bool (x != y)))
 | .lss=>k (.d (.bool (decide (x < y))))
 | .leq=>k (.d (.bool (decide (x≤y))))
 | .gtr=>k (.d (.bool (decide (x > y))))
 | .geq=>k (.d (.bool (decide (x≥y))))
 | .and=>k (.d (.int kd (bits .and kd x y)))
 | .or=>k (.d (.int kd (bits .or kd x y)))
 | .xor=>k (.d (.int kd (bits .xor kd x y)))
 | _=>none
def Nd (op:BinOp) (kd:IntKind) (lit:Option Int) (x y:Int) (k:SV→Option ρ) : Option ρ :=
 match lit with
 | some n=>chk (decide (0≤n)) (match op with
  | .shl=>k (.d (.int kd (kd.wrap (x * 2 ^ (min y.toNat kd.bits)))))
  | .shr=>k (.d (.int kd (x.fdiv (2 ^ (min y.toNat kd.bits)))))
  | _=>none)
 | none=>Option.bind (if y < 0 then none else some ()) fun _=>(match op with
  | .shl=>k (.d (.int kd (kd.wrap (x * 2 ^ (min y.toNat kd.bits)))))
  | .shr=>k (.d (.int kd (x.fdiv (2 ^ (min y.toNat kd.bits)))))
  | _=>none)
def M7 (op:BinOp) (x y:ByteArray) (k:SV→Option ρ) : Option ρ :=
 match op with
 | .add=>Option.bind (mn x y) fun z=>k (.d (.str z))
 | .eql=>k (.d (.bool (x.toList==y.toList)))
 | .neq=>k (.d (.bool (!(x.toList==y.toList))))
 | .lss=>k (.d (.bool (Op.bytesLess x.toList y.toList)))
 | .leq=>k (.d (.bool (Op.bytesLess x.toList y.toList||(x.toList==y.toList))))
 | .gtr=>k (.d (.bool (!(Op.bytesLess x.toList y.toList||(x.toList==y.toList)))))
 | .geq=>k (.d (.bool (!(Op.bytesLess x.toList y.toList))))
 | _=>none
def Il (op:BinOp) (x y:Bool) (k:SV→Option ρ) : Option ρ :=
 match op with
 | .eql=>k (.d (.bool (x==y)))
 | .neq=>k (.d (.bool (!(x==y))))
 | _=>none
def sk:SD→SD→Option Bool
 | .int k a,.int k' b=>if k=k' then some (a==b) else none
 | .bool a,.bool b=>some (a==b)
 | .str a,.str b=>some (a.toList==b.toList)
 | _,_=>none
def BC:List SV→List SV→Option Bool
 | [.d x],[.d y]=>sk x y
 | .d x::xs,.d y::ys=>match sk x y,BC xs ys with
  | some a,some r=>some (a&&r)
  | _,_=>none
 | _,_=>none
def NB:SV→Option Nat
 | .d (.int _ _)=>some 0
 | .d (.bool _)=>some 1
 | .d (.str _)=>some 2
 | _=>none
def CI:List SV→Option (List Nat)
 | []=>some []
 | v::l=>match NB v,CI l with | some a,some r=>some (a::r) | _,_=>none
def I2:List Nat→List Nat→Bool
 | [],[]=>true
 | a::l,b::m=>match Nat.beq a b with | true=>I2 l m | false=>false
 | _,_=>false
def Yr (P:Program) (op:BinOp) (t:TypeId) (lit:Option Int) (p q:SV) (k:SV→Option ρ) : Option ρ :=
 match p,q with
 | .d (.int kd x),.d (.int kd' y)=>match IX op with
  | true=>Nd op kd lit x y k
  | false=>if kd=kd' then N3 op kd lit x y k else none
 | .d (.str x),.d (.str y)=>M7 op x y k
 | .d (.bool x),.d (.bool y)=>match P.underlying t with
  | some .bool=>Il op x y k
  | _=>none
 | .ag xs,.ag ys=>match Yk P t,CI xs,BC xs ys with
  | some l,some l',some r=>chk (I2 l l') (match op with
   | .eql=>k (.d (.bool r))
   | .neq=>k (.d (.bool (!r)))
   | _=>none)
  | _,_,_=>none
 | _,_=>none
def unX (op:UnOp) (p:SV) (k:SV→Option ρ) : Option ρ :=
 match op,p with
 | .not,.d (.bool x)=>k (.d (.bool (!x)))
 | .neg,.d (.int kd x)=>k (.d (.int kd (kd.wrap (0 - x))))
 | _,_=>none
def U4 (P:Program) (s:SS) (src dst:TypeId) (p:SV) (k:SV→Option ρ) : Option ρ :=
 match P.underlying src with
 | none=>none
 | some (.slice e)=>(match P.underlying dst with
  | some .string=>(match P.underlying e,rr s p with
   | some (.int .u8),some (.sl (.int .u8) xs)=>Option.bind (Wb (xs:List Int)) fun z=>k (.d (.str z))
   | _,_=>none)
  | _=>none)
 | some _=>match P.underlying dst,p with
  | some (.int kd),.d (.int _ x)=>k (.d (.int kd (kd.wrap x)))
  | some .string,.d (.str x)=>k (.d (.str x))
  | _,_=>none
def wZ (P:Program) (t:TypeId) (p:SV) (f:Nat) (k:SV→Option ρ) : Option ρ :=
 match (Ar P t)[f]? with
 | some (off,size,_)=>chk (!(size==0)) (match p with
  | .ptr t o=>k (.ptr t (o + off))
  | .fe cs=>k (.fe (cs.drop off))
  | .re t p o=>k (.re t p (o + off))
  | _=>none)
 | none=>none
def NM (P:Program) (t:TypeId) (p:SV) (f:Nat) (k:SV→Option ρ) : Option ρ :=
 match (Ar P t)[f]?,p with
 | some (off,size,agg),.ag cs=>match Qc size agg (cs.drop off) with | some v=>k v | none=>none
 | _,_=>none
def Vk (s:SS) : SV→Option (List SV)
 | .ptr t off=>match lkB s.bx t with | some (.st _ cs)=>some (cs.drop off) | _=>none
 | .fe cs=>some (Af cs)
 | .re t p off=>match lkB s.bx t with
  | some (.rw _ _ _ _ pins)=>match lkP pins p with
   | some ⟨_,some cs⟩=>some (Af (cs.drop off))
   | _=>none
  | _=>none
 | _=>none
def Qm (P:Program) (s:SS) (t:TypeId) (p:SV) : Option SV :=
 match mh P t,Vk s p with
 | some i,some cl=>Qc i.size i.agg cl
 | _,_=>none
def wV (P:Program) (s:SS) (dst:Option Nat) (t:TypeId) (p q:SV) (k:SV→Upd→Option ρ) : Option ρ :=
 match P.underlying t,q,dst with
 | some (.slice e),.d (.int _ i),some d=>match mh P e with
  | some ie=>match p with
   | .d (.sl ty xs)=>chk (tyN ty==ie.size) (Option.bind (aw xs i) fun x=>k (.fe (Ax ty x)) .no)
   | .row t'=>match lkB s.bx t' with
    | some (.rw e' kk ty xs pins)=>chk (kk==ie.size) (chk (lkP pins d).isNone (Option.bind (aw xs i) fun x=>k (.re t' d 0) (.pin t' (.rw e' kk ty xs ((d,⟨i,some (Ax ty x)⟩)::pins)))))
    | _=>none
   | _=>none
  | none=>none
 | _,_,_=>none
def XT:SV→Option SD
 | .d x=>some x
 | _=>none
def sW:List SV→Option (List SD)
 | []=>some []
 | v::l=>match XT v,sW l with | some c,some cs=>some (c::cs) | _,_=>none
def vV:List (Nat×Pin)→List (Nat×Pin)
 | []=>[]
 | (i,⟨j,_⟩)::l=>(i,⟨j,none⟩)::vV l
def Na (P:Program) (s:SS) (t:TypeId) (p q:SV) (k:SV→Upd→Option ρ) : Option ρ :=
 match mh P t,Jn q with
 | some i,some ns=>match p with
  | .ptr x off=>match lkB s.bx x with
   | some (.st ty cs)=>chk (ns.length==i.size) (chk (decide (off + ns.length≤cs.length)) (chk (wrB s x) (k .junk (.set x (.st ty (nh cs off ns))))))
   | _=>none
  | .re x pi off=>match lkB s.bx x,sW ns with
   | some (.rw e kk ty xs pins),some ds=>match lkP pins pi with
    | some ⟨j,cs⟩=>chk (ns.length==i.size) (chk (decide (off + ds.length≤tyN ty)) (chk (wrB s x) (match (if ds.length=tyN ty then some ds else cs.map fun cs=>nh cs off ds) with
     | some cs'=>match WW ty cs' with
      | some y=>k .junk (.set x (.rw e kk ty (xs.set j.toNat y) ((pi,⟨j,some (Ax ty y)⟩)::vV pins)))
      | none=>none
     | none=>none)))
    | none=>none
   | _,_=>none
  | _=>none
 | _,_=>none
def Lk (place:Nat→Option (Nat×Nat)) : List SV→List (Nat×SV)→Option (List SV)
 | cs,[]=>some cs
 | cs,(i,p)::rest=>match place i,Jn p with
  | some (off,size),some ns=>chk (ns.length==size) (chk (decide (off + ns.length≤cs.length)) (Lk place (nh cs off ns) rest))
  | _,_=>none
def CV (i:TI) : Option (List SV):=EL i.zero
def Jm:Nat→Nat→List SD→List (List SD)
 | _,0,_=>[]
 | k,n + 1,l=>l.take k::Jm k n (l.drop k)
def Jb (t:Ty) : List (List SD)→Option (List t.den)
 | []=>some []
 | c::l=>match WW t c,Jb t l with | some x,some xs=>some (x::xs) | _,_=>none
def XO (P:Program) : Nat→TypeId→Option Ty
 | 0,_=>none
 | d + 1,t=>match Zw t with
  | some i=>some (.st i)
  | none=>match P.underlying t with
   | some (.int k)=>some (.int k)
   | some .bool=>some .bool
   | some .string=>some .str
   | some (.slice e)=>(XO P d e).map .sl
   | _=>none
def TU {α : Type} : Nat→List α→List α
 | 0,_=>[]
 | n + 1,l=>l++TU n l
def ug (P:Program) (s:SS) (dst:Option Nat) (t:TypeId) (len:Nat) (parts:List (Nat×SV)) (k:SV→Upd→Option ρ) : Option ρ :=
 match dst,P.underlying t with
 | some d,some (.slice e)=>match mh P e,lkB s.bx d,XO P 4 e with
  | some i,none,some ty=>match CV i with
   | some z=>chk (decide (0 < i.size)) (chk (decide (len≤1000)) (chk (decide (len * i.size≤16777216)) (chk (IQ s d) (match Lk (fun j=>some (j * i.size,i.size)) (TU len z) parts with
    | some cs=>match sW cs with
     | some ds=>match Jb ty (Jm i.size len ds) with
      | some xs=>chk (tyN ty==i.size) (k (.row d) (.new d (.rw e i.size ty xs [])))
      | none=>none
     | none=>none
    | none=>none))))
   | none=>none
  | _,_,_=>none
 | _,_=>none
def Ju (P:Program) (s:SS) (dst:Option Nat) (t:TypeId) (p q:SV) (k:SV→Upd→Option ρ) : Option ρ :=
 match P.underlying t,rr s q with
 | some (.slice e),some (.sl ty ys)=>match mh P e with
  | some i=>chk (decide (0 < i.size)) (chk (decide (0 < i.bytes)) (chk (decide (i.bytes≤1000000)) (chk (tyN ty==i.size) (match p with
   | .row x=>match lkB s.bx x with
    | some (.rw e' kk ty' xs _)=>match Ty.same ty ty' with
     | some ⟨h⟩=>chk (e' == e) (chk (kk==i.size) (chk (wrB s x) (Option.bind (aW xs (yp h ys)) fun zs=>k (.row x) (.grow x (.rw e' kk ty' zs [])))))
     | none=>none
    | _=>none
   | .d .nl=>match dst with
    | some d=>match lkB s.bx d with
     | none=>chk (IQ s d) (Option.bind (aW ([] : List ty.den) ys) fun zs=>k (.row d) (.new d (.rw e i.size ty zs [])))
     | some _=>none
    | none=>none
   | _=>none))))
  | none=>none
 | _,_=>none
def Al:SV→Option Int
 | .d (.int _ i)=>some i
 | _=>none
def vwO (n:Nat) (l h:Int) : Option Unit:=if 0≤l∧0≤h∧l.toNat≤h.toNat∧h.toNat≤n then some () else none
def XY (lo:Option SV) (n:Int) : Option Int:=match lo with
 | none=>some n
 | some v=>Al v
def Xz {α : Type} (xs:List α) (lo hi:Nat) (ys:List α) : Option (List α):=if lo≤hi∧hi≤xs.length then some (nG xs lo (ys.take (hi - lo))) else none
def mkO {α : Type} (z : α) (n:Int) : Option (List α):=if 0≤n∧n≤1000000 then some (List.replicate n.toNat z) else none
def XR (s:SS) : SV→Option SD
 | .vw t lo hi=>match lkB s.bx t with
  | some (.rw _ _ ty xs _)=>some (.sl ty ((xs.drop lo).take (hi - lo)))
  | _=>none
 | v=>rr s v
def T4 (s:SS) : SV→Option (Nat×Nat×Nat)
 | .row t=>match lkB s.bx t with
  | some (.rw _ _ _ xs _)=>some (t,0,xs.length)
  | _=>none
 | .vw t lo hi=>some (t,lo,hi)
 | _=>none
def U2 (P:Program) (s:SS) (t:TypeId) (p q:SV) (k:SV→Upd→Option ρ) : Option ρ :=
 match P.underlying t,XR s q,T4 s p with
 | some (.slice e),some (.sl ty ys),some (x,lo,hi)=>match mh P e,lkB s.bx x with
  | some i,some (.rw e' kk ty' xs pins)=>match Ty.same ty ty' with
   | some ⟨h⟩=>chk (kk==i.size) (chk (tyN ty==i.size) (chk (wrB s x) (Option.bind (Xz xs lo hi (yp h ys)) fun zs=>k (.d (.int .i64 (min ys.length (hi - lo) : Nat))) (.set x (.rw e' kk ty' zs (vV pins))))))
   | none=>none
  | _,_=>none
 | _,_,_=>none
def Ng:Operand→Operand→Bool
 | .tmp i,.tmp j=>Nat.beq i j
 | .const (.int _ n),.const (.int _ m)=>n==m
 | _,_=>false
def Um (P:Program) (s:SS) (dst:Option Nat) (t:TypeId) (same:Bool) (p:SV) (k:SV→Upd→Option ρ) : Option ρ :=
 match dst,P.underlying t,p,same with
 | some d,some (.slice e),.d (.int _ n),true=>match mh P e,lkB s.bx d,XO P 4 e with
  | some i,none,some ty=>match CV i with
   | some z=>(match sW z with
    | some ds=>(match WW ty ds with
     | some z0=>chk (decide (0 < i.size)) (chk (decide (i.bytes≤1000000)) (chk (tyN ty==i.size) (chk (IQ s d) (Option.bind (mkO z0 n) fun xs=>k (.row d) (.new d (.rw e i.size ty xs []))))))
     | none=>none)
    | none=>none)
   | none=>none
  | _,_,_=>none
 | _,_,_,_=>none
def Nc (P:Program) (s:SS) (t:TypeId) (p:SV) (lo hi:Option SV) (k:SV→Option ρ) : Option ρ :=
 match P.underlying t,p with
 | some (.slice e),.d (.sl ty xs)=>match mh P e with
  | some i=>chk (tyN ty==i.size) (match lo,hi with
   | none,none=>k (.d (.sl ty xs))
   | some l,none=>match Al l with | some l=>Option.bind (loO xs l) fun z=>k (.d (.sl ty z)) | none=>none
   | none,some h=>match Al h with | some h=>Option.bind (hiO xs h) fun z=>k (.d (.sl ty z)) | none=>none
   | some l,some h=>match Al l,Al h with | some l,some h=>Option.bind (lhO xs l h) fun z=>k (.d (.sl ty z)) | _,_=>none)
  | none=>none
 | some (.slice e),.row x=>match mh P e,lkB s.bx x with
  | some i,some (.rw _ kk ty xs _)=>chk (kk==i.size) (match XY lo 0,XY hi xs.length with
   | some l,some h=>Option.bind (vwO xs.length l h) fun _=>k (.vw x l.toNat h.toNat)
   | _,_=>none)
  | _,_=>none
 | some .string,.d (.str x)=>match lo,hi with
   | some l,none=>match Al l with | some l=>Option.bind (Rg x l) fun z=>k (.d (.str z)) | none=>none
   | none,some h=>match Al h with | some h=>Option.bind (Ni x h) fun z=>k (.d (.str z)) | none=>none
   | some l,some h=>match Al l,Al h with | some l,some h=>Option.bind (Ix x l h) fun z=>k (.d (.str z)) | _,_=>none
   | none,none=>none
 | _,_=>none
def xZ (mx:Bool) : SV→List SV→Option SV
 | p,[]=>some p
 | .d (.int k x),.d (.int _ y)::l=>xZ mx (.d (.int k (match mx with | true=>if y > x then y else x | false=>if y < x then y else x))) l
 | _,_=>none
def X7 (P:Program) (s:SS) (t:TypeId) (v:SV) (k:SV→Option ρ) : Option ρ :=
 match P.underlying t with
 | some (.slice _)=>match rr s v with
  | some (.sl _ xs)=>k (.d (.int .i64 (xs.length:Int)))
  | some .nl=>k (.d (.int .i64 0))
  | _=>match v with
   | .vw _ lo hi=>k (.d (.int .i64 ((hi - lo:Nat) : Int)))
   | _=>none
 | some .string=>match v with
  | .d (.str x)=>k (.d (.int .i64 (x.size:Int)))
  | _=>none
 | _=>none
def LU (P:Program) (s:SS) (dst:Option Nat) (f:Builtin) (args:List SV) (ts:List TypeId) (k:SV→Upd→Option ρ) : Option ρ :=
 match f with
 | .len=>(match args,ts with | [x],[t]=>X7 P s t x fun v=>k v .no | _,_=>none)
 | .append=>(match args,ts with | [x,y],[t,t']=>(match Nat.beq t' t with | true=>Ju P s dst t x y k | false=>none) | _,_=>none)
 | .min=>(match args with | x::xs=>(match xZ false x xs with | some v=>k v .no | none=>none) | _=>none)
 | .max=>(match args with | x::xs=>(match xZ true x xs with | some v=>k v .no | none=>none) | _=>none)
 | .copy=>(match args,ts with | [x,y],[t,_]=>U2 P s t x y k | _,_=>none)
 | _=>none
def wN (s:SS) : List (Nat×Operand)→List (Nat×SV)
 | []=>[]
 | (i,x)::l=>(i,evX s x)::wN s l
def vF (s:SS) : List Operand→List SV
 | []=>[]
 | x::l=>evX s x::vF s l
def T1 (c:Bool) (v w:SV) : Option SV :=
 match v,w with
 | .d (.int k x),.d (.int k' y)=>if k=k' then some (.d (.int k (if c=true then x else y))) else none
 | .d (.bool x),.d (.bool y)=>some (.d (.bool (if c=true then x else y)))
 | .d (.str x),.d (.str y)=>some (.d (.str (if c=true then x else y)))
 | v,w=>match c with | true=>some v | false=>some w
def X5 (p:SV) (k:SV→Option ρ) : Option ρ:=match p with
 | .ptr t o=>k (.ptr t o)
 | .re t q o=>k (.re t q o)
 | .fe cs=>k (.fe cs)
 | _=>none
def Qt (kd:IntKind) : List SV→Option (List Int)
 | []=>some []
 | .d (.int kd' x)::l=>if kd' = kd then (match Qt kd l with | some r=>some (x::r) | none=>none) else none
 | _=>none
def WR (P:Program) (o:Oper) (s:SS) (k:SV→Upd→Option ρ) : Option ρ :=
 match o.op with
 | .move x=>k (evX s x) .no
 | .assign x=>k (evX s x) .no
 | .pick c x y=>match evX s c with
  | .d (.bool t)=>match T1 t (evX s x) (evX s y) with | some v=>k v .no | none=>none
  | _=>none
 | .alloc e=>match o.dst,mh P e with
  | some t,some i=>match lkB s.bx t,CV i with
   | none,some z=>chk (IQ s t) (k (.ptr t 0) (.new t (.st e z)))
   | _,_=>none
  | _,_=>none
 | .box e x=>match o.dst,Jn (evX s x) with
  | some t,some cs=>match lkB s.bx t with
   | none=>chk (IQ s t) (k (.ptr t 0) (.new t (.st e cs)))
   | some _=>none
  | _,_=>none
 | .build t ps=>match mh P t,XW P t with
  | some i,some pl=>match CV i with
   | some z=>(match Lk pl z (wN s ps.toList) with | some cs=>k (.ag cs) .no | none=>none)
   | none=>none
  | _,_=>none
 | .buildSlice t n ps=>ug P s o.dst t n (wN s ps.toList) k
 | .load t x=>match Qm P s t (evX s x) with | some v=>k v .no | none=>none
 | .store t x y=>Na P s t (evX s x) (evX s y) k
 | .binOp op t x y _=>Yr P op t (Uu y) (evX s x) (evX s y) fun v=>k v .no
 | .unOp op _ x=>unX op (evX s x) fun v=>k v .no
 | .convert src dst x=>U4 P s src dst (evX s x) fun v=>k v .no
 | .slice t x lo hi none=>Nc P s t (evX s x) (lo.map (evX s)) (hi.map (evX s)) fun v=>k v .no
 | .fieldAddr t x f=>wZ P t (evX s x) f fun v=>k v .no
 | .field t x f=>NM P t (evX s x) f fun v=>k v .no
 | .indexAddr t x i=>wV P s o.dst t (evX s x) (evX s i) k
 | .extract x i=>match evX s x with
  | .tup vs=>match vs[i]? with | some v=>k v .no | none=>none
  | _=>none
 | .index t x i=>match P.underlying t,evX s x,evX s i with
  | some .string,.d (.str x),.d (.int _ i)=>Option.bind (lb x i) fun z=>k (.d (.int .u8 z)) .no
  | some (.array n e),.ag cs,.d (.int _ i)=>match mh P e,P.underlying e with
   | some ie,some (.int kd)=>match Qt kd cs with
    | some xs=>chk (Nat.beq ie.size 1) (chk (Nat.beq xs.length n) (Option.bind (aw xs i) fun z=>k (.d (.int kd z)) .no))
    | none=>none
   | _,_=>none
  | _,_,_=>none
 | .call c=>match c.callee with
  | .builtin f=>LU P s o.dst f (vF s c.args.toList) c.argTypes.toList k
  | _=>none
 | .makeFunc (.func f) ps qs=>k (.fn f (vF s ps.toList) (vF s qs.toList)) .no
 | .makeSlice t x y=>Um P s o.dst t (Ng x y) (evX s x) k
 | .nilCheck x=>X5 (evX s x) fun v=>k v .no
 | _=>none
end
section
inductive CT where
 | v (t:Ty)
 | a (i:Nat)
 | pl (t:Ty)
 | ps (i:Nat)
def CT.den:CT→Type
 | .v t=>t.den
 | .a i=>ST i
 | .pl t=>t.den
 | .ps i=>ST i
def ud:List CT→Type
 | []=>Unit
 | c::cs=>c.den×ud cs
inductive IB where
 | no
 | own (e k:Nat) (t:Ty)
 | bx (ty n:Nat) (rows:List (Nat×Nat×Nat×Ty))
def IB.den:IB→Type
 | .no=>Unit
 | .own _ _ t=>List t.den
 | .bx _ n _=>ST n
def IB.nJ:IB→Nat
 | .bx _ _ rows=>rows.length
 | _=>0
def tM:Nat→List IB→List (List Nat)
 | _,[]=>[]
 | base,b::l=>List.range' base b.nJ::tM (base + b.nJ) l
def C9:List IB→Nat
 | []=>0
 | b::l=>b.nJ + C9 l
def xT:List IB→Type
 | []=>Unit
 | b::l=>b.den×xT l
inductive PT where
 | lf (t:Ty)
 | ag (i:Nat)
 | pl (t:Ty)
 | ps (i:Nat)
 | fn (f:FuncId) (a b:List CT)
 | own (e k:Nat) (t:Ty)
 | mv (e k:Nat) (t:Ty)
 | bx (ty n:Nat) (rows:List (Nat×Nat×Nat×Ty))
 | agr (n:Nat) (rows:List (Nat×Nat×Nat×Ty))
 | io (l:List IB)
def PT.den:PT→Type
 | .lf t=>t.den
 | .ag i=>ST i
 | .pl t=>t.den
 | .ps i=>ST i
 | .fn _ a b=>ud a×ud b
 | .own _ _ t=>List t.den
 | .mv _ _ t=>List t.den
 | .bx _ n _=>ST n
 | .agr n _=>ST n
 | .io l=>xT l
def PT.isM:PT→Bool
 | .own ..=>true
 | .mv ..=>true
 | .bx ..=>true
 | .agr ..=>true
 | .io _=>true
 | _=>false
def oI:List PT→Bool
 | []=>false
 | p::l=>match p.isM with | true=>true | false=>oI l
def PT.flat:PT→Bool
 | .lf (.int _)=>true
 | .lf .bool=>true
 | .lf .str=>true
 | .lf _=>false
 | .ag i=>stF i
 | _=>false
def Y3:(c:CT)→c.den→SV
 | .v t,x=>.d (qe t x)
 | .a i,x=>.ag (Af (stC i x))
 | .pl t,x=>.fe [qe t x]
 | .ps i,x=>.fe (stC i x)
def Hl:(cs:List CT)→ud cs→List SV
 | [],_=>[]
 | c::cs,x=>Y3 c x.1::Hl cs x.2
def RX:(p:PT)→p.den→SV
 | .lf t,x=>.d (qe t x)
 | .ag i,x=>.ag (Af (stC i x))
 | .pl t,x=>.fe [qe t x]
 | .ps i,x=>.fe (stC i x)
 | .fn f a b,x=>.fn f (Hl a x.1) (Hl b x.2)
 | .own ..,_=>.junk
 | .mv ..,_=>.junk
 | .bx ..,_=>.junk
 | .agr ..,_=>.junk
 | .io _,_=>.junk
def WV (s:SS) (t:Ty) (v:SV) : Option t.den:=match rr s v with | some c=>c.as t | none=>none
def WY (s:SS) (i:Nat) : SV→Option (ST i)
 | .ag cs=>match Jc s cs with | some cs=>stK i cs | none=>none
 | _=>none
def QQ (t:Ty) : SV→Option t.den
 | .fe [c]=>c.as t
 | _=>none
def QP (i:Nat) : SV→Option (ST i)
 | .fe cs=>stK i cs
 | _=>none
def Y5 (s:SS) : (c:CT)→SV→Option c.den
 | .v t,v=>WV s t v
 | .a i,v=>WY s i v
 | .pl t,v=>QQ t v
 | .ps i,v=>QP i v
def LK (s:SS) : (cs:List CT)→List SV→Option (ud cs)
 | [],[]=>some ()
 | c::cs,v::vs=>Option.bind (Y5 s c v) fun x=>Option.bind (LK s cs vs) fun xs=>some (x,xs)
 | _,_=>none
def Yp (s:SS) (f:FuncId) (a b:List CT) : SV→Option (ud a×ud b)
 | .fn f' ps qs=>match Nat.beq f' f with
  | true=>Option.bind (LK s a ps) fun x=>Option.bind (LK s b qs) fun y=>some (x,y)
  | false=>none
 | _=>none
def LN (s:SS) : (p:PT)→SV→Option p.den
 | .lf t,v=>WV s t v
 | .ag i,v=>WY s i v
 | .pl t,v=>QQ t v
 | .ps i,v=>QP i v
 | .fn f a b,v=>Yp s f a b v
 | .own ..,_=>none
 | .mv ..,_=>none
 | .bx ..,_=>none
 | .agr ..,_=>none
 | .io _,_=>none
def cJ:List PT→Type
 | []=>Unit
 | p::ps=>p.den×cJ ps
def bh:List PT→Type
 | []=>Unit
 | [p]=>p.den
 | p::q::l=>p.den×bh (q::l)
def BD:(ps:List PT)→cJ ps→List SV
 | [],_=>[]
 | p::ps,x=>RX p x.1::BD ps x.2
def QR (s:SS) : (ps:List PT)→List SV→Option (cJ ps)
 | [],[]=>some ()
 | p::ps,v::vs=>Option.bind (LN s p v) fun x=>Option.bind (QR s ps vs) fun xs=>some (x,xs)
 | _,_=>none
def QK:(rs:List PT)→bh rs→List SV
 | [],_=>[]
 | [p],x=>[RX p x]
 | p::q::l,x=>RX p x.1::QK (q::l) x.2
def Y0 (rs:List PT) (x:bh rs) : SV:=match rs,x with
 | [p],x=>RX p x
 | rs,x=>.tup (QK rs x)
def Hs (s:SS) : (rs:List PT)→List SV→Option (bh rs)
 | [],[]=>some ()
 | [p],[v]=>LN s p v
 | p::q::l,v::vs=>Option.bind (LN s p v) fun x=>Option.bind (Hs s (q::l) vs) fun xs=>some (x,xs)
 | _,_=>none
def qo:List PT→Bool
 | []=>true
 | p::l=>match p.flat with | true=>qo l | false=>false
def Y6:CT→Bool
 | .v (.st _)=>false
 | .pl (.st _)=>false
 | _=>true
def EE:List CT→Bool
 | []=>true
 | c::l=>match Y6 c with | true=>EE l | false=>false
def Rx:PT→Bool
 | .lf (.st _)=>false
 | .pl (.st _)=>false
 | .fn _ a b=>match EE a with | true=>EE b | false=>false
 | .lf _=>true
 | .pl _=>true
 | .ag _=>true
 | .ps _=>true
 | _=>false
def tI:List PT→Bool
 | []=>true
 | p::l=>match Rx p with | true=>tI l | false=>false
def se:List PT→Bool
 | []=>true
 | p::l=>match p.isM||Rx p with | true=>se l | false=>false
structure Ent where
 ps:List PT
 rs:List PT
 f:cJ ps→Option (bh rs)
def ZC:PT→SV→Bool
 | .fn f _ _,.fn g _ _=>Nat.beq g f
 | .fn _ _ _,_=>false
 | _,_=>true
def Xw:List PT→List SV→Bool
 | [],_=>true
 | _ :: _,[]=>true
 | p::ps,v::vs=>match ZC p v with | true=>Xw ps vs | false=>false
def lkE:List (Nat×Ent)→Nat→List SV→Option Ent
 | [],_,_=>none
 | (j,v)::l,i,vs=>match Nat.beq i j with
  | true=>(match Xw v.ps vs with | true=>some v | false=>lkE l i vs)
  | false=>lkE l i vs
mutual
def ph:SV→Bool
 | .row _=>false
 | .ptr _ _=>false
 | .re _ _ _=>false
 | .vw _ _ _=>false
 | .ag cs=>ct cs
 | .tup cs=>ct cs
 | .fn _ ps qs=>match ct ps with | true=>ct qs | false=>false
 | _=>true
def ct:List SV→Bool
 | []=>true
 | c::cs=>match ph c with | true=>ct cs | false=>false
end
def pu:List (Nat×Nat×Nat×Nat×Ty)→Nat→Option (Nat×Nat×Nat×Ty)
 | [],_=>none
 | (j,R,e,k,t)::l,i=>match Nat.beq j i with | true=>some (R,e,k,t) | false=>pu l i
def cellsOf (s:SS) (rows:List (Nat×Nat×Nat×Nat×Ty)) : Nat→List SV→Option (List SD)
 | _,[]=>some []
 | j,c::cs=>match pu rows j with
  | some (R,e,k,t)=>(match c,lkB s.bx R with
   | .row R',some (.rw e' k' t' xs _)=>(match Ty.same t' t with
    | some ⟨h⟩=>chk (Nat.beq R' R) (chk (e' == e) (chk (k' == k) (match cellsOf s rows (j + 1) cs with | some r=>some (.sl t (yp h xs)::r) | none=>none)))
    | none=>none)
   | _,_=>none)
  | none=>(match c,cellsOf s rows (j + 1) cs with
   | .d x,some r=>some (x::r)
   | _,_=>none)
def fT (rows:List (Nat×Nat×Nat×Nat×Ty)) : Nat→List SD→List (Nat×Option aX)→Option (List SV×List (Nat×Option aX))
 | _,[],bx=>some ([],bx)
 | j,c::cs,bx=>match pu rows j with
  | some (R,e,k,t)=>(match c.as (.sl t),fT rows (j + 1) cs bx with
   | some xs,some (vs,bx)=>some (.row R::vs,(R,some (.rw e k t xs []))::bx)
   | _,_=>none)
  | none=>(match fT rows (j + 1) cs bx with
   | some (vs,bx)=>some (.d c::vs,bx)
   | none=>none)
def mg:List (Nat×Nat×Nat×Ty)→List Nat→List (Nat×Nat×Nat×Nat×Ty)
 | (j,e,k,t)::l,R::is=>(j,R,e,k,t)::mg l is
 | _,_=>[]
def PT.nI:PT→Nat
 | .own ..=>1
 | .mv ..=>1
 | .bx _ _ rows=>rows.length + 1
 | .agr _ rows=>rows.length
 | _=>0
def Lo (rows:List (Nat×Nat×Nat×Ty)) (is:List Nat) (n:Nat) (x:ST n) : Option (List SV×List (Nat×Option aX)):=fT (mg rows is) 0 (stC n x) []
def Ls:(p:PT)→List Nat→p.den→Option (SV×List (Nat×Option aX))
 | .own e k t,is,xs=>(match is with | [i]=>some (.row i,[(i,some (.rw e k t xs []))]) | _=>none)
 | .mv e k t,is,xs=>(match is with | [i]=>some (.row i,[(i,some (.rw e k t xs []))]) | _=>none)
 | .bx ty n rows,is,x=>(match is with | i::is=>(match Lo rows is n x with | some (vs,bx)=>some (.ptr i 0,(i,some (.st ty vs))::bx) | none=>none) | _=>none)
 | .agr n rows,is,x=>(match Lo rows is n x with | some (vs,bx)=>some (.ag vs,bx) | none=>none)
 | .io _,_,_=>none
 | .lf t,_,x=>some (.d (qe t x),[])
 | .ag i,_,x=>some (.ag (Af (stC i x)),[])
 | .pl t,_,x=>some (.fe [qe t x],[])
 | .ps i,_,x=>some (.fe (stC i x),[])
 | .fn f a b,_,x=>some (.fn f (Hl a x.1) (Hl b x.2),[])
def Lr:(ps:List PT)→List (List Nat)→cJ ps→Option (List SV×List (Nat×Option aX))
 | [],[],_=>some ([],[])
 | p::ps,is::iss,x=>(match Ls p is x.1,Lr ps iss x.2 with | some (v,b),some (vs,bs)=>some (v::vs,b++bs) | _,_=>none)
 | _,_,_=>none
def CD:List (Nat×Nat×Nat×Ty)→List SV→Option (List Nat)
 | [],_=>some []
 | (j,_)::l,cs=>(match cs[j]?,CD l cs with | some (.row R),some is=>some (R::is) | _,_=>none)
def LD (s:SS) (rows:List (Nat×Nat×Nat×Ty)) (n:Nat) (cs:List SV) : Option (ST n×List Nat):=match CD rows cs with
 | some is=>(match cellsOf s (mg rows is) 0 cs with
  | some ds=>(match stK n ds with | some x=>some (x,is) | none=>none)
  | none=>none)
 | none=>none
def sA (s:SS) (e k:Nat) (t:Ty) : SV→Option (List t.den×List Nat)
 | .row i=>(match lkB s.bx i with
  | some (.rw e' k' t' xs _)=>(match Ty.same t' t with
   | some ⟨h⟩=>chk (e' == e) (chk (k' == k) (some (yp h xs,[i])))
   | none=>none)
  | _=>none)
 | _=>none
def LL (s:SS) (ty n:Nat) (rows:List (Nat×Nat×Nat×Ty)) : SV→Option (ST n×List Nat)
 | .ptr i 0=>(match lkB s.bx i with
  | some (.st ty' cs)=>chk (ty' == ty) (match LD s rows n cs with | some (x,is)=>some (x,i::is) | none=>none)
  | _=>none)
 | _=>none
def NX (s:SS) (n:Nat) (rows:List (Nat×Nat×Nat×Ty)) : SV→Option (ST n×List Nat)
 | .ag cs=>LD s rows n cs
 | _=>none
def LH (s:SS) (p:PT) (v:SV) : Option (p.den×List Nat):=chk (ph v) (match LN s p v with | some x=>some (x,[]) | none=>none)
def NW (s:SS) : (p:PT)→SV→Option (p.den×List Nat)
 | .own e k t,v=>sA s e k t v
 | .mv e k t,v=>sA s e k t v
 | .bx ty n rows,v=>LL s ty n rows v
 | .agr n rows,v=>NX s n rows v
 | .io _,_=>none
 | .lf t,v=>LH s (.lf t) v
 | .ag i,v=>LH s (.ag i) v
 | .pl t,v=>LH s (.pl t) v
 | .ps i,v=>LH s (.ps i) v
 | .fn f a b,v=>LH s (.fn f a b) v
def Hu (s:SS) : (ps:List PT)→List SV→Option (cJ ps×List (List Nat))
 | [],[]=>some ((),[])
 | p::ps,v::vs=>(match NW s p v,Hu s ps vs with | some (x,is),some (xs,iss)=>some ((x,xs),is::iss) | _,_=>none)
 | _,_=>none
structure MU where
 ks:List Nat
 us:List (Nat×Option aX)
 gs:List Nat
mutual
def stV (ks:List Nat) : SV→SV
 | .row t=>match aA ks t with | true=>.junk | false=>.row t
 | .re t p o=>match aA ks t with | true=>.junk | false=>.re t p o
 | .vw t p o=>match aA ks t with | true=>.junk | false=>.vw t p o
 | .ag cs=>.ag (tm ks cs)
 | .tup cs=>.tup (tm ks cs)
 | .fn f ps qs=>.fn f (tm ks ps) (tm ks qs)
 | v=>v
def tm (ks:List Nat) : List SV→List SV
 | []=>[]
 | c::cs=>stV ks c::tm ks cs
end
def Rb (ks:List Nat) : List (Nat×SV)→List (Nat×SV)
 | []=>[]
 | (i,v)::l=>(i,stV ks v)::Rb ks l
def wC (ks:List Nat) : List (Nat×Option aX)→List (Nat×Option aX)
 | []=>[]
 | (i,some (.st ty cs))::l=>(i,some (.st ty (tm ks cs)))::wC ks l
 | (i,b)::l=>(i,b)::wC ks l
def SS.updM (s:SS) (dst:Option Nat) (v:SV) (m:MU) : SS:=⟨rT (Rb m.ks s.sl) dst v,m.us++wC m.ks s.bx,s.pr,s.ro,m.gs++s.oc⟩
def cp:List PT→List IB
 | .io l :: _=>l
 | _=>[]
def e8:List PT→List PT
 | .io _ :: l=>l
 | l=>l
def jR:(rs:List PT)→bh rs→xT (cp rs)
 | [],_=>()
 | [.io _],r=>r
 | .io _ :: _ :: _,r=>r.1
 | .own .. :: _,_=>()
 | .mv .. :: _,_=>()
 | .bx .. :: _,_=>()
 | .agr .. :: _,_=>()
 | .lf _ :: _,_=>()
 | .ag _ :: _,_=>()
 | .pl _ :: _,_=>()
 | .ps _ :: _,_=>()
 | .fn .. :: _,_=>()
def iM:(rs:List PT)→bh rs→bh (e8 rs)
 | [],_=>()
 | [.io _],_=>()
 | .io _ :: _ :: _,r=>r.2
 | .own .. :: _,r=>r
 | .mv .. :: _,r=>r
 | .bx .. :: _,r=>r
 | .agr .. :: _,r=>r
 | .lf _ :: _,r=>r
 | .ag _ :: _,r=>r
 | .pl _ :: _,r=>r
 | .ps _ :: _,r=>r
 | .fn .. :: _,r=>r
def IL (s:SS) (i:Nat) : List (Nat×Pin):=match lkB s.bx i with | some (.rw _ _ _ _ pins)=>vV pins | _=>[]
def ln:List Nat→List (Nat×Option aX)
 | []=>[]
 | t::l=>(t,none)::ln l
def Ym (s:SS) : (p:PT)→(b:IB)→List Nat→List Nat→b.den→Option MU
 | .own ..,.own e k t,is,_,xs=>(match is with | [i]=>some ⟨[],[(i,some (.rw e k t xs (IL s i)))],[]⟩ | _=>none)
 | .mv ..,.no,is,_,_=>(match is with | [i]=>some ⟨[i],[],[i]⟩ | _=>none)
 | .bx ..,.bx ty n rows,is,js,x=>(match is with | i::is=>(match Lo rows js n x with | some (vs,bx)=>some ⟨is,(i,some (.st ty vs))::bx,is⟩ | none=>none) | _=>none)
 | .lf _,.no,_,_,_=>some ⟨[],[],[]⟩
 | .ag _,.no,_,_,_=>some ⟨[],[],[]⟩
 | .pl _,.no,_,_,_=>some ⟨[],[],[]⟩
 | .ps _,.no,_,_,_=>some ⟨[],[],[]⟩
 | .fn ..,.no,_,_,_=>some ⟨[],[],[]⟩
 | _,_,_,_,_=>none
def MU.app (a b:MU) : MU:=⟨a.ks++b.ks,a.us++b.us,a.gs++b.gs⟩
def QL (s:SS) : (ps:List PT)→(ls:List IB)→List (List Nat)→List (List Nat)→xT ls→Option MU
 | [],[],[],[],_=>some ⟨[],[],[]⟩
 | p::ps,b::ls,is::iss,js::kss,o=>(match Ym s p b is js o.1,QL s ps ls iss kss o.2 with | some m,some m'=>some (m.app m') | _,_=>none)
 | _,_,_,_,_=>none
def I4:(rs:List PT)→List (List Nat)→bh rs→Option (List SV×List (Nat×Option aX))
 | [],[],_=>some ([],[])
 | [p],[is],x=>(match Ls p is x with | some (v,b)=>some ([v],b) | none=>none)
 | p::q::l,is::iss,x=>(match Ls p is x.1,I4 (q::l) iss x.2 with | some (v,b),some (vs,bs)=>some (v::vs,b++bs) | _,_=>none)
 | _,_,_=>none
def T9:List SV→SV
 | [v]=>v
 | vs=>.tup vs
def n9:Nat→List PT→List (List Nat)
 | _,[]=>[]
 | base,p::l=>List.range' base p.nI::n9 (base + p.nI) l
def bq:List (List Nat)→List Nat
 | []=>[]
 | l::ls=>l++bq ls
def sf:List Nat→Bool
 | []=>true
 | a::l=>match aA l a with | true=>false | false=>sf l
def Qf (s:SS) : List Nat→Bool
 | []=>true
 | j::l=>match IQ s j,lkB s.bx j,Nat.blt j 1000000 with | true,none,true=>Qf s l | _,_,_=>false
def Qe (s:SS) : List Nat→Bool
 | []=>true
 | i::l=>match aA s.pr i with | true=>false | false=>Qe s l
def idU:List (Nat×Option aX)→List Nat
 | []=>[]
 | (i,_)::l=>i::idU l
def M8:List Nat→List Nat→Bool
 | [],_=>true
 | a::l,m=>match aA m a with | true=>M8 l m | false=>false
def XC (ps:List PT) (iss:List (List Nat)) (x:cJ ps) : Bool:=match Lr ps iss x with | some (_,bi)=>sf (idU bi)&&M8 (bq iss) (idU bi) | none=>false
def Qg (s:SS) : List (Nat×Option aX)→Bool
 | []=>true
 | (i,b)::l=>(match lkB s.bx i with
  | some (.st ty cs)=>(match b with | some (.st ty' cs')=>ty==ty' && Nat.beq cs.length cs'.length | _=>false)
  | _=>true)&&Qg s l
section
variable {ρ : Type}
def RL (T:List (Nat×Ent)) (f:Nat) (args:List SV) : Bool:=match lkE T f args with | some en=>oI en.ps||oI en.rs | none=>false
def QU (T:List (Nat×Ent)) (f:Nat) (s:SS) (args:List SV) (k:SV→Option ρ) : Option ρ :=
 match lkE T f args with
 | none=>none
 | some en=>chk (tI en.rs) (chk (ct args||qo en.rs) (Option.bind (QR s en.ps args) fun x=>Option.bind (en.f x) fun r=>k (Y0 en.rs r)))
def QV (T:List (Nat×Ent)) (f:Nat) (s:SS) (dst:Option Nat) (args:List SV) (k:SV→MU→Option ρ) : Option ρ :=
 match s.ro with
 | true=>none
 | false=>match lkE T f args,dst with
  | some en,some d=>(match Hu s en.ps args with
   | some (x,iss)=>Option.bind (en.f x) fun r =>
    let kss:=tM (500000 + 64 * d) (cp en.rs)
    let jss:=n9 (500000 + 64 * d + C9 (cp en.rs)) (e8 en.rs)
    match QL s en.ps (cp en.rs) iss kss (jR en.rs r),I4 (e8 en.rs) jss (iM en.rs r) with
    | some m,some (vs,bs)=>chk (Qe s (idU m.us++(m.ks++m.gs))&&(Qf s (idU bs++(bq kss++bq jss))&&(sf (bq iss++(bq kss++bq jss))&&(sf (idU (m.us++(bs++ln m.gs)))&&(Qg s (m.us++ln m.gs)&&(M8 (bq iss) (idU m.us++m.gs)&&(M8 (idU m.us++m.gs) (bq iss++bq kss)&&(XC en.ps iss x&&(M8 (bq kss++bq jss) (idU m.us++idU bs)&&(se (e8 en.rs)&&se en.ps)))))))))) (k (T9 vs) ⟨m.ks,m.us++(bs++ln m.gs),m.gs⟩)
    | _,_=>none
   | none=>none)
  | _,_=>none
def v6 (s:SS) (x:Operand) (b:Bool) : SS:=match x with
 | .tmp i=>⟨(i,.d (.bool b))::s.sl,s.bx,s.pr,s.ro,s.oc⟩
 | _=>s
def PR (g:Nat) : List Oper→Option (List Oper×Nat×List Oper)
 | []=>none
 | o::l=>match (match o.op,o.dst with | .pick (.tmp g') _ _,some d=>(match Nat.beq g' g with | true=>some d | false=>none) | _,_=>none) with
  | some d=>some ([o],d,l)
  | none=>match PR g l with
   | some (a,d,b)=>some (o::a,d,b)
   | none=>none
def cd:List Oper→List Nat
 | []=>[]
 | o::l=>match o.dst with | some d=>d::cd l | none=>cd l
def oG:List Nat→List (Nat×SV)→List (Nat×SV)
 | [],l=>l
 | d::ds,l=>(d,.junk)::oG ds l
def Cz (d:Nat) (s:SS) : Option Bool:=match lkV s.sl d with | .d (.bool b)=>some b | _=>none
mutual
def tU (t:Nat) (c:SD) : SV→SV
 | .row t'=>match Nat.beq t' t with | true=>.d c | false=>.row t'
 | .re t' p o=>match Nat.beq t' t with | true=>.junk | false=>.re t' p o
 | .vw t' p o=>match Nat.beq t' t with | true=>.junk | false=>.vw t' p o
 | .ag cs=>.ag (nM t c cs)
 | .tup cs=>.tup (nM t c cs)
 | .fn f ps qs=>.fn f (nM t c ps) (nM t c qs)
 | v=>v
def nM (t:Nat) (c:SD) : List SV→List SV
 | []=>[]
 | v::vs=>tU t c v::nM t c vs
end
def D9 (t:Nat) (c:SD) : List (Nat×SV)→List (Nat×SV)
 | []=>[]
 | (i,v)::l=>(i,tU t c v)::D9 t c l
def rm (t:Nat) (c:SD) : List (Nat×Option aX)→List (Nat×Option aX)
 | []=>[]
 | (i,some (.st ty cs))::l=>(i,some (.st ty (nM t c cs)))::rm t c l
 | (i,b)::l=>(i,b)::rm t c l
def NJ (t:Nat) (s:SS) : Option SS:=match lkB s.bx t with
 | some (.rw _ _ ty xs _)=>match aA s.pr t with
  | false=>some ⟨D9 t (.sl ty xs) s.sl,(t,none)::rm t (.sl ty xs) s.bx,s.pr,s.ro,s.oc⟩
  | true=>some s
 | _=>some s
def lq:List Nat→SS→Option SS
 | [],s=>some s
 | t::l,s=>match NJ t s with | some s=>lq l s | none=>none
mutual
def wY (t:Nat) (ds:List SD) : SV→SV
 | .ptr t' o=>match Nat.beq t' t with | true=>.fe (ds.drop o) | false=>.ptr t' o
 | .ag cs=>.ag (po t ds cs)
 | .tup cs=>.tup (po t ds cs)
 | .fn f ps qs=>.fn f (po t ds ps) (po t ds qs)
 | v=>v
def po (t:Nat) (ds:List SD) : List SV→List SV
 | []=>[]
 | v::vs=>wY t ds v::po t ds vs
end
def Ea (t:Nat) (ds:List SD) : List (Nat×SV)→List (Nat×SV)
 | []=>[]
 | (i,v)::l=>(i,wY t ds v)::Ea t ds l
def rp (t:Nat) (ds:List SD) : List (Nat×Option aX)→List (Nat×Option aX)
 | []=>[]
 | (i,some (.st ty cs))::l=>(i,some (.st ty (po t ds cs)))::rp t ds l
 | (i,b)::l=>(i,b)::rp t ds l
def X4:List SD→Bool
 | []=>true
 | .nl :: _=>false
 | _ :: l=>X4 l
def fbX (sc:List Nat) (t:Nat) (s:SS) : Option SS:=match lkB s.bx t with
 | some (.st _ cs)=>(match sW cs with
  | some ds=>chk (X4 ds&&(!(aA s.pr t) && !(aA sc t))) (some ⟨Ea t ds s.sl,(t,none)::rp t ds s.bx,s.pr,s.ro,s.oc⟩)
  | none=>none)
 | _=>none
def Hf (sc:List Nat) : List Nat→SS→Option SS
 | [],s=>some s
 | t::l,s=>match fbX sc t s with | some s=>Hf sc l s | none=>none
def QH (s:SS) : List Nat→Bool
 | []=>true
 | t::l=>match lkB s.bx t with | none=>QH s l | some _=>false
mutual
def Nk:SV→List Nat
 | .row t=>[t]
 | .fn _ ps qs=>sd ps++sd qs
 | .ag cs=>sd cs
 | _=>[]
def sd:List SV→List Nat
 | []=>[]
 | c::cs=>Nk c++sd cs
end
def T5:List (Nat×SV)→List SV
 | []=>[]
 | (_,v)::l=>v::T5 l
def z6:List PT→List SV→List SV
 | p::ps,v::vs=>(match p.isM with | true=>z6 ps vs | false=>v::z6 ps vs)
 | _,_=>[]
def Wl (q:Bool) (T:List (Nat×Ent)) (o:Oper) (s:SS) : Option SS:=match q,s.ro,o.guard with
 | true,false,none=>(match o.op,uf o with
  | .buildSlice _ _ ps,_=>lq (sd (T5 (wN s ps.toList))) s
  | _,some (x,xs)=>(match evX s x with
   | .fn f ps qs=>(match lkE T f (ps++vF s xs++qs) with
    | some en=>(match oI en.ps||oI en.rs with
     | true=>lq (sd (z6 en.ps (ps++vF s xs++qs))) s
     | false=>(match qo en.rs with | true=>some s | false=>lq (sd (ps++vF s xs++qs)) s))
    | none=>some s)
   | _=>some s)
  | _,_=>some s)
 | _,_,_=>some s
mutual
def vX:SV→Option (List Nat)
 | .junk=>none
 | .ptr t _=>some [t]
 | .row t=>some [t]
 | .re t _ _=>some [t]
 | .vw t _ _=>some [t]
 | .ag cs=>qE cs
 | .tup cs=>qE cs
 | .fn _ ps qs=>match qE ps,qE qs with | some a,some b=>some (a++b) | _,_=>none
 | .d _=>some []
 | .fe _=>some []
def qE:List SV→Option (List Nat)
 | []=>some []
 | c::cs=>match vX c,qE cs with | some a,some b=>some (a++b) | _,_=>none
end
def QA (o:Oper) (s:SS) : Option (List Nat):=match o.op with
 | .load _ x=>vX (evX s x)
 | .store _ x _=>vX (evX s x)
 | .indexAddr _ x _=>vX (evX s x)
 | .slice _ x _ _ _=>vX (evX s x)
 | .convert _ _ x=>vX (evX s x)
 | .call c=>(match c.callee with
  | .value f=>(match vX (evX s f),qE (vF s c.args.toList) with | some a,some b=>some (a++b) | _,_=>none)
  | _=>qE (vF s c.args.toList))
 | _=>some []
def M9:List Nat→List Nat→Bool
 | [],_=>true
 | a::l,m=>match fv.memL m a with | true=>M9 l m | false=>false
def xX:List Bd→Nat→Bd
 | [],_=>([],[])
 | x :: _,0=>x
 | _ :: l,i + 1=>xX l i
def G9 (q:Bool) (B:List Bd) (i:Nat) (o:Oper) (s:SS) (u:Upd) : Bool:=match q with
 | true=>true
 | false=>match QA o s with
  | some fs=>M9 fs (xX B i).1&&M9 (TC u) (xX B i).2
  | none=>false
def QB (q:Bool) (B:List Bd) (i:Nat) (o:Oper) (s:SS) (m:MU) : Bool:=match q with
 | true=>true
 | false=>match QA o s with
  | some fs=>M9 fs (xX B i).1&&M9 (idU m.us) (xX B i).2
  | none=>false
def tD (q:Bool) (P:Program) (T:List (Nat×Ent)) (ops:Array Oper) (B:List Bd) : Nat→Nat→List Nat→List Oper→{ρ : Type} → SS→(SS→Option ρ)→Option ρ
 | _,_,_,[],_,s,k=>k s
 | 0,_,_,_ :: _,_,_,_=>none
 | n + 1,i,kn,o::l,_,s,k =>
  let go:=fun (_:Unit)=>match Wl q T o s with
   | none=>none
   | some s=>(match uf o with
    | some (x,xs)=>(match evX s x with
     | .fn f ps qs=>(match RL T f (ps++vF s xs++qs) with
      | false=>chk (G9 q B i o s .no) (QU T f s (ps++vF s xs++qs) fun r=>tD q P T ops B n (i + 1) kn l (s.upd o.dst r .no) k)
      | true=>QV T f s o.dst (ps++vF s xs++qs) fun v m=>chk (QB q B i o s m) (tD q P T ops B n (i + 1) kn l (s.updM o.dst v m) k))
     | _=>none)
    | none=>WR P o s fun v u=>chk (G9 q B i o s u) (tD q P T ops B n (i + 1) kn l (s.upd o.dst v u) k))
  let skip:=fun (_:Unit)=>tD q P T ops B n (i + 1) kn l (s.upd o.dst (.tup []) .no) k
  match o.guard with
  | none=>go ()
  | some (j,want)=>match (ops[j]?).bind (·.dst) with
   | none=>none
   | some g=>match lkV s.sl g with
    | .tup []=>skip ()
    | .d (.bool b)=>(match aA kn g with
     | true=>(match b with
      | true=>(match want with | true=>go () | false=>skip ())
      | false=>(match want with | true=>skip () | false=>go ()))
     | false=>(match PR g (o::l) with
      | none=>none
      | some (l1,d,l2)=>Option.bind (if b=true then tD q P T ops B n i (g::kn) l1 ⟨(g,.d (.bool true))::s.sl,s.bx,s.pr,true,s.oc⟩ (Cz d) else tD q P T ops B n i (g::kn) l1 ⟨(g,.d (.bool false))::s.sl,s.bx,s.pr,true,s.oc⟩ (Cz d)) fun qb =>
       tD q P T ops B n (i + l1.length) kn l2 ⟨(d,.d (.bool qb))::oG (cd l1) s.sl,s.bx,s.pr,s.ro,cd l1++s.oc⟩ k))
    | _=>none
end
def lkN:List (Nat×List Nat)→Nat→Option (List Nat)
 | [],_=>none
 | (j,v)::l,i=>match Nat.beq i j with | true=>some v | false=>lkN l i
def kS (m:List (Nat×List Nat)) (s:SS) : Operand→List Nat
 | .tmp i=>(match lkN m i with | some l=>l | none=>(match vX (lkV s.sl i) with | some l=>l | none=>[]))
 | _=>[]
def Bm (m:List (Nat×List Nat)) (s:SS) : List Operand→List Nat
 | []=>[]
 | x::l=>kS m s x++Bm m s l
def YH (m:List (Nat×List Nat)) (s:SS) : List (Nat×Operand)→List Nat
 | []=>[]
 | (_,x)::l=>kS m s x++YH m s l
def Y8 (mb:List (Nat×List Nat)) (s:SS) (t:Nat) : List Nat:=match lkN mb t with
 | some l=>l
 | none=>(match lkB s.bx t with | some (.st _ cs)=>(match qE cs with | some l=>l | none=>[]) | _=>[])
def Vb (mb:List (Nat×List Nat)) (s:SS) : List Nat→List Nat
 | []=>[]
 | t::l=>Y8 mb s t++Vb mb s l
def Yv (mb:List (Nat×List Nat)) (s:SS) (x:List Nat) : List Nat→List (Nat×List Nat)
 | []=>mb
 | t::l=>(t,x++Y8 mb s t)::Yv mb s x l
def Ey:Option Nat→List Nat
 | some d=>[d]
 | none=>[]
def qa (m:List (Nat×List Nat)) (dst:Option Nat) (l:List Nat) : List (Nat×List Nat):=match dst with | some d=>(d,l)::m | none=>m
def YQ:List (Nat×Ent)→Nat→Option Ent
 | [],_=>none
 | (j,v)::l,i=>match Nat.beq i j with | true=>some v | false=>YQ l i
def ZB (T:List (Nat×Ent)) (o:Oper) (f:Operand) : Option (List Nat):=match f,o.dst with
 | .func g,some d=>(match YQ T g with
  | some en=>(match oI en.ps||oI en.rs with | true=>some (bq (tM (500000 + 64 * d) (cp en.rs))++bq (n9 (500000 + 64 * d + C9 (cp en.rs)) (e8 en.rs))) | false=>none)
  | none=>none)
 | _,_=>none
def kT (T:List (Nat×Ent)) (s:SS) : List Oper→List (Nat×List Nat)→List (Nat×List Nat)→List Bd
 | [],_,_=>[]
 | o::l,m,mb=>match o.op with
  | .move x=>([],[])::kT T s l (qa m o.dst (kS m s x)) mb
  | .assign x=>([],[])::kT T s l (qa m o.dst (kS m s x)) mb
  | .pick _ x y=>([],[])::kT T s l (qa m o.dst (kS m s x++kS m s y)) mb
  | .build _ ps=>([],[])::kT T s l (qa m o.dst (YH m s ps.toList)) mb
  | .extract x _=>([],[])::kT T s l (qa m o.dst (kS m s x)) mb
  | .field _ x _=>([],[])::kT T s l (qa m o.dst (kS m s x)) mb
  | .fieldAddr _ x _=>([],[])::kT T s l (qa m o.dst (kS m s x)) mb
  | .nilCheck x=>([],[])::kT T s l (qa m o.dst (kS m s x)) mb
  | .indexAddr _ x _=>(kS m s x,[])::kT T s l (qa m o.dst (kS m s x)) mb
  | .load _ x=>(kS m s x,[])::kT T s l (qa m o.dst (Vb mb s (kS m s x))) mb
  | .store _ x y=>(kS m s x,kS m s x)::kT T s l m (Yv mb s (kS m s y) (kS m s x))
  | .alloc _=>([],Ey o.dst)::kT T s l (qa m o.dst (Ey o.dst)) mb
  | .box _ x=>([],Ey o.dst)::kT T s l (qa m o.dst (Ey o.dst)) (Yv mb s (kS m s x) (Ey o.dst))
  | .buildSlice _ _ _=>([],Ey o.dst)::kT T s l (qa m o.dst (Ey o.dst)) mb
  | .slice _ x _ _ _=>(kS m s x,[])::kT T s l (qa m o.dst (kS m s x)) mb
  | .makeSlice _ _ _=>([],Ey o.dst)::kT T s l (qa m o.dst (Ey o.dst)) mb
  | .convert _ _ x=>(kS m s x,[])::kT T s l (qa m o.dst []) mb
  | .makeFunc _ a b=>([],[])::kT T s l (qa m o.dst (Bm m s a.toList++Bm m s b.toList)) mb
  | .call c=>(match c.callee with
   | .builtin .append=>(match c.args.toList with
    | x::y :: _=>(kS m s x++kS m s y,kS m s x++Ey o.dst)::kT T s l (qa m o.dst (kS m s x++Ey o.dst)) mb
    | _=>([],[])::kT T s l m mb)
   | .builtin .copy=>(match c.args.toList with
    | x::y :: _=>(kS m s x++kS m s y,kS m s x)::kT T s l (qa m o.dst []) mb
    | _=>([],[])::kT T s l m mb)
   | .value f=>(match ZB T o f with
    | none=>(kS m s f++Bm m s c.args.toList,[])::kT T s l (qa m o.dst []) mb
    | some js=>(Bm m s c.args.toList,Bm m s c.args.toList++(Vb mb s (Bm m s c.args.toList)++js))::kT T s l (qa m o.dst js) mb)
   | _=>(Bm m s c.args.toList,[])::kT T s l (qa m o.dst []) mb)
  | _=>([],[])::kT T s l m mb
def Ku (m:Nat) (ops:Array Oper) : Bool:=(List.range ops.size).all fun i=>decide (i < m)||(List.range i).all fun k=>yh ops 4 i k
inductive Mod where
 | leaf (i:Nat) (t:Ty)
 | agg (i n:Nat)
 | row (i R e k:Nat) (t:Ty)
 | box (b ty n:Nat) (rows:List (Nat×Nat×Nat×Nat×Ty))
def Mod.den:Mod→Type
 | .leaf _ t=>t.den
 | .agg _ n=>ST n
 | .row _ _ _ _ t=>List t.den
 | .box _ _ n _=>ST n
def jS:List Mod→Type
 | []=>Unit
 | [m]=>m.den
 | m::m' :: l=>m.den×jS (m' :: l)
def Yd:Option aX→Bool
 | some (.rw ..)=>true
 | _=>false
def Ao (s:SS) : (m:Mod)→Option m.den
 | .leaf i t=>match lkV s.sl i with
  | .d c=>c.as t
  | _=>none
 | .agg i n=>match lkV s.sl i with
  | .ag cs=>(match sW cs with | some cs=>stK n cs | none=>none)
  | _=>none
 | .row i R e k t=>match lkV s.sl i,lkB s.bx R with
  | .row R',some (.rw e' k' t' xs _)=>match Ty.same t' t with
   | some ⟨h⟩=>chk (Nat.beq R' R) (chk (e' == e) (chk (k' == k) (some (yp h xs))))
   | none=>none
  | _,_=>none
 | .box b ty n rows=>match lkB s.bx b with
  | some (.st ty' cs)=>chk (ty' == ty) (chk (rows.all fun r=>Yd (lkB s.bx r.2.1)) (match cellsOf s rows 0 cs with | some ds=>stK n ds | none=>none))
  | _=>none
def sX (s:SS) : (l:List Mod)→Option (jS l)
 | []=>some ()
 | [m]=>Ao s m
 | m::m' :: l=>Option.bind (Ao s m) fun x=>Option.bind (sX s (m' :: l)) fun xs=>some (x,xs)
def rb:(m:Mod)→m.den→SS→Option SS
 | .leaf i t,x,s=>some ⟨(i,.d (qe t x))::s.sl,s.bx,s.pr,s.ro,s.oc⟩
 | .agg i n,x,s=>some ⟨(i,.ag (Af (stC n x)))::s.sl,s.bx,s.pr,s.ro,s.oc⟩
 | .row i R e k t,xs,s=>some ⟨(i,.row R)::s.sl,(R,some (.rw e k t xs []))::s.bx,s.pr,s.ro,s.oc⟩
 | .box b ty n rows,x,s=>match fT rows 0 (stC n x) s.bx with
  | some (vs,bx)=>some ⟨s.sl,(b,some (.st ty vs))::bx,s.pr,s.ro,s.oc⟩
  | none=>none
def jM:(l:List Mod)→jS l→SS→Option SS
 | [],_,s=>some s
 | [m],x,s=>rb m x s
 | m::m' :: l,x,s=>match jM (m' :: l) x.2 s with | some s=>rb m x.1 s | none=>none
def bw:List Mod→List Nat
 | []=>[]
 | .row _ R _ _ _ :: l=>R::bw l
 | .box b _ _ rows::l=>b::(rows.map (·.2.1)++bw l)
 | _ :: l=>bw l
def Xt (R:Nat) : SV→Bool
 | .row R'=>Nat.beq R' R
 | _=>false
def pj (wr:List Nat) (s:SS) : List Mod→Bool
 | []=>true
 | .leaf i _ :: l=>(match aA wr i with | true=>pj wr s l | false=>false)
 | .agg i _ :: l=>(match aA wr i with | true=>pj wr s l | false=>false)
 | .row i R _ _ _ :: l=>(match aA s.pr R,aA wr i||Xt R (lkV s.sl i) with | false,true=>pj wr s l | _,_=>false)
 | .box b _ _ rows::l=>(match aA s.pr b,rows.all fun r=>!(aA s.pr r.2.1) with | false,true=>pj wr s l | _,_=>false)
def u7 (mb sc:List Nat) : List (Nat×Option aX)→List Nat→Bool
 | [],_=>true
 | (t,b)::l,seen=>match aA seen t with
  | true=>u7 mb sc l seen
  | false=>match b with
   | some (.st _ cs)=>(match aA mb t||(aA sc t||ct cs) with | true=>u7 mb sc l (t::seen) | false=>false)
   | _=>u7 mb sc l (t::seen)
def Ho:List Nat→List Nat→Bool
 | [],_=>true
 | a::l,m=>match aA m a with | true=>false | false=>Ho l m
mutual
def sg (sc wr:List Nat) (ms:List Mod) (pr:List Nat) (s:SS) : Bool:=pj wr s ms&&(Ho sc pr&&(Ho sc (bw ms)&&u7 (bw ms) sc s.bx []))
def FU (pr kb:List Nat) : SV→Bool
 | .row t=>aA pr t
 | .re _ _ _=>false
 | .vw _ _ _=>false
 | .ptr t _=>aA kb t
 | .ag cs=>k9 pr kb cs
 | .tup cs=>k9 pr kb cs
 | .fn _ ps qs=>match k9 pr kb ps with | true=>k9 pr kb qs | false=>false
 | _=>true
def k9 (pr kb:List Nat) : List SV→Bool
 | []=>true
 | c::cs=>match FU pr kb c with | true=>k9 pr kb cs | false=>false
end
def si (wr pr kb:List Nat) : List (Nat×SV)→List Nat→List (Nat×SV)
 | [],_=>[]
 | (i,v)::l,seen=>match aA seen i with
  | true=>si wr pr kb l seen
  | false=>match aA wr i with
   | true=>si wr pr kb l (i::seen)
   | false=>match FU pr kb v with
    | true=>(i,v)::si wr pr kb l (i::seen)
    | false=>si wr pr kb l (i::seen)
def xR:aX→Bool
 | .st _ cs=>ct cs
 | .rw ..=>true
def oA (mb:List Nat) : List (Nat×Option aX)→List Nat→List Nat
 | [],_=>[]
 | (t,b)::l,seen=>match aA seen t with
  | true=>oA mb l seen
  | false=>match b with
   | none=>oA mb l (t::seen)
   | some b=>match aA mb t,xR b with
    | false,true=>t::oA mb l (t::seen)
    | _,_=>oA mb l (t::seen)
def Ik:Option aX→Option aX
 | some (.rw e k t xs _)=>some (.rw e k t xs [])
 | b=>b
def sj (pr:List Nat) : List (Nat×Option aX)→List Nat→List (Nat×Option aX)
 | [],_=>[]
 | (t,b)::l,seen=>match aA seen t with
  | true=>sj pr l seen
  | false=>match aA pr t with
   | true=>(t,Ik b)::sj pr l (t::seen)
   | false=>sj pr l (t::seen)
def v7:List SV→List SV
 | []=>[]
 | _ :: l=>.junk::v7 l
def sa (bx:List (Nat×Option aX)) : List Nat→List Nat
 | []=>[]
 | b::l=>match lkB bx b with
  | some (.st _ _)=>b::sa bx l
  | _=>sa bx l
def Kz (bx:List (Nat×Option aX)) : List Nat→List (Nat×Option aX)→List (Nat×Option aX)
 | [],r=>r
 | b::l,r=>match lkB bx b with
  | some (.st ty cs)=>(b,some (.st ty (v7 cs)))::Kz bx l r
  | _=>Kz bx l r
def bW (sc wr:List Nat) (ms:List Mod) (s:SS) : SS :=
 let pr:=oA (bw ms++sc) s.bx []
 ⟨si wr pr (bw ms++(sa s.bx sc++pr)) s.sl [],Kz s.bx sc (sj pr s.bx []),pr,s.ro,[]⟩
def zV (but:List Nat) : List SV→List Nat
 | []=>[]
 | .row t::l=>match aA but t with | true=>zV but l | false=>t::zV but l
 | _ :: l=>zV but l
def GU (s:SS) : List Mod→List Nat
 | []=>[]
 | .leaf i _ :: l=>zV [] [lkV s.sl i] ++ GU s l
 | .agg i _ :: l=>(match lkV s.sl i with | .ag cs=>zV [] cs | _=>[])++GU s l
 | .row .. :: l=>GU s l
 | .box b _ _ rows::l=>(match lkB s.bx b with | some (.st _ cs)=>zV (rows.map (·.2.1)) cs | _=>[])++GU s l
def clr (s:SS) : SS:=⟨s.sl,s.bx,s.pr,s.ro,[]⟩
def tK (s:SS) : List (Nat×Nat×Nat×Nat×Ty)→List SV→List (Nat×Option aX)→Option (List SV×List (Nat×Option aX))
 | [],cs,bx=>some (cs,bx)
 | (j,R,e,k,t)::l,cs,bx=>match cs[j]? with
  | some (.d .nl)=>(match lkB bx R,decide (0 < k∧R < 1000000),aA s.pr R with
   | none,true,false=>tK s l (cs.set j (.row R)) ((R,some (.rw e k t [] []))::bx)
   | _,_,_=>none)
  | _=>tK s l cs bx
def FX (wr:List Nat) : List Mod→SS→Option SS
 | [],s=>some s
 | .row i R e k t::l,s=>match lkV s.sl i with
  | .d .nl=>(match Nat.beq i R,lkB s.bx i,decide (0 < k∧i < 1000000),aA wr i,aA s.pr i with
   | true,none,true,true,false=>FX wr l ⟨(i,.row i)::s.sl,(i,some (.rw e k t [] []))::s.bx,s.pr,s.ro,s.oc⟩
   | _,_,_,_,_=>none)
  | _=>FX wr l s
 | .box b _ _ [] :: l,s=>FX wr l s
 | .box b _ _ rows::l,s=>match lkB s.bx b with
  | some (.st ty cs)=>(match aA s.pr b,tK s rows cs s.bx with
   | false,some (cs,bx)=>FX wr l ⟨s.sl,(b,some (.st ty cs))::bx,s.pr,s.ro,s.oc⟩
   | _,_=>none)
  | _=>none
 | _ :: l,s=>FX wr l s
def NN (wr:List Nat) (ms:List Mod) (s:SS) : Option SS:=match FX wr ms s with
 | some s=>lq (GU s ms) s
 | none=>none
def qk (ms:List Mod) (s:SS) : Option (jS ms):=match lq (GU s ms) s with
 | some s=>sX s ms
 | none=>none
inductive tr where
 | n
 | s (a b:tr)
 | lp (ms:List Mod) (id:Nat) (ret:Bool) (b:tr)
 | j (ms:List Mod) (h:tr)
def tr.l:tr→tr
 | .s a _=>a
 | .j _ (.s a _)=>a
 | _=>.n
def tr.r:tr→tr
 | .s _ b=>b
 | .j _ (.s _ b)=>b
 | _=>.n
structure Cx where
 P:Program
 T:List (Nat×Ent)
 n:Nat
 rs:List PT
 vars:List ResultVar
 fz:List (Nat×List Nat)
 sc:List Nat
 fb:List (Nat×List Nat)
def lkF:List (Nat×List Nat)→Nat→List Nat
 | [],_=>[]
 | (j,v)::l,i=>match Nat.beq i j with | true=>v | false=>lkF l i
def wrC:Code→List Nat
 | .region _ ops _=>cd ops.toList
 | .seq a b=>wrC a++wrC b
 | .cond (.tmp i) a b=>i::(wrC a++wrC b)
 | .cond _ a b=>wrC a++wrC b
 | .block _ c=>wrC c
 | .loop c=>wrC c
 | _=>[]
def KC (P:Program) (s:SS) : List ResultVar→Option (List SV)
 | []=>some []
 | .tmp t::l=>match KC P s l with | some vs=>some (lkV s.sl t::vs) | none=>none
 | .cell t ty::l=>match Qm P s ty (lkV s.sl t),KC P s l with | some v,some vs=>some (v::vs) | _,_=>none
def YW:List (Nat×Nat×Nat×Ty)→Nat→Bool
 | [],_=>false
 | (j,_)::l,i=>match Nat.beq i j with | true=>true | false=>YW l i
def CC (rows:List (Nat×Nat×Nat×Ty)) : Nat→List SV→List Nat
 | _,[]=>[]
 | j,c::cs=>match YW rows j with | true=>CC rows (j + 1) cs | false=>Nk c++CC rows (j + 1) cs
def XU:PT→SV→List Nat
 | .own ..,_=>[]
 | .agr _ rows,.ag cs=>CC rows 0 cs
 | .agr ..,_=>[]
 | _,v=>Nk v
def P4:List PT→List SV→List Nat
 | p::ps,v::vs=>XU p v++P4 ps vs
 | _,_=>[]
def tn (i:Nat) : Nat:=1000000 + 64 * i
def YU (s:SS) (i:Nat) : IB→List Nat
 | .bx _ _ rows=>(match lkB s.bx (tn i) with | some (.st _ cs)=>CC rows 0 cs | _=>[])
 | _=>[]
def Uw (s:SS) : Nat→List IB→List Nat
 | _,[]=>[]
 | i,b::l=>YU s i b++Uw s (i + 1) l
def W4 (s:SS) (i:Nat) : (b:IB)→Option (b.den×List Nat)
 | .no=>some ((),[])
 | .own e k t=>(match sA s e k t (.row (tn i)) with | some (xs,_)=>some (xs,[]) | none=>none)
 | .bx ty n rows=>(match lkB s.bx (tn i) with
  | some (.st ty' cs)=>chk (ty' == ty) (LD s rows n cs)
  | _=>none)
def QO (s:SS) : Nat→(ls:List IB)→Option (xT ls×List (List Nat))
 | _,[]=>some ((),[])
 | i,b::ls=>match W4 s i b,QO s (i + 1) ls with | some (o,js),some (os,kss)=>some ((o,os),js::kss) | _,_=>none
def I9 (s:SS) : (rs:List PT)→List SV→Option (bh rs×List (List Nat))
 | [],[]=>some ((),[])
 | [p],[v]=>(match NW s p v with | some (x,is)=>some (x,[is]) | none=>none)
 | p::q::l,v::vs=>(match NW s p v,I9 s (q::l) vs with | some (x,is),some (xs,iss)=>some ((x,xs),is::iss) | _,_=>none)
 | _,_=>none
def Ut:(rs:List PT)→xT (cp rs)→bh (e8 rs)→bh rs
 | [],_,_=>()
 | [.io _],o,_=>o
 | .io _ :: _ :: _,o,r=>(o,r)
 | .own .. :: _,_,r=>r
 | .mv .. :: _,_,r=>r
 | .bx .. :: _,_,r=>r
 | .agr .. :: _,_,r=>r
 | .lf _ :: _,_,r=>r
 | .ag _ :: _,_,r=>r
 | .pl _ :: _,_,r=>r
 | .ps _ :: _,_,r=>r
 | .fn .. :: _,_,r=>r
def dr:Nat→List IB→List Nat
 | _,[]=>[]
 | i,.no::l=>dr (i + 1) l
 | i,.own .. :: l=>tn i::dr (i + 1) l
 | i,.bx .. :: l=>tn i::dr (i + 1) l
def Xs (C:Cx) (s:SS) : Option (bh C.rs):=match KC C.P s C.vars with
 | some vs=>(match lq (Uw s 0 (cp C.rs)++P4 (e8 C.rs) vs) s with
  | some s1=>(match KC C.P s1 C.vars with
   | some ws=>(match QO s1 0 (cp C.rs),I9 s1 (e8 C.rs) ws with
    | some (o,kss),some (r,jss)=>chk (sf (dr 0 (cp C.rs)++(bq kss++bq jss))) (some (Ut C.rs o r))
    | _,_=>none)
   | none=>none)
  | none=>none)
 | none=>none
def Bt (C:Cx) (s:SS) : Option (bh C.rs):=match oI C.rs with
 | true=>Xs C (clr s)
 | false=>(match KC C.P (clr s) C.vars with
  | some vs=>Hs (clr s) C.rs vs
  | none=>none)
def TG:List Oper→Bool
 | []=>true
 | o::l=>match o.op,o.dst with | .store ..,some _=>false | _,_=>TG l
def Uy:List Oper→Bool
 | []=>false
 | o::l=>match o.op with | .buildSlice ..=>true | _=>Uy l
def Qv:List Oper→Bool
 | []=>false
 | o::l=>match uf o with | some _=>true | none=>Qv l
def TE (ops:Array Oper) : Nat→Nat
 | 0=>0
 | n + 1=>match (List.range n).all fun k=>yh ops 4 n k with | true=>TE ops n | false=>n + 1
def iX (ops:Array Oper) : Nat:=match Uy ops.toList,Qv ops.toList with
 | true,true=>TE ops ops.toList.length
 | _,_=>ops.toList.length
def TV (C:Cx) (id:Nat) (ops:Array Oper) (draw:Bool) (s:SS) {ρ : Type} (k:SS→Option ρ) : Option ρ :=
 match lq (lkF C.fz id) s with
 | none=>none
 | some s0=>let s:SS:=⟨s0.sl,s0.bx,s0.pr,s0.ro,[]⟩; match draw with
  | false=>chk (TG ops.toList&&Hn C.n ops.toList) (tD true C.P C.T ops [] 1000 0 [] ops.toList s k)
  | true=>chk (TG ops.toList) (chk (Ez (xX (kT C.T s ops.toList [] [])) C.n ops) (match Nat.beq (iX ops) ops.toList.length with
   | true=>tD false C.P C.T ops (kT C.T s ops.toList [] []) 1000 0 [] ops.toList s k
   | false=>chk (Ku (iX ops) ops&&decide (iX ops≤ops.toList.length)) (tD false C.P C.T ops (kT C.T s ops.toList [] []) 1000 0 [] (ops.toList.take (iX ops)) s fun s=>tD true C.P C.T ops [] 1000 0 [] (ops.toList.drop (iX ops)) s k)))
def Wg (C:Cx) (id:Nat) (ops:Array Oper) (draw:Bool) (s:SS) {ρ : Type} (k:SS→Option ρ) : Option ρ:=match lkF C.fb id with
 | []=>TV C id ops draw s k
 | t::l=>chk (QH s (t::l)) (TV C id ops draw s fun s=>match Hf C.sc (t::l) s with | some s=>k s | none=>none)
def GA (C:Cx) (wr:List Nat) (h:tr) (body:(ρ : Type)→SS→(Exit→SS→Option ρ)→(bh C.rs→Option ρ)→Option ρ) (ρ : Type) (s:SS) (k:Exit→SS→Option ρ) (kr:bh C.rs→Option ρ) : Option ρ :=
 match h with
 | .j ms _=>match FX wr ms (clr s) with
  | none=>none
  | some s1=>chk (sg C.sc wr ms s.pr s1) (Option.bind (body (jS ms) ⟨s1.sl,s1.bx,(bW C.sc wr ms s1).pr,s1.ro,s1.oc⟩ (fun e s'=>match e with | .normal=>qk ms s' | _=>none) (fun _=>none)) fun st =>
   match jM ms st (bW C.sc wr ms s1) with
   | some s2=>k .normal ⟨s2.sl,s2.bx,s.pr,s.ro,s.oc⟩
   | none=>none)
 | _=>body ρ s k kr
def w6 (C:Cx) : Code→tr→(ρ : Type)→SS→(Exit→SS→Option ρ)→(bh C.rs→Option ρ)→Option ρ
 | .skip,_,_,s,k,_=>k .normal s
 | .label _,_,_,s,k,_=>k .normal s
 | .exit id,_,_,s,k,_=>k (.exit id) s
 | .ret,_,_,s,_,kr=>Option.bind (Bt C s) kr
 | .region id ops draw,h,ρ,s,k,kr=>GA C (cd ops.toList) h (fun _ s k _=>Wg C id ops draw s fun s=>k .normal s) ρ s k kr
 | .seq a b,h,ρ,s,k,kr=>GA C (wrC a++wrC b) h (fun ρ s k kr=>w6 C a h.l ρ s (fun e s'=>match e with | .normal=>w6 C b h.r ρ s' k kr | e=>k e s') kr) ρ s k kr
 | .cond c a b,h,ρ,s,k,kr=>GA C (wrC (.cond c a b)) h (fun ρ s k kr=>match evX s c with
   | .d (.bool t)=>if t=true then w6 C a h.l ρ (v6 s c true) k kr else w6 C b h.r ρ (v6 s c false) k kr
   | _=>none) ρ s k kr
 | .block id c,h,ρ,s,k,kr=>GA C (wrC c) h (fun ρ s k kr=>w6 C c h.l ρ s (fun e s'=>match e with | .exit id'=>(match Nat.beq id' id with | true=>k .normal s' | false=>k (.exit id') s') | e=>k e s') kr) ρ s k kr
 | .loop c,.lp ms id ret hb,_,s,k,kr=>match NN (wrC c) ms (clr s) with
  | none=>none
  | some s0=>chk (sg C.sc (wrC c) ms s.pr s0) (match sX s0 ms with
   | none=>none
   | some st0=>match ret with
    | false=>Option.bind (ah (fun st=>match jM ms st (bW C.sc (wrC c) ms s0) with
      | none=>none
      | some sh=>w6 C c hb (jS ms⊕jS ms) sh (fun e s'=>match e with
       | .normal=>Option.bind (qk ms s') fun st'=>some (.inl st')
       | .exit id'=>(match Nat.beq id' id with | true=>Option.bind (qk ms s') fun st'=>some (.inr st') | false=>none)
       | _=>none) (fun _=>none)) ac st0) fun st=>match jM ms st (bW C.sc (wrC c) ms s0) with
      | some s2=>k (.exit id) ⟨s2.sl,s2.bx,s.pr,s.ro,s.oc⟩
      | none=>none
    | true=>Option.bind (ah (fun st=>match jM ms st (bW C.sc (wrC c) ms s0) with
      | none=>none
      | some sh=>w6 C c hb (jS ms⊕(jS ms⊕bh C.rs)) sh (fun e s'=>match e with
       | .normal=>Option.bind (qk ms s') fun st'=>some (.inl st')
       | .exit id'=>(match Nat.beq id' id with | true=>Option.bind (qk ms s') fun st'=>some (.inr (.inl st')) | false=>none)
       | _=>none) (fun r=>some (.inr (.inr r)))) ac st0) fun o=>match o with
      | .inr r=>kr r
      | .inl st=>match jM ms st (bW C.sc (wrC c) ms s0) with
       | some s2=>k (.exit id) ⟨s2.sl,s2.bx,s.pr,s.ro,s.oc⟩
       | none=>none)
 | _,_,_,_,_,_=>none
def AI:Nat→List SV→List (Nat×SV)
 | _,[]=>[]
 | i,v::vs=>(i,v)::AI (i + 1) vs
def kz (C:Cx) (c:Code) (h:tr) (ps:List PT) (x:cJ ps) : Option (bh C.rs) :=
 w6 C c h (bh C.rs) ⟨AI 0 (BD ps x),[],[],false,[]⟩ (fun e s=>match e with | .normal=>Bt C s | _=>none) (fun r=>some r)
def mw (i:Nat) : PT→List Nat
 | .own ..=>[tn i]
 | .mv ..=>[900000 + 64 * i]
 | .bx _ _ rows=>tn i::List.range' (900000 + 64 * i) rows.length
 | .agr _ rows=>List.range' (900000 + 64 * i) rows.length
 | _=>[]
def bg:Nat→List PT→List (List Nat)
 | _,[]=>[]
 | i,p::ps=>mw i p::bg (i + 1) ps
def YK:PT→IB→Bool
 | .own ..,.own ..=>true
 | .bx ..,.bx ..=>true
 | .own ..,_=>false
 | .bx ..,_=>false
 | .agr ..,_=>false
 | .io _,_=>false
 | _,.no=>true
 | _,_=>false
def Nx:List PT→List IB→Bool
 | [],[]=>true
 | p::ps,b::ls=>match YK p b with | true=>Nx ps ls | false=>false
 | _,_=>false
def P1 (C:Cx) (c:Code) (h:tr) (ps:List PT) (x:cJ ps) : Option (bh C.rs):=match Lr ps (bg 0 ps) x with
 | some (vs,bx)=>chk (sf (idU bx)) (w6 C c h (bh C.rs) ⟨AI 0 vs,bx,[],false,[]⟩ (fun e s=>match e with | .normal=>Bt C s | _=>none) (fun r=>some r))
 | none=>none
end
section
theorem am {ρ : Type} {b:Bool} {k:Option ρ} {r : ρ} (h:chk b k=some r) : b=true∧k=some r:=by
 cases b
 ·cases h
 ·exact ⟨rfl,h⟩
theorem cO (j:Nat) (v:SV) (l:List (Nat×SV)) (i:Nat) : lkV ((j,v)::l) i=if i=j then v else lkV l i:=by
 simp only [lkV]
 by_cases h:i=j
 ·subst h; simp
 ·have:Nat.beq i j=false:=by rw [← Bool.not_eq_true,Nat.beq_eq]; exact h
  rw [this,if_neg h]
theorem aq (j:Nat) (v:Option aX) (l:List (Nat×Option aX)) (i:Nat) : lkB ((j,v)::l) i=if i=j then v else lkB l i:=by
 simp only [lkB]
 by_cases h:i=j
 ·subst h; simp
 ·have:Nat.beq i j=false:=by rw [← Bool.not_eq_true,Nat.beq_eq]; exact h
  rw [this,if_neg h]
theorem rf (j:Nat) (v:Pin) (l:List (Nat×Pin)) (i:Nat) : lkP ((j,v)::l) i=if i=j then some v else lkP l i:=by
 simp only [lkP]
 by_cases h:i=j
 ·subst h; simp
 ·have:Nat.beq i j=false:=by rw [← Bool.not_eq_true,Nat.beq_eq]; exact h
  rw [this,if_neg h]
theorem cQ (a b:Nat) : Nat.beq a b=decide (a=b):=by
 by_cases h:a=b
 ·subst h; simp
 ·have:Nat.beq a b=false:=by rw [← Bool.not_eq_true,Nat.beq_eq]; exact h
  simp [this,h]
theorem u5 (l:List (Nat×SV)) (dst:Option Nat) (v:SV) (i:Nat) : lkV (rT l dst v) i=if dst=some i then v else lkV l i:=by
 cases dst with
 | none=>simp [rT]
 | some d =>
  simp only [rT,cO,Option.some.injEq]
  by_cases h:i=d
  ·subst h; simp
  ·rw [if_neg h,if_neg (Ne.symm h)]
theorem IT:∀ cs:List SD,Af cs=cs.map .d
 | []=>rfl
 | c::cs=>by simp [Af,IT cs]
theorem px:∀ (t:Ty) (x:t.den),(bJ t x).length=tyN t
 | .int _,_=>rfl
 | .bool,_=>rfl
 | .str,_=>rfl
 | .sl _,_=>rfl
 | .st i,x=>V8 i x
theorem CK:∀ (t:Ty) (x:t.den),(Ax t x).map SD.toD=bJ t x
 | .int _,_=>rfl
 | .bool,_=>rfl
 | .str,_=>rfl
 | .sl _,_=>rfl
 | .st i,x=>tA i x
theorem QJ:∀ (t:Ty) (x:t.den),∀ c∈Ax t x,c≠.nl
 | .int _,_,c,h=>by simp [Ax] at h; subst h; exact fun e=>by cases e
 | .bool,_,c,h=>by simp [Ax] at h; subst h; exact fun e=>by cases e
 | .str,_,c,h=>by simp [Ax] at h; subst h; exact fun e=>by cases e
 | .sl _,_,c,h=>by simp [Ax] at h; subst h; exact fun e=>by cases e
 | .st i,x,c,h=>wB i x c h
theorem dI {α : Type} {x : α} {Q:Prop} (h:(none:Option α)=some x) : Q:=by cases h
theorem I8:∀ {t:Ty} {cs:List SD} {x:t.den},WW t cs=some x→cs.map SD.toD=bJ t x
 | .st i,cs,x,h=>zR h
 | .int k,[],x,h=>dI (x:=x) h
 | .int k,[c],x,h=>(SD.as_ok (t:=(.int k)) h).symm
 | .int k,_ :: _ :: _,x,h=>dI (x:=x) h
 | .bool,[],x,h=>dI (x:=x) h
 | .bool,[c],x,h=>(SD.as_ok (t:=.bool) h).symm
 | .bool,_ :: _ :: _,x,h=>dI (x:=x) h
 | .str,[],x,h=>dI (x:=x) h
 | .str,[c],x,h=>(SD.as_ok (t:=.str) h).symm
 | .str,_ :: _ :: _,x,h=>dI (x:=x) h
 | .sl t,[],x,h=>dI (x:=x) h
 | .sl t,[c],x,h=>(SD.as_ok (t:=(.sl t)) h).symm
 | .sl t,_ :: _ :: _,x,h=>dI (x:=x) h
def Kg:SD→D→Prop
 | .nl,y=>y = .v (.slice none 0 0)
 | c,y=>nrm y=c.toD
theorem Kg.nrm {c:SD} {y:D} (h:Kg c y) : nrm y=c.toD:=by
 cases c <;> first | exact h | (cases h; rfl)
theorem Kg.of {c:SD} (hc:c≠.nl) : Kg c c.toD:=by
 cases c <;> first | rfl | exact absurd rfl hc
theorem Ub {y:D} {x:Value} (h:nrm y = .v x) : y = .v x:=by
 unfold Go.Proofs.YtaknepbdbappdaaGreat.nrm at h
 split at h
 ·cases h
 ·exact h
theorem X3 {y:D} {es:List (List D)} (h:nrm y = .sl es) : y = .sl es∨(es = []∧y = .v (.slice none 0 0)):=by
 unfold Go.Proofs.YtaknepbdbappdaaGreat.nrm at h
 split at h
 ·injection h with h; exact .inr ⟨h.symm,rfl⟩
 ·exact .inl h
inductive bb (B:List (Nat×Option aX)) : SV→PV→Prop
 | junk (q:PV) : bb B .junk q
 | d (c:SD) (y:D) (h:Kg c y) : bb B (.d c) (.d y)
 | ag (cs:List SV) (qs:List PV) (hl:cs.length=qs.length) (hr:∀ (j:Nat) c q,cs[j]? = some c→qs[j]? = some q→bb B c q) : bb B (.ag cs) (.ag qs)
 | tup (cs:List SV) (qs:List PV) (hl:cs.length=qs.length) (hr:∀ (j:Nat) c q,cs[j]? = some c→qs[j]? = some q→bb B c q) : bb B (.tup cs) (.tup qs)
 | ptr (t o:Nat) (ty:TypeId) (cs:List SV) (hb:lkB B t=some (.st ty cs)) : bb B (.ptr t o) (.ptr t o)
 | row (t n e k:Nat) (ty:Ty) (xs:List ty.den) (pins:List (Nat×Pin)) (hb:lkB B t=some (.rw e k ty xs pins)) (hn:xs.length=n) : bb B (.row t) (.row t n)
 | re (t p o n i e k:Nat) (ty:Ty) (xs:List ty.den) (pins:List (Nat×Pin)) (pin:Pin) (hb:lkB B t=some (.rw e k ty xs pins)) (hn:xs.length=n) (hp:lkP pins p=some pin) (hi:i=pin.i.toNat) : bb B (.re t p o) (.re t n i o)
 | vw (t lo hi n e k:Nat) (ty:Ty) (xs:List ty.den) (pins:List (Nat×Pin)) (hb:lkB B t=some (.rw e k ty xs pins)) (hn:xs.length=n) : bb B (.vw t lo hi) (.vw t n lo hi)
 | fe (cs:List SD) (ds:List D) (h:ds=cs.map SD.toD) (hn:∀ c∈cs,c≠.nl) : bb B (.fe cs) (.fe ds)
 | fn (f:FuncId) (ps qs:List SV) (ps' qs':List PV) (hl:ps.length=ps'.length) (hr:∀ (j:Nat) c q,ps[j]? = some c→ps'[j]? = some q→bb B c q) (hl2:qs.length=qs'.length) (hr2:∀ (j:Nat) c q,qs[j]? = some c→qs'[j]? = some q→bb B c q) : bb B (.fn f ps qs) (.fn f ps' qs')
structure bS (B:List (Nat×Option aX)) (cs:List SV) (qs:List PV) : Prop where
 len:cs.length=qs.length
 rep:∀ (j:Nat) c q,cs[j]? = some c→qs[j]? = some q→bb B c q
def Yx (ty:Ty) (xs:List ty.den) (pins:List (Nat×Pin)) : Prop:=∀ p pin,lkP pins p=some pin→pin.i.toNat < xs.length∧∀ cs,pin.cs=some cs→∃ x,xs[pin.i.toNat]? = some x∧cs=Ax ty x
def mf (B:List (Nat×Option aX)) (oc:Bool) : Option aX→Option Box→Prop
 | none,q=>oc=false→q=none
 | some (.st ty cs),q=>∃ qs,q=some (.st ty qs)∧bS B cs qs
 | some (.rw e k ty xs pins),q=>q=some (.rw e k (xs.map (bJ ty)))∧Yx ty xs pins
structure Sim (s:SS) (p:PS) : Prop where
 sl:∀ i,bb s.bx (lkV s.sl i) (p.t i)
 bx:∀ t,mf s.bx (aA s.oc t) (lkB s.bx t) (p.b t)
structure BLe (B B':List (Nat×Option aX)) : Prop where
 rw:∀ t e k ty xs pins,lkB B t=some (.rw e k ty xs pins)→∃ e' k' ty' xs' pins',lkB B' t=some (.rw e' k' ty' xs' pins')∧xs'.length=xs.length∧∀ p pin,lkP pins p=some pin→∃ pin',lkP pins' p=some pin'∧pin'.i=pin.i
 st:∀ t ty cs,lkB B t=some (.st ty cs)→∃ ty' cs',lkB B' t=some (.st ty' cs')
theorem BLe.refl (B:List (Nat×Option aX)) : BLe B B:=⟨fun _ e k ty xs pins h=>⟨e,k,ty,xs,pins,h,rfl,fun _ pin hp=>⟨pin,hp,rfl⟩⟩,fun _ ty cs h=>⟨ty,cs,h⟩⟩
theorem bb.mono {B B':List (Nat×Option aX)} {v:SV} {q:PV} (h:bb B v q) (hB:BLe B B') : bb B' v q:=by
 induction h with
 | junk q=>exact .junk q
 | d c y h=>exact .d c y h
 | ag cs qs hl hr ih=>exact .ag cs qs hl ih
 | tup cs qs hl hr ih=>exact .tup cs qs hl ih
 | ptr t o ty cs hb=>obtain ⟨ty',cs',h1⟩:=hB.st t ty cs hb; exact .ptr t o ty' cs' h1
 | row t n e k ty xs pins hb hn =>
  obtain ⟨e',k',ty',xs',pins',h1,h2,h3⟩:=hB.rw t e k ty xs pins hb
  exact .row t n e' k' ty' xs' pins' h1 (h2.trans hn)
 | re t p o n i e k ty xs pins pin hb hn hp hi =>
  obtain ⟨e',k',ty',xs',pins',h1,h2,h3⟩:=hB.rw t e k ty xs pins hb
  obtain ⟨pin',h4,h5⟩:=h3 p pin hp
  exact .re t p o n i e' k' ty' xs' pins' pin' h1 (h2.trans hn) h4 (by rw [h5]; exact hi)
 | vw t lo hi n e k ty xs pins hb hn =>
  obtain ⟨e',k',ty',xs',pins',h1,h2,h3⟩:=hB.rw t e k ty xs pins hb
  exact .vw t lo hi n e' k' ty' xs' pins' h1 (h2.trans hn)
 | fe cs ds h hn=>exact .fe cs ds h hn
 | fn f ps qs ps' qs' hl hr hl2 hr2 ih ih2=>exact .fn f ps qs ps' qs' hl ih hl2 ih2
theorem bS.mono {B B':List (Nat×Option aX)} {cs:List SV} {qs:List PV} (h:bS B cs qs) (hB:BLe B B') : bS B' cs qs:=⟨h.len,fun j c q h1 h2=>(h.rep j c q h1 h2).mono hB⟩
theorem mf.mono {B B':List (Nat×Option aX)} {oc:Bool} {b:Option aX} {q:Option Box} (h:mf B oc b q) (hB:BLe B B') : mf B' oc b q:=by
 cases b with
 | none=>exact h
 | some b=>cases b with
  | st ty cs=>obtain ⟨qs,h1,h2⟩:=h; exact ⟨qs,h1,h2.mono hB⟩
  | rw e k ty xs pins=>exact h
variable {B:List (Nat×Option aX)}
theorem bS.nil:bS B [] []:=⟨rfl,fun j c q h=>by simp at h⟩
theorem bS.cons {c:SV} {q:PV} {cs:List SV} {qs:List PV} (h:bb B c q) (hs:bS B cs qs) : bS B (c::cs) (q::qs) :=
 ⟨by simp [hs.len],fun j c' q' h1 h2=>by
  cases j with
  | zero=>simp at h1 h2; subst h1 h2; exact h
  | succ j=>simp at h1 h2; exact hs.rep j _ _ h1 h2⟩
theorem bS.head {c:SV} {q:PV} {cs:List SV} {qs:List PV} (h:bS B (c::cs) (q::qs)) : bb B c q:=h.rep 0 c q rfl rfl
theorem bS.tail {c:SV} {q:PV} {cs:List SV} {qs:List PV} (h:bS B (c::cs) (q::qs)) : bS B cs qs :=
 ⟨by have:=h.len; simpa using this,fun j c' q' h1 h2=>h.rep (j + 1) c' q' (by simpa using h1) (by simpa using h2)⟩
theorem bS.cases {cs:List SV} {qs:List PV} (h:bS B cs qs) : (cs = []∧qs = [])∨∃ c q cs' qs',cs=c::cs'∧qs=q::qs'∧bb B c q∧bS B cs' qs':=by
 cases cs with
 | nil=>cases qs with
  | nil=>exact .inl ⟨rfl,rfl⟩
  | cons q qs=>have:=h.len; simp at this
 | cons c cs=>cases qs with
  | nil=>have:=h.len; simp at this
  | cons q qs=>exact .inr ⟨c,q,cs,qs,rfl,rfl,h.head,h.tail⟩
theorem bS.take {cs:List SV} {qs:List PV} (h:bS B cs qs) (n:Nat) : bS B (cs.take n) (qs.take n) :=
 ⟨by simp [h.len],fun j c q h1 h2=>by
  rw [List.getElem?_take] at h1 h2
  split at h1
  ·rename_i hj; rw [if_pos hj] at h2; exact h.rep j c q h1 h2
  ·cases h1⟩
theorem bS.drop {cs:List SV} {qs:List PV} (h:bS B cs qs) (n:Nat) : bS B (cs.drop n) (qs.drop n) :=
 ⟨by simp [h.len],fun j c q h1 h2=>by
  rw [List.getElem?_drop] at h1 h2
  exact h.rep _ c q h1 h2⟩
theorem bS.append {cs ds:List SV} {qs ws:List PV} (h:bS B cs qs) (h':bS B ds ws) : bS B (cs++ds) (qs++ws) :=
 ⟨by simp [h.len,h'.len],fun j c q h1 h2=>by
  rw [List.getElem?_append] at h1 h2
  rw [h.len] at h1
  split at h1
  ·rename_i hj; rw [if_pos hj] at h2; exact h.rep j c q h1 h2
  ·rename_i hj; rw [if_neg hj] at h2; exact h'.rep _ c q h1 h2⟩
theorem mA {α : Type} : ∀ (cs:List α) (o:Nat) (ns:List α),o + ns.length≤cs.length→nh cs o ns=splice cs o ns
 | [],0,[],_=>rfl
 | [],0,n::ns,h=>by simp at h
 | [],o + 1,ns,h=>by simp at h
 | c::cs,0,[],_=>by simp [nh,splice]
 | c::cs,0,n::ns,h=>by
  simp only [nh]
  rw [mA cs 0 ns (by simp at h ⊢; omega)]
  simp [splice]
 | c::cs,o + 1,ns,h=>by
  simp only [nh]
  rw [mA cs o ns (by simp at h ⊢; omega)]
  unfold splice
  rw [show o + 1 + ns.length=(o + ns.length) + 1 by omega]
  simp
theorem bS.splice {cs ns:List SV} {qs ws:List PV} (h:bS B cs qs) (h':bS B ns ws) (o:Nat) : bS B (Go.Proofs.YtaknepbdbappdaaGreat.splice cs o ns) (Go.Proofs.YtaknepbdbappdaaGreat.splice qs o ws):=by
 unfold Go.Proofs.YtaknepbdbappdaaGreat.splice
 rw [h'.len]
 exact ((h.take o).append h').append (h.drop _)
end
section
variable {B:List (Nat×Option aX)} {s:SS} {p:PS}
theorem ky (hs:Sim s p) {dst:Option Nat} {v:SV} {q:PV} (hv:bb s.bx v q) : Sim (s.upd dst v .no) (p.upd dst q none):=by
 refine ⟨fun i=>?_,fun t=>hs.bx t⟩
 show bb s.bx (lkV (rT s.sl dst v) i) (wA p.t dst q i)
 rw [u5]
 unfold wA
 split
 ·exact hv
 ·exact hs.sl i
theorem zS {sl:List (Nat×SV)} {pr oc:List Nat} {ro:Bool} {dst:Option Nat} {v:SV} {q:PV} {B':List (Nat×Option aX)} {u:Option (Nat×Box)} (h1:∀ i,dst≠some i→bb B' (lkV sl i) (p.t i)) (h2:∀ t,mf B' (aA oc t) (lkB B' t) (dn p.b u t)) (hv:bb B' v q) :
  Sim ⟨rT sl dst v,B',pr,ro,oc⟩ (p.upd dst q u):=by
 refine ⟨fun i=>?_,h2⟩
 show bb B' (lkV (rT sl dst v) i) (wA p.t dst q i)
 rw [u5]
 unfold wA
 split
 ·exact hv
 ·rename_i h; exact h1 i h
theorem oz (hs:Sim s p) {pr:List Nat} {ro:Bool} {dst:Option Nat} {v:SV} {q:PV} {t:Nat} {b:aX} {b':Box} (hB:BLe s.bx ((t,some b)::s.bx)) (hb:∀ oc,mf ((t,some b)::s.bx) oc (some b) (some b')) (hv:bb ((t,some b)::s.bx) v q) :
  Sim ⟨rT s.sl dst v,(t,some b)::s.bx,pr,ro,s.oc⟩ (p.upd dst q (some (t,b'))):=by
 refine zS (fun i _=>(hs.sl i).mono hB) (fun t'=>?_) hv
 rw [aq]
 simp only [dn]
 split
 ·exact hb _
 ·exact (hs.bx t').mono hB
theorem Wa (hs:Sim s p) {pr:List Nat} {ro:Bool} {dst:Option Nat} {v:SV} {q:PV} {t:Nat} {b:aX} (hB:BLe s.bx ((t,some b)::s.bx)) (hb:∀ oc,mf ((t,some b)::s.bx) oc (some b) (p.b t)) (hv:bb ((t,some b)::s.bx) v q) :
  Sim ⟨rT s.sl dst v,(t,some b)::s.bx,pr,ro,s.oc⟩ (p.upd dst q none):=by
 refine zS (fun i _=>(hs.sl i).mono hB) (fun t'=>?_) hv
 rw [aq]
 simp only [dn]
 split
 ·rename_i h; subst h; exact hb _
 ·exact (hs.bx t').mono hB
theorem qt {b:aX} {t:Nat} (h:lkB B t=none) : BLe B ((t,some b)::B):=by
 refine ⟨fun t' e k ty xs pins h1=>?_,fun t' ty cs h1=>?_⟩
 ·have : ¬ t' = t:=fun e=>by rw [e,h] at h1; cases h1
  exact ⟨e,k,ty,xs,pins,by rw [aq,if_neg this]; exact h1,rfl,fun _ pin hp=>⟨pin,hp,rfl⟩⟩
 ·have : ¬ t' = t:=fun e=>by rw [e,h] at h1; cases h1
  exact ⟨ty,cs,by rw [aq,if_neg this]; exact h1⟩
theorem N1 {ty ty':TypeId} {cs cs':List SV} {t:Nat} (h:lkB B t=some (.st ty cs)) : BLe B ((t,some (.st ty' cs'))::B):=by
 refine ⟨fun t' e k ty xs pins h1=>?_,fun t' ty2 cs2 h1=>?_⟩
 ·have : ¬ t' = t:=fun e=>by rw [e,h] at h1; cases h1
  exact ⟨e,k,ty,xs,pins,by rw [aq,if_neg this]; exact h1,rfl,fun _ pin hp=>⟨pin,hp,rfl⟩⟩
 ·rw [aq]
  split
  ·exact ⟨_,_,rfl⟩
  ·exact ⟨_,_,h1⟩
theorem N2 {e k:Nat} {ty:Ty} {xs xs':List ty.den} {pins pins':List (Nat×Pin)} {t:Nat} (h:lkB B t=some (.rw e k ty xs pins)) (hl:xs'.length=xs.length) (hp:∀ p pin,lkP pins p=some pin→∃ pin',lkP pins' p=some pin'∧pin'.i=pin.i) : BLe B ((t,some (.rw e k ty xs' pins'))::B):=by
 refine ⟨fun t' e2 k2 ty2 xs2 pins2 h1=>?_,fun t' ty2 cs2 h1=>?_⟩
 ·rw [aq]
  split
  ·rename_i ht
   subst ht
   rw [h] at h1
   injection h1 with h1
   injection h1 with e1 e2 e3 e4 e5
   subst e3
   have e4:=eq_of_heq e4
   subst e4 e5
   exact ⟨e,k,ty,xs',pins',rfl,hl,hp⟩
  ·exact ⟨e2,k2,ty2,xs2,pins2,h1,rfl,fun _ pin hp=>⟨pin,hp,rfl⟩⟩
 ·have : ¬ t' = t:=fun e=>by rw [e,h] at h1; cases h1
  exact ⟨_,_,by rw [aq,if_neg this]; exact h1⟩
def Kw (t:Nat) : aX→aX
 | .st ty cs=>.st ty (iI t cs)
 | b=>b
theorem jv (t:Nat) : ∀ (l:List (Nat×Option aX)) (i:Nat),lkB (n8 t l) i=(lkB l i).map (Kw t)
 | [],_=>rfl
 | (j,none)::l,i=>by simp only [n8,aq,jv t l i]; split <;> rfl
 | (j,some (.st ty cs))::l,i=>by simp only [n8,aq,jv t l i]; split <;> rfl
 | (j,some (.rw e k ty xs pins))::l,i=>by simp only [n8,aq,jv t l i]; split <;> rfl
theorem Ah (t:Nat) : ∀ (l:List (Nat×SV)) (i:Nat),lkV (Db t l) i=stale t (lkV l i)
 | [],_=>rfl
 | (j,v)::l,i=>by simp only [Db,cO,Ah t l i]; split <;> rfl
theorem my (t:Nat) : ∀ (cs:List SV) (j:Nat),(iI t cs)[j]? = (cs[j]?).map (stale t)
 | [],j=>by simp [iI]
 | c::cs,0=>by simp [iI]
 | c::cs,j + 1=>by simpa [iI] using my t cs j
theorem kx (t:Nat) : ∀ cs:List SV,(iI t cs).length=cs.length
 | []=>rfl
 | c::cs=>by simp [iI,kx t cs]
structure Ts (t:Nat) (B B':List (Nat×Option aX)) : Prop where
 rw:∀ t',t'≠t→∀ e k ty xs pins,lkB B t' = some (.rw e k ty xs pins)→lkB B' t' = some (.rw e k ty xs pins)
 st:∀ t' ty cs,lkB B t' = some (.st ty cs)→∃ ty' cs',lkB B' t' = some (.st ty' cs')
theorem bb.stale {B':List (Nat×Option aX)} {t:Nat} {v:SV} {q:PV} (h:bb B v q) (hB:Ts t B B') : bb B' (stale t v) q:=by
 induction h with
 | junk q=>exact .junk q
 | d c y h=>exact .d c y h
 | ag cs qs hl hr ih =>
  refine .ag _ qs (by rw [kx]; exact hl) (fun j c q h1 h2=>?_)
  rw [my,zm] at h1
  obtain ⟨c',h3,rfl⟩:=h1
  exact ih j c' q h3 h2
 | tup cs qs hl hr ih =>
  refine .tup _ qs (by rw [kx]; exact hl) (fun j c q h1 h2=>?_)
  rw [my,zm] at h1
  obtain ⟨c',h3,rfl⟩:=h1
  exact ih j c' q h3 h2
 | ptr t' o ty cs hb=>obtain ⟨ty',cs',h1⟩:=hB.st t' ty cs hb; exact .ptr t' o ty' cs' h1
 | row t' n e k ty xs pins hb hn =>
  simp only [Go.Proofs.YtaknepbdbappdaaGreat.stale,cQ]
  by_cases h:t' = t
  ·simp only [h,decide_true]; exact .junk _
  ·simp only [h,decide_false]; exact .row t' n e k ty xs pins (hB.rw t' h _ _ _ _ _ hb) hn
 | re t' p o n i e k ty xs pins pin hb hn hp hi =>
  simp only [Go.Proofs.YtaknepbdbappdaaGreat.stale,cQ]
  by_cases h:t' = t
  ·simp only [h,decide_true]; exact .junk _
  ·simp only [h,decide_false]; exact .re t' p o n i e k ty xs pins pin (hB.rw t' h _ _ _ _ _ hb) hn hp hi
 | vw t' lo hi n e k ty xs pins hb hn =>
  simp only [Go.Proofs.YtaknepbdbappdaaGreat.stale,cQ]
  by_cases h:t' = t
  ·simp only [h,decide_true]; exact .junk _
  ·simp only [h,decide_false]; exact .vw t' lo hi n e k ty xs pins (hB.rw t' h _ _ _ _ _ hb) hn
 | fe cs ds h hn=>exact .fe cs ds h hn
 | fn f ps qs ps' qs' hl hr hl2 hr2 ih ih2 =>
  refine .fn f _ _ ps' qs' (by rw [kx]; exact hl) (fun j c q h1 h2=>?_) (by rw [kx]; exact hl2) (fun j c q h1 h2=>?_)
  ·rw [my,zm] at h1
   obtain ⟨c',h3,rfl⟩:=h1
   exact ih j c' q h3 h2
  ·rw [my,zm] at h1
   obtain ⟨c',h3,rfl⟩:=h1
   exact ih2 j c' q h3 h2
theorem bS.stale {B':List (Nat×Option aX)} {t:Nat} {cs:List SV} {qs:List PV} (h:bS B cs qs) (hB:Ts t B B') : bS B' (iI t cs) qs :=
 ⟨by rw [kx]; exact h.len,fun j c q h1 h2=>by
  rw [my,zm] at h1
  obtain ⟨c',h3,rfl⟩:=h1
  exact (h.rep j c' q h3 h2).stale hB⟩
theorem TH (hs:Sim s p) {dst:Option Nat} {v:SV} {q:PV} {t e k:Nat} {ty:Ty} {zs xs0:List ty.den} {pins0:List (Nat×Pin)} (h0:lkB s.bx t=some (.rw e k ty xs0 pins0)) (hv:bb ((t,some (.rw e k ty zs []))::n8 t s.bx) v q) :
  Sim (s.upd dst v (.grow t (.rw e k ty zs []))) (p.upd dst q (some (t,.rw e k (zs.map (bJ ty))))):=by
 have hX:Ts t s.bx ((t,some (.rw e k ty zs []))::n8 t s.bx):=by
  refine ⟨fun t' ht e2 k2 ty2 xs2 pins2 h=>?_,fun t' ty2 cs2 h=>?_⟩
  ·rw [aq,if_neg ht,jv,h]
   rfl
  ·have : ¬ t' = t:=fun e=>by rw [e,h0] at h; cases h
   rw [aq,if_neg this,jv,h]
   exact ⟨_,_,rfl⟩
 refine zS (fun i _=>?_) (fun t'=>?_) hv
 ·rw [Ah]
  exact (hs.sl i).stale hX
 ·rw [aq]
  simp only [dn]
  split
  ·exact ⟨rfl,fun p pin h=>by cases h⟩
  ·rename_i ht
   rw [jv]
   have h:=hs.bx t'
   cases hb:lkB s.bx t' with
   | none=>rw [hb] at h; exact h
   | some b =>
    rw [hb] at h
    cases b with
    | st ty2 cs=>obtain ⟨qs,h1,h2⟩:=h; exact ⟨qs,h1,h2.stale hX⟩
    | rw e2 k2 ty2 xs2 pins2=>exact h
def kR:Option aX→Option aX→Prop
 | some (.rw e k ty xs _),b=>∃ pins',b=some (.rw e k ty xs pins')
 | a,b=>b=a
theorem kR.refl (a:Option aX) : kR a a:=by
 match a with
 | none=>rfl
 | some (.st _ _)=>rfl
 | some (.rw _ _ _ _ pins)=>exact ⟨pins,rfl⟩
theorem kR.trans {a b c:Option aX} (h:kR a b) (h':kR b c) : kR a c:=by
 match a,h with
 | none,h=>cases h; exact h'
 | some (.st _ _),h=>cases h; exact h'
 | some (.rw _ _ _ _ _),⟨pins,h⟩ =>
  subst h
  obtain ⟨pins',h'⟩:=h'
  exact ⟨pins',h'⟩
mutual
def la (pr:List Nat) : SV→Bool
 | .row t=>aA pr t
 | .re _ _ _=>false
 | .vw _ _ _=>false
 | .ag cs=>ec pr cs
 | .tup cs=>ec pr cs
 | .fn _ ps qs=>ec pr ps&&ec pr qs
 | _=>true
def ec (pr:List Nat) : List SV→Bool
 | []=>true
 | c::cs=>la pr c&&ec pr cs
end
structure dH (sc W:List Nat) (s s':SS) : Prop where
 pr:s'.pr=s.pr
 ro:s'.ro=s.ro
 bx:∀ t,aA s.pr t=true→kR (lkB s.bx t) (lkB s'.bx t)
 sl:∀ i,aA W i=false→la s.pr (lkV s.sl i)=true→lkV s'.sl i=lkV s.sl i
 st:∀ t,aA sc t=true→∀ ty cs,lkB s.bx t=some (.st ty cs)→∃ cs',lkB s'.bx t=some (.st ty cs')∧cs'.length=cs.length
variable {sc:List Nat}
theorem dH.refl (W:List Nat) (s:SS) : dH sc W s s:=⟨rfl,rfl,fun _ _=>.refl _,fun _ _ _=>rfl,fun _ _ _ cs h=>⟨cs,h,rfl⟩⟩
theorem dH.trans {W:List Nat} {s s' s'':SS} (h:dH sc W s s') (h':dH sc W s' s'') : dH sc W s s'' :=
 ⟨h'.pr.trans h.pr,h'.ro.trans h.ro,fun t ht=>(h.bx t ht).trans (h'.bx t (by rw [h.pr]; exact ht)),fun i hi hsf=>by
  have e:=h.sl i hi hsf
  rw [h'.sl i hi (by rw [e,h.pr]; exact hsf),e],fun t ht ty cs h1=>by
  obtain ⟨cs1,h2,h3⟩:=h.st t ht ty cs h1
  obtain ⟨cs2,h4,h5⟩:=h'.st t ht ty cs1 h2
  exact ⟨cs2,h4,h5.trans h3⟩⟩
theorem dH.wide {W W':List Nat} {s s':SS} (h:dH sc W s s') (hW:∀ i,aA W i=true→aA W' i=true) : dH sc W' s s' :=
 ⟨h.pr,h.ro,h.bx,fun i hi hsf=>h.sl i (by cases e:aA W i; rfl; rw [hW i e] at hi; cases hi) hsf,h.st⟩
theorem xB {s:SS} {t:Nat} (h:wrB s t=true) : s.ro=false∧aA s.pr t=false:=by
 unfold wrB at h
 split at h
 ·cases h
 ·rename_i h1; exact ⟨h1,by simpa using h⟩
theorem mG {s:SS} {t:Nat} (h:IQ s t=true) : aA s.oc t=false∧aA s.pr t=false:=by
 unfold IQ at h
 split at h
 ·cases h
 ·rename_i h1; exact ⟨h1,by simpa using h⟩
def OkU (s:SS) : Upd→Prop
 | .no=>True
 | .new t _=>aA s.pr t=false∧lkB s.bx t=none
 | .set t b=>aA s.pr t=false∧∀ ty cs,lkB s.bx t=some (.st ty cs)→∃ cs',b = .st ty cs'∧cs'.length=cs.length
 | .grow t _=>aA s.pr t=false∧∀ ty cs,lkB s.bx t≠some (.st ty cs)
 | .pin t b=>kR (lkB s.bx t) (some b)
def OkW (s:SS) (dst:Option Nat) (u:Upd) (w:Option (Nat×Box)) : Prop:=∀ t b,w=some (t,b)→((lkB s.bx t=none∧dst=some t)∨s.ro=false)∧fv.memL (TC u) t=true
theorem dy {s:SS} {dst:Option Nat} {u:Upd} : OkW s dst u none:=fun _ _ h=>by cases h
theorem DI (t:Nat) : fv.memL [t] t=true:=by rw [Ae]; simp
theorem xW {s:SS} {dst:Option Nat} {t:Nat} {b:Box} {sb:aX} (h:lkB s.bx t=none) (hd:dst=some t) : OkW s dst (.new t sb) (some (t,b)):=fun t' b' e=>by injection e with e; injection e with e1 e2; subst e1; exact ⟨.inl ⟨h,hd⟩,DI t⟩
theorem Nw {s:SS} {dst:Option Nat} {t:Nat} {b:Box} {sb:aX} (h:s.ro=false) : OkW s dst (.set t sb) (some (t,b)):=fun t' b' e=>by injection e with e; injection e with e1 e2; subst e1; exact ⟨.inr h,DI t⟩
theorem XZ {s:SS} {dst:Option Nat} {t:Nat} {b:Box} {sb:aX} (h:s.ro=false) : OkW s dst (.grow t sb) (some (t,b)):=fun t' b' e=>by injection e with e; injection e with e1 e2; subst e1; exact ⟨.inr h,DI t⟩
theorem DE {pr:List Nat} {t t':Nat} (ht:aA pr t=false) (h:aA pr t' = true) : ¬ t' = t:=fun e=>by rw [e,ht] at h; cases h
mutual
theorem Da {pr:List Nat} {t:Nat} (ht:aA pr t=false) : ∀ v:SV,la pr v=true→stale t v=v
 | .junk,_=>rfl
 | .d _,_=>rfl
 | .fe _,_=>rfl
 | .ptr _ _,_=>rfl
 | .row t',h=>by
  have:=DE ht (show aA pr t' = true from h)
  simp only [stale,cQ,this,decide_false]
 | .re _ _ _,h=>by cases h
 | .vw _ _ _,h=>by cases h
 | .ag cs,h=>by simp only [stale]; rw [nB ht cs h]
 | .tup cs,h=>by simp only [stale]; rw [nB ht cs h]
 | .fn f ps qs,h=>by
  have h:(ec pr ps&&ec pr qs)=true:=h
  rw [Bool.and_eq_true] at h
  simp only [stale]; rw [nB ht ps h.1,nB ht qs h.2]
theorem nB {pr:List Nat} {t:Nat} (ht:aA pr t=false) : ∀ cs:List SV,ec pr cs=true→iI t cs=cs
 | [],_=>rfl
 | c::cs,h=>by
  simp only [ec,Bool.and_eq_true] at h
  simp only [iI]
  rw [Da ht c h.1,nB ht cs h.2]
end
mutual
theorem Kv {t:Nat} : ∀ v:SV,ph v=true→stale t v=v
 | .junk,_=>rfl
 | .d _,_=>rfl
 | .fe _,_=>rfl
 | .ptr _ _,_=>rfl
 | .row _,h=>by cases h
 | .re _ _ _,h=>by cases h
 | .vw _ _ _,h=>by cases h
 | .ag cs,h=>by simp only [stale]; rw [ju cs h]
 | .tup cs,h=>by simp only [stale]; rw [ju cs h]
 | .fn f ps qs,h=>by
  have h:(match ct ps with | true=>ct qs | false=>false)=true:=h
  split at h
  ·rename_i h1; simp only [stale]; rw [ju ps h1,ju qs h]
  ·cases h
theorem ju {t:Nat} : ∀ cs:List SV,ct cs=true→iI t cs=cs
 | [],_=>rfl
 | c::cs,h=>by
  simp only [ct] at h
  split at h
  ·rename_i h1
   simp only [iI]
   rw [Kv c h1,ju cs h]
  ·cases h
end
def mc (s:SS) : Prop:=∀ t,aA s.pr t=true→∃ b,lkB s.bx t=some b∧xR b=true
theorem dH.prOk {W:List Nat} {s s':SS} (h:dH sc W s s') (hp:mc s) : mc s':=by
 intro t ht
 rw [h.pr] at ht
 obtain ⟨b,h1,h2⟩:=hp t ht
 have:=h.bx t ht
 rw [h1] at this
 cases b with
 | st ty cs=>exact ⟨_,this,h2⟩
 | rw e k ty xs pins =>
  obtain ⟨pins',h3⟩:=this
  exact ⟨_,h3,rfl⟩
theorem yg {W:List Nat} {dst:Option Nat} {v:SV} {u:Upd} (hu:OkU s u) (hW:∀ d,dst=some d→aA W d=true) (hpr:mc s) : dH sc W s (s.upd dst v u):=by
 have sl:∀ i,aA W i=false→lkV (rT s.sl dst v) i=lkV s.sl i:=fun i hi=>by
  rw [u5,if_neg (fun e=>by rw [hW i e] at hi; cases hi)]
 have one:∀ t b,aA s.pr t=false→∀ t',aA s.pr t' = true→kR (lkB s.bx t') (lkB ((t,some b)::s.bx) t'):=fun t b ht t' ht'=>by
  rw [aq,if_neg (fun e=>by rw [e,ht] at ht'; cases ht')]
  exact .refl _
 cases u with
 | no=>exact ⟨rfl,rfl,fun _ _=>.refl _,fun i hi _=>sl i hi,fun _ _ _ cs h=>⟨cs,h,rfl⟩⟩
 | new t b =>
  refine ⟨rfl,rfl,one t b hu.1,fun i hi _=>sl i hi,fun t' _ ty cs h=>⟨cs,?_,rfl⟩⟩
  show lkB ((t,some b)::s.bx) t' = _
  rw [aq,if_neg (fun e=>by rw [e,hu.2] at h; cases h)]
  exact h
 | set t b =>
  refine ⟨rfl,rfl,one t b hu.1,fun i hi _=>sl i hi,fun t' _ ty cs h=>?_⟩
  show ∃ cs',lkB ((t,some b)::s.bx) t' = _∧_
  rw [aq]
  by_cases e:t' = t
  ·rw [if_pos e]
   rw [e] at h
   obtain ⟨cs',h1,h2⟩:=hu.2 ty cs h
   exact ⟨cs',by rw [h1],h2⟩
  ·rw [if_neg e]; exact ⟨cs,h,rfl⟩
 | pin t b =>
  refine ⟨rfl,rfl,fun t' _=>?_,fun i hi _=>sl i hi,fun t' _ ty cs h=>?_⟩
  ·show kR _ (lkB ((t,some b)::s.bx) t')
   rw [aq]
   split
   ·rename_i e; subst e; exact hu
   ·exact .refl _
  ·show ∃ cs',lkB ((t,some b)::s.bx) t' = _∧_
   rw [aq]
   by_cases e:t' = t
   ·rw [if_pos e]
    have hu:kR (lkB s.bx t) (some b):=hu
    rw [← e,h] at hu
    exact ⟨cs,hu,rfl⟩
   ·rw [if_neg e]; exact ⟨cs,h,rfl⟩
 | grow t b =>
  refine ⟨rfl,rfl,fun t' ht'=>?_,fun i hi hsf=>?_,fun t' _ ty cs h=>?_⟩
  ·show kR _ (lkB ((t,some b)::n8 t s.bx) t')
   rw [aq,if_neg (fun e=>by rw [e,hu.1] at ht'; cases ht'),jv]
   obtain ⟨b',h1,h2⟩:=hpr t' ht'
   rw [h1]
   cases b' with
   | st ty cs=>simp only [Option.map_some,Kw]; rw [ju cs h2]; rfl
   | rw e k ty xs pins=>exact ⟨pins,rfl⟩
  ·show lkV (rT (Db t s.sl) dst v) i = _
   rw [u5,if_neg (fun e=>by rw [hW i e] at hi; cases hi),Ah]
   exact Da hu.1 _ hsf
  ·show ∃ cs',lkB ((t,some b)::n8 t s.bx) t' = _∧_
   rw [aq,if_neg (fun e=>hu.2 ty cs (by rw [← e]; exact h)),jv,h]
   exact ⟨_,rfl,kx t cs⟩
end
section
variable {B:List (Nat×Option aX)} {s:SS} {p:PS} {P:Program} {ρ : Type}
theorem Hy {v:Value} {c:SD} (h:Hz v=some c) : Kg c (.v v)∧v.oneCell' = true:=by
 unfold Hz at h
 split at h
 ·injection h with h; subst h; exact ⟨rfl,rfl⟩
 ·injection h with h; subst h; exact ⟨rfl,rfl⟩
 ·injection h with h; subst h; exact ⟨rfl,rfl⟩
 ·injection h with h; subst h; exact ⟨rfl,rfl⟩
 ·cases h
theorem xd {B:List (Nat×Option aX)} : ∀ {l:List Value} {cs:List SV},EL l=some cs→bS B cs (l.map fun x=>.d (.v x))∧∀ x∈l,x.oneCell' = true
 | [],cs,h=>by injection h with h; subst h; exact ⟨.nil,fun x hx=>by cases hx⟩
 | v::l,cs,h=>by
  simp only [EL] at h
  split at h
  ·rename_i c cs' h1 h2
   injection h with h
   subst h
   obtain ⟨k1,k2⟩:=Hy h1
   obtain ⟨k3,k4⟩:=xd h2
   refine ⟨.cons (.d _ _ k1) k3,fun x hx=>?_⟩
   rcases List.mem_cons.1 hx with rfl | hx
   ·exact k2
   ·exact k4 x hx
  ·cases h
theorem Wq {v:Value} (e:DC v = .d (.v v)) : bb B (match Hz v with | some c=>.d c | none=>.junk) (DC v):=by
 split
 ·rename_i c h
  rw [e]
  exact .d _ _ (Hy h).1
 ·exact .junk _
theorem EF (v:Value) : bb B (Jf v) (DC v):=by
 have key:=Wq (B:=B) (v:=v)
 cases v with
 | agg xs =>
  simp only [Jf]
  split
  ·rename_i cs h
   obtain ⟨h1,h2⟩:=xd (B:=B) h
   have:xs.all (·.oneCell')=true:=by
    rw [← Array.all_toList,List.all_eq_true]
    exact h2
   simp only [DC,this,if_true]
   exact .ag _ _ h1.len h1.rep
  ·exact .junk _
 | tuple xs=>exact .junk _
 | _=>exact key rfl
theorem bM (hs:Sim s p) (x:Operand) : bb s.bx (evX s x) (ev p x):=by
 cases x with
 | tmp i=>exact hs.sl i
 | const v=>exact EF v
 | global g=>exact .junk _
 | func f=>exact .fn f [] [] [] [] rfl (fun j c q h=>by simp at h) rfl (fun j c q h=>by simp at h)
theorem jO {k:IntKind} {x:Int} {q:PV} (h:bb B (.d (.int k x)) q) : q = .d (.v (.int k x)):=by
 cases h with
 | d c y h=>rw [Ub (show nrm y = .v _ from h)]
theorem kV {x:Bool} {q:PV} (h:bb B (.d (.bool x)) q) : q = .d (.v (.bool x)):=by
 cases h with
 | d c y h=>rw [Ub (show nrm y = .v _ from h)]
theorem qB {x:ByteArray} {q:PV} (h:bb B (.d (.str x)) q) : q = .d (.v (.string x)):=by
 cases h with
 | d c y h=>rw [Ub (show nrm y = .v _ from h)]
theorem PO {q:PV} (h:bb B (.d .nl) q) : q = .d (.v (.slice none 0 0)):=by
 cases h with
 | d c y h=>rw [show y = .v (.slice none 0 0) from h]
theorem PN {ty:Ty} {xs:List ty.den} {q:PV} (h:bb B (.d (.sl ty xs)) q) : q = .d (.sl (xs.map (bJ ty)))∨(xs = []∧q = .d (.v (.slice none 0 0))):=by
 cases h with
 | d c y h =>
  rcases X3 (show nrm y = .sl _ from h) with h | ⟨h1,h2⟩
  ·rw [h]; exact .inl rfl
  ·rw [h2]; exact .inr ⟨by simpa using h1,rfl⟩
theorem CY {cs:List SV} {q:PV} (h:bb B (.ag cs) q) : ∃ qs,q = .ag qs∧bS B cs qs:=by
 cases h with
 | ag _ qs hl hr=>exact ⟨qs,rfl,hl,hr⟩
theorem Tu {cs:List SV} {q:PV} (h:bb B (.tup cs) q) : ∃ qs,q = .tup qs∧bS B cs qs:=by
 cases h with
 | tup _ qs hl hr=>exact ⟨qs,rfl,hl,hr⟩
theorem fH (k:IntKind) (x:Int) : bb B (.d (.int k x)) (.d (.v (.int k x))):=.d _ _ rfl
theorem eV (x:Bool) : bb B (.d (.bool x)) (.d (.v (.bool x))):=.d _ _ rfl
theorem vU (x:ByteArray) : bb B (.d (.str x)) (.d (.v (.string x))):=.d _ _ rfl
theorem M4 (ty:Ty) (xs:List ty.den) : bb B (.d (.sl ty xs)) (.d (.sl (xs.map (bJ ty)))):=.d _ _ rfl
theorem Iz (hs:Sim s p) {t:Nat} {q:PV} {c:SD} (hv:bb s.bx (.row t) q) (h:Wc s t=some c) : ∃ e k ty xs pins,lkB s.bx t=some (.rw e k ty xs pins)∧c = .sl ty xs∧q = .row t xs.length∧p.b t=some (.rw e k (xs.map (bJ ty))):=by
 unfold Wc at h
 split at h
 ·rename_i e k ty xs pins hb
  injection h with h
  have hbx:=hs.bx t
  rw [hb] at hbx
  cases hv with
  | row _ n e2 k2 ty2 xs2 pins2 hb2 hn =>
   rw [hb] at hb2
   injection hb2 with hb2
   injection hb2 with e1 e2 e3 e4 e5
   subst e3
   have e4:=eq_of_heq e4
   subst e4
   exact ⟨e,k,ty,xs,pins,hb,h.symm,by rw [hn],hbx.1⟩
 ·cases h
theorem Jd (hs:Sim s p) {v:SV} {q:PV} {ty:Ty} {xs:List ty.den} (hv:bb s.bx v q) (h:rr s v=some (.sl ty xs)) : kU p.b q=some (xs.map (bJ ty)):=by
 unfold rr at h
 split at h
 ·injection h with h
  subst h
  rcases PN hv with rfl | ⟨rfl,rfl⟩
  ·rfl
  ·simp [kU]
 ·obtain ⟨e,k,ty2,xs2,pins,h1,h2,rfl,h4⟩:=Iz hs hv h
  injection h2 with e1 e2
  subst e1
  have e2:=eq_of_heq e2
  subst e2
  simp [kU,h4]
 ·cases h
theorem W5 {v:SV} {q:PV} (hv:bb s.bx v q) (h:rr s v=some .nl) : q = .d (.v (.slice none 0 0)):=by
 unfold rr at h
 split at h
 ·injection h with h
  subst h
  exact PO hv
 ·unfold Wc at h
  split at h
  ·injection h with h; cases h
  ·cases h
 ·cases h
theorem UX (hs:Sim s p) {v:SV} {q:PV} {c:SD} (hv:bb s.bx v q) (h:rr s v=some c) : asData p.b q = .d c.toD∧(ph v=true→clean q=true∧asData dZ q = .d c.toD):=by
 unfold rr at h
 split at h
 ·injection h with h
  subst h
  cases hv with
  | d c y h=>simp only [asData,h.nrm,clean,and_self,implies_true]
 ·obtain ⟨e,k,ty2,xs2,pins,h1,rfl,rfl,h4⟩:=Iz hs hv h
  refine ⟨by simp [asData,h4,SD.toD],fun h=>by simp [ph] at h⟩
 ·cases h
theorem QS (hs:Sim s p) : ∀ {cs:List SV} {qs:List PV} {ds:List SD},bS s.bx cs qs→Jc s cs=some ds→bG p.b qs=ds.map (fun c=>.d c.toD)∧(ct cs=true→cD qs=true∧bG dZ qs=ds.map (fun c=>.d c.toD))
 | [],qs,ds,h,hd=>by
  rcases h.cases with ⟨_,rfl⟩ | ⟨_,_,_,_,h1,_⟩
  ·injection hd with hd; subst hd; simp [bG,cD]
  ·cases h1
 | c::cs,qs,ds,h,hd=>by
  rcases h.cases with ⟨h1,_⟩ | ⟨c',q,cs',qs',h1,rfl,h2,h3⟩
  ·cases h1
  ·injection h1 with e1 e2
   subst e1 e2
   simp only [Jc] at hd
   split at hd
   ·rename_i d ds' k1 k2
    injection hd with hd
    subst hd
    obtain ⟨m1,m2⟩:=UX hs h2 k1
    obtain ⟨m3,m4⟩:=QS hs h3 k2
    refine ⟨by simp [bG,m1,m3],fun hn=>?_⟩
    simp only [ct] at hn
    split at hn
    ·rename_i hn1
     obtain ⟨n1,n2⟩:=m2 hn1
     obtain ⟨n3,n4⟩:=m4 hn
     simp [bG,cD,n1,n2,n3,n4]
    ·cases hn
   ·cases hd
theorem AE {v:SV} {q:PV} {cs:List SV} (hv:bb B v q) (h:Jn v=some cs) : ∃ qs,AF q=some qs∧bS B cs qs:=by
 cases hv with
 | junk q=>cases h
 | tup=>cases h
 | ag cs' qs hl hr=>injection h with h; subst h; exact ⟨qs,rfl,hl,hr⟩
 | d c y hd=>injection h with h; subst h; exact ⟨_,rfl,.cons (.d c y hd) .nil⟩
 | ptr t o ty cs' hb=>injection h with h; subst h; exact ⟨_,rfl,.cons (.ptr t o ty cs' hb) .nil⟩
 | row t n e k ty xs pins hb hn=>injection h with h; subst h; exact ⟨_,rfl,.cons (.row t n e k ty xs pins hb hn) .nil⟩
 | re t p o n i e k ty xs pins pin hb hn hp hi=>injection h with h; subst h; exact ⟨_,rfl,.cons (.re t p o n i e k ty xs pins pin hb hn hp hi) .nil⟩
 | vw t lo hi n e k ty xs pins hb hn=>injection h with h; subst h; exact ⟨_,rfl,.cons (.vw t lo hi n e k ty xs pins hb hn) .nil⟩
 | fe cs' ds hd hn=>injection h with h; subst h; exact ⟨_,rfl,.cons (.fe cs' ds hd hn) .nil⟩
 | fn f ps qs ps' qs' hl hr hl2 hr2=>injection h with h; subst h; exact ⟨_,rfl,.cons (.fn f ps qs ps' qs' hl hr hl2 hr2) .nil⟩
theorem KO {cs:List SV} {qs:List PV} (h:bS B cs qs) {size:Nat} {agg:Bool} {v:SV} (hp:Qc size agg cs=some v) : ∃ q,Bp size agg qs=some q∧bb B v q:=by
 unfold Qc at hp
 unfold Bp
 split at hp
 ·rename_i ha
  rw [if_pos ha]
  split at hp
  ·rename_i hl
   injection hp with hp
   subst hp
   rw [h.len] at hl
   rw [if_pos hl]
   have:=h.take size
   exact ⟨_,rfl,.ag _ _ this.len this.rep⟩
  ·cases hp
 ·rename_i ha
  rw [if_neg ha]
  rcases h.cases with ⟨rfl,rfl⟩ | ⟨c,q,cs',qs',rfl,rfl,h1,h2⟩
  ·cases hp
  ·injection hp with hp; subst hp; exact ⟨q,rfl,h1⟩
theorem DM (cs:List SD) (h:∀ c∈cs,c≠.nl) : bS B (Af cs) ((cs.map SD.toD).map .d):=by
 induction cs with
 | nil=>exact .nil
 | cons c cs ih=>exact .cons (.d _ _ (Kg.of (h c List.mem_cons_self))) (ih fun c hc=>h c (List.mem_cons_of_mem _ hc))
end
section
variable {B:List (Nat×Option aX)} {s:SS} {p:PS} {P:Program} {ρ : Type}
def xA (s:SS) (k:SV→Option ρ) (res : ρ) (e:Option PV) : Prop:=∃ v q,e=some q∧k v=some res∧bb s.bx v q
theorem dk {k:SV→Option ρ} {res : ρ} {e:Option PV} {v:SV} {q:PV} (he:e=some q) (hk:k v=some res) (hv:bb s.bx v q) : xA s k res e:=⟨v,q,he,hk,hv⟩
theorem Uo {x:Operand} {n:Int} {kd:IntKind} {y:Int} (h:Uu x=some n) (hy:evX s x = .d (.int kd y)) : y=n:=by
 unfold Uu at h
 split at h
 ·injection h with h
  subst h
  simp only [evX,Jf,Hz] at hy
  injection hy with hy
  injection hy with _ hy
  exact hy.symm
 ·cases h
theorem Sd {op:BinOp} {kd:IntKind} {lit:Option Int} {x y:Int} {k:SV→Option ρ} {res : ρ} (hl:∀ n,lit=some n→y=n) (h:N3 op kd lit x y k=some res) : xA s k res (yw op kd x y):=by
 cases op <;> simp only [N3] at h
 case add=>exact dk rfl h (fH _ _)
 case sub=>exact dk rfl h (fH _ _)
 case mul=>exact dk rfl h (fH _ _)
 case quo =>
  split at h
  ·rename_i n
   obtain ⟨h1,h2⟩:=am h
   have hy:=hl n rfl
   subst hy
   have : ¬ y=0:=by simpa using h1
   exact dk (by simp [yw,this]) h2 (fH _ _)
  ·obtain ⟨q,h1,h2⟩:=cG h
   split at h1
   ·cases h1
   ·rename_i hy
    injection h1 with h1
    subst h1
    exact dk (by simp [yw,hy]) h2 (fH _ _)
 case rem =>
  split at h
  ·rename_i n
   obtain ⟨h1,h2⟩:=am h
   have hy:=hl n rfl
   subst hy
   have : ¬ y=0:=by simpa using h1
   exact dk (by simp [yw,this]) h2 (fH _ _)
  ·obtain ⟨q,h1,h2⟩:=cG h
   unfold FV at h1
   split at h1
   ·cases h1
   ·rename_i hy
    injection h1 with h1
    subst h1
    exact dk (by simp [yw,hy]) h2 (fH _ _)
 case eql=>exact dk rfl h (eV _)
 case neq=>exact dk rfl h (eV _)
 case lss=>exact dk rfl h (eV _)
 case leq=>exact dk rfl h (eV _)
 case gtr=>exact dk rfl h (eV _)
 case geq=>exact dk rfl h (eV _)
 case and=>exact dk rfl h (fH _ _)
 case or=>exact dk rfl h (fH _ _)
 case xor=>exact dk rfl h (fH _ _)
 all_goals cases h
theorem Rf {op:BinOp} {kd:IntKind} {lit:Option Int} {x y:Int} {k:SV→Option ρ} {res : ρ} (hl:∀ n,lit=some n→y=n) (h:Nd op kd lit x y k=some res) : xA s k res (rX op kd x y):=by
 unfold Nd at h
 split at h
 ·rename_i n
  obtain ⟨h1,h2⟩:=am h
  have hy:=hl n rfl
  subst hy
  have : ¬ y < 0:=by have:=zd h1; omega
  split at h2
  ·exact dk (by simp [rX,this]) h2 (fH _ _)
  ·exact dk (by simp [rX,this]) h2 (fH _ _)
  ·cases h2
 ·obtain ⟨u,h1,h2⟩:=cG h
  split at h1
  ·cases h1
  ·rename_i hy
   split at h2
   ·exact dk (by simp [rX,hy]) h2 (fH _ _)
   ·exact dk (by simp [rX,hy]) h2 (fH _ _)
   ·cases h2
theorem Q8 {op:BinOp} {x y:ByteArray} {k:SV→Option ρ} {res : ρ} (h:M7 op x y k=some res) : xA s k res (Kt op x y):=by
 cases op <;> simp only [M7] at h
 case add =>
  obtain ⟨z,h1,h2⟩:=cG h
  unfold mn at h1
  split at h1
  ·rename_i hz
   injection h1 with h1
   subst h1
   exact dk (by simp only [Kt,hz,if_true]) h2 (vU _)
  ·cases h1
 case eql=>exact dk rfl h (eV _)
 case neq=>exact dk rfl h (eV _)
 case lss=>exact dk rfl h (eV _)
 case leq=>exact dk rfl h (eV _)
 case gtr=>exact dk rfl h (eV _)
 case geq=>exact dk rfl h (eV _)
 all_goals cases h
theorem M5 {op:BinOp} {x y:Bool} {k:SV→Option ρ} {res : ρ} (h:Il op x y k=some res) : xA s k res (qC op x y):=by
 cases op <;> simp only [Il] at h
 case eql=>exact dk rfl h (eV _)
 case neq=>exact dk rfl h (eV _)
 all_goals cases h
theorem Hh:∀ {l m:List Nat},I2 l m=true→l=m
 | [],[],_=>rfl
 | [],_ :: _,h=>by cases h
 | _ :: _,[],h=>by cases h
 | a::l,b::m,h=>by
  simp only [I2,cQ] at h
  by_cases e:a=b
  ·simp only [e,decide_true] at h; rw [e,Hh h]
  ·simp only [e,decide_false] at h; cases h
theorem Hi {c d:SD} {q w:PV} {n:Nat} {r:Bool} (hc:bb B (.d c) q) (hd:bb B (.d d) w) (hn:NB (.d c)=some n) (h:sk c d=some r) : Aw n q w=some r:=by
 cases c with
 | int k a =>
  cases d <;> simp only [sk] at h <;> try cases h
  rw [jO hc,jO hd]
  injection hn with hn
  subst hn
  exact h
 | bool a =>
  cases d <;> simp only [sk] at h <;> try cases h
  rw [kV hc,kV hd]
  injection hn with hn
  subst hn
  rfl
 | str a =>
  cases d <;> simp only [sk] at h <;> try cases h
  rw [qB hc,qB hd]
  injection hn with hn
  subst hn
  rfl
 | sl t xs=>cases hn
 | nl=>cases hn
theorem WL:∀ {cs ds:List SV} {qs ws:List PV} {l:List Nat} {r:Bool},bS B cs qs→bS B ds ws→CI cs=some l→BC cs ds=some r→jU l qs ws=some r:=by
 intro cs
 induction cs with
 | nil=>intro ds qs ws l r _ _ _ h; cases ds <;> simp [BC] at h
 | cons c cs ih =>
  intro ds qs ws l r hc hd hl h
  rcases hc.cases with ⟨h1,_⟩ | ⟨c',q,cs',qs',h1,rfl,hcq,hcs⟩
  ·cases h1
  injection h1 with e1 e2
  subst e1 e2
  rcases hd.cases with ⟨rfl,_⟩ | ⟨d,w,ds',ws',rfl,rfl,hdw,hds⟩
  ·cases c <;> cases cs <;> simp [BC] at h
  simp only [CI] at hl
  split at hl
  ·rename_i n l' hn hl'
   injection hl with hl
   subst hl
   cases c with
   | d c =>
    cases d with
    | d d =>
     by_cases hlast:cs = []∧ds' = []
     ·obtain ⟨rfl,rfl⟩:=hlast
      simp only [BC] at h
      have:=Hi hcq hdw hn h
      rcases hcs.cases with ⟨_,rfl⟩ | ⟨_,_,_,_,h1,_⟩
      ·rcases hds.cases with ⟨_,rfl⟩ | ⟨_,_,_,_,h1,_⟩
       ·injection hl' with hl'
        subst hl'
        simp [jU,this]
       ·cases h1
      ·cases h1
     ·have h:(match sk c d,BC cs ds' with | some a,some r=>some (a&&r) | _,_=>none)=some r:=by
       cases cs with
       | nil=>cases ds' with
        | nil=>exact absurd ⟨rfl,rfl⟩ hlast
        | cons=>exact h
       | cons=>exact h
      split at h
      ·rename_i a r' k1 k2
       injection h with h
       subst h
       simp [jU,Hi hcq hdw hn k1,ih hcs hds hl' k2]
      ·cases h
    | _=>cases cs <;> simp [BC] at h
   | _=>simp [NB] at hn
  ·cases hl
theorem Xc {op:BinOp} {t:TypeId} {lit:Option Int} {v w:SV} {q r:PV} {k:SV→Option ρ} {res : ρ} (hv:bb s.bx v q) (hw:bb s.bx w r) (hl:∀ n kd y,lit=some n→w = .d (.int kd y)→y=n) (h:Yr P op t lit v w k=some res) : xA s k res (su P op t q r):=by
 unfold Yr at h
 split at h
 ·rename_i kd x kd' y
  obtain rfl:=jO hv
  obtain rfl:=jO hw
  have e:su P op t (.d (.v (.int kd x))) (.d (.v (.int kd' y)))=if IX op then rX op kd x y else if kd=kd' then yw op kd x y else none:=rfl
  rw [e]
  split at h
  ·rename_i hs
   rw [if_pos hs]
   exact Rf (fun n hn=>hl n kd' y hn rfl) h
  ·rename_i hs
   rw [if_neg (by simp [hs])]
   split at h
   ·rename_i hk
    rw [if_pos hk]
    exact Sd (fun n hn=>hl n kd' y hn rfl) h
   ·cases h
 ·obtain rfl:=qB hv
  obtain rfl:=qB hw
  exact Q8 h
 ·obtain rfl:=kV hv
  obtain rfl:=kV hw
  split at h
  ·rename_i hu
   rename_i x y _
   have e:su P op t (.d (.v (.bool x))) (.d (.v (.bool y)))=qC op x y:=by simp [su,asI,asS,asB,hu]
   rw [e]
   exact M5 h
  ·cases h
 ·rename_i xs ys
  obtain ⟨qs,rfl,hq⟩:=CY hv
  obtain ⟨ws,rfl,hws⟩:=CY hw
  split at h
  ·rename_i l l' r h1 h2 h3
   obtain ⟨h4,h5⟩:=am h
   obtain rfl:=Hh h4
   have h6:=WL hq hws h2 h3
   have e:su P op t (.ag qs) (.ag ws)=qC op r true:=by simp [su,asI,asS,asB,I6,h1,h6]
   rw [e]
   split at h5
   ·exact dk (by simp [qC]) h5 (eV _)
   ·exact dk (by simp [qC]) h5 (eV _)
   ·cases h5
  ·cases h
 ·cases h
theorem XN {op:UnOp} {v:SV} {q:PV} {k:SV→Option ρ} {res : ρ} (hv:bb s.bx v q) (h:unX op v k=some res) : xA s k res (QM op q):=by
 unfold unX at h
 split at h
 ·obtain rfl:=kV hv; exact dk rfl h (eV _)
 ·obtain rfl:=jO hv; exact dk rfl h (fH _ _)
 ·cases h
theorem BG:∀ (xs:List Int) (acc:ByteArray),vb (List.map (bJ (.int .u8)) xs) acc=some (xs.foldl (fun r n=>r.push (UInt8.ofNat n.toNat)) acc)
 | [],acc=>rfl
 | x::xs,acc=>BG xs (acc.push (UInt8.ofNat x.toNat))
theorem Ew {b:Nat→Option Box} {src dst e:TypeId} {q:PV} {x:Int} {xs:List Int} (h1:P.underlying src=some (.slice e)) (h2:P.underlying dst=some .string) (h3:P.underlying e=some (.int .u8)) (h4:kU b q=some (List.map (bJ (.int .u8)) (x::xs))) :
  ia P b src dst q=(vb (List.map (bJ (.int .u8)) (x::xs)) ByteArray.empty).map fun s=>.d (.v (.string s)):=by
 unfold ia
 rw [h1,h2]
 simp only [h3,h4]
 rfl
theorem Eu {b:Nat→Option Box} {src dst:TypeId} {q:PV} {u:TypeDesc} (h1:P.underlying src=some u) (hne:∀ e,u = .slice e→False) : ia P b src dst q=sr P src dst q:=by
 unfold ia
 split
 ·rename_i e h3 h4
  rw [h1] at h3
  injection h3 with h3
  exact absurd h3 (hne e)
 ·rfl
theorem U3 (hs:Sim s p) {src dst:TypeId} {v:SV} {q:PV} {k:SV→Option ρ} {res : ρ} (hv:bb s.bx v q) (h:U4 P s src dst v k=some res) : xA s k res (ia P p.b src dst q):=by
 unfold U4 at h
 split at h
 ·cases h
 ·rename_i e h1
  split at h
  ·rename_i h2
   split at h
   ·rename_i xs h3 h4
    obtain ⟨z,h5,h6⟩:=cG h
    have h7:=Jd hs hv h4
    unfold Wb at h5
    split at h5
    ·cases h5
    ·rename_i hne
     injection h5 with h5
     cases xs with
     | nil=>exact absurd rfl hne
     | cons x xs =>
      refine dk ?_ h6 (vU _)
      rw [Ew h1 h2 h3 h7]
      exact congrArg (Option.map _) ((BG _ _).trans (congrArg some h5))
   ·cases h
  ·cases h
 ·rename_i u hne h1
  rw [show ia P p.b src dst q=sr P src dst q from Eu h1 (fun e he=>hne e he)]
  split at h
  ·rename_i h2
   obtain rfl:=jO hv
   exact dk (by simp [sr,h1,h2,asI]) h (fH _ _)
  ·rename_i h2
   obtain rfl:=qB hv
   exact dk (by simp [sr,h1,h2,asS]) h (vU _)
  ·cases h
theorem F4 {t:TypeId} {f:Nat} {v:SV} {q:PV} {k:SV→Option ρ} {res : ρ} (hv:bb s.bx v q) (h:wZ P t v f k=some res) : xA s k res (gR P t q f):=by
 unfold wZ at h
 split at h
 ·rename_i off size agg hf
  obtain ⟨h1,h2⟩:=am h
  have hsz : ¬ size=0:=by simpa using h1
  split at h2
  ·cases hv with
   | ptr _ _ ty cs hb=>exact dk (by simp [gR,hf,hsz]) h2 (.ptr _ _ ty cs hb)
  ·cases hv with
   | fe cs ds hd hn=>exact dk (q:=.fe (ds.drop off)) (by simp [gR,hf,hsz]) h2 (.fe _ _ (by rw [hd,List.map_drop]) (fun c hc=>hn c (List.mem_of_mem_drop hc)))
  ·cases hv with
   | re _ _ _ n i e k ty xs pins pin hb hn hp hi=>exact dk (q:=.re _ n i (_ + off)) (by simp [gR,hf,hsz]) h2 (.re _ _ _ n i e k ty xs pins pin hb hn hp hi)
  ·cases h2
 ·cases h
theorem Wt {v:SV} {q:PV} {k:SV→Option ρ} {res : ρ} (hv:bb s.bx v q) (h:X5 v k=some res) : xA s k res (w7 q):=by
 unfold X5 at h
 split at h
 ·cases hv with
  | ptr _ _ ty cs hb=>exact dk (by simp [w7]) h (.ptr _ _ ty cs hb)
 ·cases hv with
  | re _ _ _ n i e k ty xs pins pin hb hn hp hi=>exact dk (q:=.re _ n i _) (by simp [w7]) h (.re _ _ _ n i e k ty xs pins pin hb hn hp hi)
 ·cases hv with
  | fe cs ds hd hn=>exact dk (q:=.fe ds) (by simp [w7]) h (.fe _ _ hd hn)
 ·cases h
theorem RT {t:TypeId} {f:Nat} {v:SV} {q:PV} {k:SV→Option ρ} {res : ρ} (hv:bb s.bx v q) (h:NM P t v f k=some res) : xA s k res (ua P t q f):=by
 unfold NM at h
 split at h
 ·rename_i off size agg cs hf
  obtain ⟨qs,rfl,hq⟩:=CY hv
  split at h
  ·rename_i v' h1
   obtain ⟨q',h2,h3⟩:=KO (hq.drop off) h1
   exact dk (by simp [ua,hf,h2]) h h3
  ·cases h
 ·cases h
theorem Vj (hs:Sim s p) {v:SV} {q:PV} {cs:List SV} (hv:bb s.bx v q) (h:Vk s v=some cs) : ∃ qs,uj p.b q=some qs∧bS s.bx cs qs:=by
 unfold Vk at h
 split at h
 ·rename_i t off
  cases hv
  split at h
  ·rename_i ty cs' hb
   injection h with h
   subst h
   have:=hs.bx t
   rw [hb] at this
   obtain ⟨qs,h1,h2⟩:=this
   exact ⟨qs.drop off,by simp [uj,h1],h2.drop off⟩
  ·cases h
 ·injection h with h
  subst h
  cases hv with
  | fe _ ds hd hn=>exact ⟨_,rfl,by rw [hd]; exact DM _ hn⟩
 ·rename_i t pi off
  split at h
  ·rename_i e k ty xs pins hb
   split at h
   ·rename_i j cs' hp
    injection h with h
    subst h
    have hbx:=hs.bx t
    rw [hb] at hbx
    obtain ⟨h1,h2⟩:=hbx
    obtain ⟨h3,h4⟩:=h2 pi _ hp
    obtain ⟨x,h5,h6⟩:=h4 cs' rfl
    cases hv with
    | re _ _ _ n i e2 k2 ty2 xs2 pins2 pin2 hb2 hn2 hp2 hi2 =>
     rw [hb] at hb2
     injection hb2 with hb2
     injection hb2 with e1 e2 e3 e4 e5
     subst e3
     have e4:=eq_of_heq e4
     subst e4 e5
     rw [hp] at hp2
     injection hp2 with hp2
     subst hp2
     refine ⟨((bJ ty x).drop off).map .d,by simp [uj,h1,hn2,hi2,h5],?_⟩
     have:=DM (B:=s.bx) (cs'.drop off) (fun c hc=>by rw [h6] at hc; exact QJ ty x c (List.mem_of_mem_drop hc))
     rw [h6] at this ⊢
     rw [List.map_drop,CK] at this
     simpa [List.map_drop] using this
   ·cases h
  ·cases h
 ·cases h
theorem KX (hs:Sim s p) {t:TypeId} {v w:SV} {q:PV} (hv:bb s.bx v q) (h:Qm P s t v=some w) : ∃ r,qp P p.b t q=some r∧bb s.bx w r:=by
 unfold Qm at h
 split at h
 ·rename_i i cl h1 h2
  obtain ⟨qs,h3,h4⟩:=Vj hs hv h2
  obtain ⟨r,h5,h6⟩:=KO h4 h
  exact ⟨r,by simp [qp,h1,h3,h5],h6⟩
 ·cases h
theorem RM {v:SV} {q:PV} {i:Int} (hv:bb B v q) (h:Al v=some i) : ∃ k,q = .d (.v (.int k i)):=by
 unfold Al at h
 split at h
 ·injection h with h; subst h; exact ⟨_,jO hv⟩
 ·cases h
theorem lg {q:PV} {k:IntKind} {i:Int} {n:Nat} (h:q = .d (.v (.int k i))) (h0 : 0≤i) : vE (some q) n=some i.toNat:=by
 subst h
 simp [vE,asI,h0]
end
section
variable {B:List (Nat×Option aX)} {s:SS} {p:PS} {P:Program} {ρ : Type}
def M1 (s:SS) (p:PS) (dst:Option Nat) (k:SV→Upd→Option ρ) (res : ρ) (e:Option (PV×Option (Nat×Box))) : Prop :=
 ∃ v u q w,e=some (q,w)∧k v u=some res∧Sim (s.upd dst v u) (p.upd dst q w)∧OkU s u∧OkW s dst u w
theorem xA.done (hs:Sim s p) {dst:Option Nat} {k:SV→Upd→Option ρ} {res : ρ} {e:Option PV} (h:xA s (fun v=>k v .no) res e) : M1 s p dst k res (e.map fun r=>(r,none)):=by
 obtain ⟨v,q,rfl,h2,h3⟩:=h
 exact ⟨v,.no,q,none,rfl,h2,ky hs h3,trivial,dy⟩
theorem Am {α : Type} {xs:List α} {i:Int} {x : α} (h:aw xs i=some x) : 0≤i∧xs[i.toNat]? = some x∧i.toNat < xs.length:=by
 unfold aw at h
 split at h
 ·rename_i h0
  exact ⟨h0,h,(zg.1 h).1⟩
 ·cases h
theorem F3 (hs:Sim s p) {dst:Option Nat} {t:TypeId} {v w:SV} {q r:PV} {k:SV→Upd→Option ρ} {res : ρ} (hv:bb s.bx v q) (hw:bb s.bx w r) (h:wV P s dst t v w k=some res) :
  M1 s p dst k res ((eg P p.b t q r).map fun r=>(r,none)):=by
 unfold wV at h
 split at h
 ·rename_i e kd i d hu
  obtain rfl:=jO hw
  split at h
  ·rename_i ie hie
   split at h
   ·rename_i ty xs
    obtain ⟨h1,h2⟩:=am h
    obtain ⟨x,h3,h4⟩:=cG h2
    obtain ⟨k0,k1,k2⟩:=Am h3
    have hl:(bJ ty x).length=ie.size:=by rw [px]; simpa using h1
    rcases PN hv with rfl | ⟨rfl,_⟩
    ·refine ⟨_,.no,.fe (bJ ty x),none,?_,h4,ky hs (.fe _ _ (CK ty x).symm (QJ ty x)),trivial,dy⟩
     simp [eg,hu,asI,hie,k0,k1,hl]
    ·simp at k2
   ·rename_i t'
    split at h
    ·rename_i e' kk ty xs pins hb
     obtain ⟨h1,h2⟩:=am h
     obtain ⟨h2,h3⟩:=am h2
     obtain ⟨x,h4,h5⟩:=cG h3
     obtain ⟨k0,k1,k2⟩:=Am h4
     have hbx:=hs.bx t'
     rw [hb] at hbx
     obtain ⟨hbx,hpins⟩:=hbx
     have hkk:kk=ie.size:=by simpa using h1
     have hnp:lkP pins d=none:=by simpa using h2
     cases hv with
     | row _ n e2 k2' ty2 xs2 pins2 hb2 hn2 =>
      rw [hb] at hb2
      injection hb2 with hb2
      injection hb2 with e1 e2 e3 e4 e5
      subst e3
      have e4:=eq_of_heq e4
      subst e4 e5 hn2
      refine ⟨_,_,.re t' xs.length i.toNat 0,none,?_,h5,?_,(show kR (lkB s.bx t') _ from by rw [hb]; exact ⟨_,rfl⟩),dy⟩
      ·simp [eg,hu,asI,hie,k0,hbx,hkk,k2]
      ·have hble:BLe s.bx ((t',some (.rw e' kk ty xs ((d,⟨i,some (Ax ty x)⟩)::pins)))::s.bx):=N2 hb rfl (fun p pin hp=>⟨pin,by
        rw [rf,if_neg (fun e=>by rw [e,hnp] at hp; cases hp)]; exact hp,rfl⟩)
       refine Wa hs hble (fun _=>⟨hbx,fun p pin hp=>?_⟩) (.re t' d 0 xs.length i.toNat e' kk ty xs _ ⟨i,some (Ax ty x)⟩ (by rw [aq,if_pos rfl]) rfl (by rw [rf,if_pos rfl]) rfl)
       rw [rf] at hp
       split at hp
       ·injection hp with hp
        subst hp
        exact ⟨k2,fun cs hc=>⟨x,k1,by injection hc with hc; exact hc.symm⟩⟩
       ·exact hpins p pin hp
    ·cases h
   ·cases h
  ·cases h
 ·cases h
theorem uZ {cs:List SV} {qs:List PV} {ds:List SD} (h:bS B cs qs) (hd:sW cs=some ds) : qs.mapM toD=some (ds.map SD.toD):=by
 induction cs generalizing qs ds with
 | nil =>
  rcases h.cases with ⟨_,rfl⟩ | ⟨_,_,_,_,h1,_⟩
  ·injection hd with hd; subst hd; rfl
  ·cases h1
 | cons c cs ih =>
  rcases h.cases with ⟨h1,_⟩ | ⟨c',q,cs',qs',h1,rfl,h2,h3⟩
  ·cases h1
  ·injection h1 with e1 e2
   subst e1 e2
   simp only [sW] at hd
   split at hd
   ·rename_i d ds' k1 k2
    injection hd with hd
    subst hd
    have:=ih h3 k2
    unfold XT at k1
    split at k1
    ·injection k1 with k1
     subst k1
     cases h2 with
     | d _ y hy=>simp [List.mapM_cons,toD,hy.nrm,this]
    ·cases k1
   ·cases hd
theorem zW:∀ {cs:List SV} {ds:List SD},sW cs=some ds→cs.length=ds.length
 | [],ds,h=>by injection h with h; subst h; rfl
 | c::cs,ds,h=>by
  simp only [sW] at h
  split at h
  ·rename_i d ds' k1 k2
   injection h with h
   subst h
   simp [zW k2]
  ·cases h
theorem mI:∀ (l:List (Nat×Pin)) (i:Nat),lkP (vV l) i=(lkP l i).map fun pin=>⟨pin.i,none⟩
 | [],_=>rfl
 | (j,⟨n,cs⟩)::l,i=>by simp only [vV,rf,mI l i]; split <;> rfl
theorem Ra (hs:Sim s p) {dst:Option Nat} (hd:dst=none) {t:TypeId} {v w:SV} {q r:PV} {k:SV→Upd→Option ρ} {res : ρ} (hv:bb s.bx v q) (hw:bb s.bx w r) (h:Na P s t v w k=some res) :
  M1 s p dst k res ((lw P p.b t q r).map fun u=>(.junk,some u)):=by
 unfold Na at h
 split at h
 ·rename_i i ns hi hns
  obtain ⟨ws,hws,hcs⟩:=AE hw hns
  split at h
  ·rename_i x off
   cases hv
   split at h
   ·rename_i ty cs hb
    obtain ⟨h1,h2⟩:=am h
    obtain ⟨h2,h3⟩:=am h2
    obtain ⟨h3,h4⟩:=am h3
    have h1:ns.length=i.size:=by simpa using h1
    have h2:=zd h2
    obtain ⟨hro,h3⟩:=xB h3
    have hbx:=hs.bx x
    rw [hb] at hbx
    obtain ⟨qs,hq1,hq2⟩:=hbx
    have l1:=hcs.len
    have l2:=hq2.len
    refine ⟨_,_,.junk,some (x,.st ty (splice qs off ws)),?_,h4,?_,⟨h3,fun ty2 cs2 h=>?_⟩,Nw hro⟩
    ·simp only [lw,hi,hws,hq1]
     rw [if_pos ⟨by omega,by omega⟩]
     rfl
    ·refine oz hs (N1 hb) (fun _=>⟨_,rfl,?_⟩) (.junk _)
     rw [mA cs off ns h2]
     exact (hq2.splice hcs off).mono (N1 hb)
    ·rw [hb] at h
     injection h with h
     injection h with e1 e2
     subst e1 e2
     refine ⟨_,rfl,?_⟩
     rw [mA cs off ns h2]
     unfold splice
     simp
     omega
   ·cases h
  ·rename_i x pi off
   split at h
   ·rename_i e kk ty xs pins ds hb hds
    split at h
    ·rename_i j cs0 hp
     obtain ⟨h1,h2⟩:=am h
     obtain ⟨h2,h3⟩:=am h2
     obtain ⟨h3,h4⟩:=am h3
     have h1:ns.length=i.size:=by simpa using h1
     have h2:=zd h2
     obtain ⟨hro,h3⟩:=xB h3
     split at h4
     ·rename_i cs' hcs'
      split at h4
      ·rename_i y hy
       have hbx:=hs.bx x
       rw [hb] at hbx
       obtain ⟨hbx,hpins⟩:=hbx
       obtain ⟨k1,k2⟩:=hpins pi _ hp
       have hy2:=I8 hy
       cases hv with
       | re _ _ _ n i2 e2 k2' ty2 xs2 pins2 pin2 hb2 hn2 hp2 hi2 =>
        rw [hb] at hb2
        injection hb2 with hb2
        injection hb2 with e1 e2 e3 e4 e5
        subst e3
        have e4:=eq_of_heq e4
        subst e4 e5 hn2
        rw [hp] at hp2
        injection hp2 with hp2
        subst hp2
        simp only at hi2 k1 k2
        subst hi2
        obtain ⟨x0,hx0⟩ : ∃ x0,xs[j.toNat]? = some x0:=⟨xs[j.toNat],by simp [k1]⟩
        have hds':ws.mapM toD=some (ds.map SD.toD):=uZ hcs hds
        have hlen0:(bJ ty x0).length=tyN ty:=px ty x0
        have hsp:splice (bJ ty x0) off (ds.map SD.toD)=bJ ty y:=by
         split at hcs'
         ·rename_i hfull
          injection hcs' with hcs'
          subst hcs'
          have h0:off=0:=by omega
          subst h0
          rw [← hy2]
          have:(ds.map SD.toD).length=(bJ ty x0).length:=by simp [hfull,hlen0]
          simp [splice,this]
         ·cases cs0 with
          | none=>cases hcs'
          | some cs0 =>
           injection hcs' with hcs'
           obtain ⟨x1,h7,h8⟩:=k2 cs0 rfl
           rw [hx0] at h7
           injection h7 with h7
           subst h7
           have h9:cs0.length=tyN ty:=by
            have:=CK ty x0
            rw [← h8] at this
            have:=congrArg List.length this
            simpa [hlen0] using this
           rw [← hy2,← hcs']
           show _ = List.map SD.toD (nh cs0 off ds)
           rw [mA cs0 off ds (by omega),wD,h8,CK]
        have hble:BLe s.bx ((x,some (.rw e kk ty (xs.set j.toNat y) ((pi,⟨j,some (Ax ty y)⟩)::vV pins)))::s.bx):=N2 hb (by simp) (fun p2 pin2 hp2=>by
         rw [rf]
         by_cases e:p2=pi
         ·subst e
          rw [hp] at hp2
          injection hp2 with hp2
          subst hp2
          exact ⟨_,if_pos rfl,rfl⟩
         ·rw [if_neg e,mI,hp2]
          exact ⟨_,rfl,rfl⟩)
        refine ⟨_,_,.junk,some (x,.rw e kk ((xs.map (bJ ty)).set j.toNat (splice (bJ ty x0) off (ds.map SD.toD)))),?_,h4,?_,⟨h3,fun ty2 cs2 h=>by rw [hb] at h; cases h⟩,Nw hro⟩
        ·have hl2:(ds.map SD.toD).length=i.size:=by rw [List.length_map,← zW hds]; exact h1
         have hl3:off + (ds.map SD.toD).length≤(bJ ty x0).length:=by rw [hlen0,List.length_map]; exact h2
         simp only [lw,hi,hws,hbx,hds',List.getElem?_map,hx0,Option.map_some,List.length_map]
         rw [List.length_map] at hl2 hl3
         rw [if_pos ⟨trivial,hl2,hl3⟩]
         rfl
        ·rw [hsp,← List.map_set]
         refine oz hs hble (fun _=>⟨rfl,fun p2 pin2 hp2=>?_⟩) (.junk _)
         rw [rf] at hp2
         split at hp2
         ·injection hp2 with hp2
          subst hp2
          exact ⟨by simpa using k1,fun cs hc=>⟨y,by simp [k1],by injection hc with hc; exact hc.symm⟩⟩
         ·rw [mI,zm] at hp2
          obtain ⟨pin3,h7,rfl⟩:=hp2
          exact ⟨by simpa using (hpins p2 pin3 h7).1,fun cs hc=>by cases hc⟩
      ·cases h4
     ·cases h4
    ·cases h
   ·cases h
  ·cases h
 ·cases h
end
section
variable {B:List (Nat×Option aX)} {s:SS} {p:PS} {P:Program} {ρ : Type}
theorem Ee (hs:Sim s p) (place:Nat→Option (Nat×Nat)) : ∀ {l:List (Nat×Operand)} {cs cs':List SV} {qs:List PV},bS s.bx cs qs→Lk place cs (wN s l)=some cs'→∃ qs',Ef place qs (l.map fun (i,x)=>(i,ev p x))=some qs'∧bS s.bx cs' qs'
 | [],cs,cs',qs,h,hf=>by injection hf with hf; subst hf; exact ⟨qs,rfl,h⟩
 | (i,x)::l,cs,cs',qs,h,hf=>by
  simp only [wN,Lk] at hf
  split at hf
  ·rename_i off size ns h1 h2
   obtain ⟨h3,h4⟩:=am hf
   obtain ⟨h4,h5⟩:=am h4
   obtain ⟨ws,h6,h7⟩:=AE (bM hs x) h2
   replace h3:ns.length=size:=by simpa using h3
   replace h4:=zd h4
   rw [mA cs off ns h4] at h5
   obtain ⟨qs',h8,h9⟩:=Ee hs place (h.splice h7 off) h5
   refine ⟨qs',?_,h9⟩
   have l1:=h7.len
   have l2:=h.len
   simp only [List.map_cons,Ef,h1,h6]
   rw [if_pos ⟨by omega,by omega⟩]
   exact h8
  ·cases hf
theorem uW {i:TI} {z:List SV} (h:CV i=some z) : bS B z (pa i):=(xd h).1
theorem KD {cs:List SV} {qs:List PV} (h:bS B cs qs) : ∀ n,bS B (TU n cs) (List.replicate n qs).flatten
 | 0=>.nil
 | n + 1=>by rw [List.replicate_succ,List.flatten_cons]; exact h.append (KD h n)
theorem Hx (k:Nat) : ∀ (n:Nat) (l:List SD),(Jm k n l).map (List.map SD.toD)=rt k n (l.map SD.toD)
 | 0,_=>rfl
 | n + 1,l=>by simp only [Jm,rt,List.map_cons,List.map_take,Hx k n,List.map_drop]
theorem Hv {t:Ty} : ∀ {l:List (List SD)} {xs:List t.den},Jb t l=some xs→l.map (List.map SD.toD)=xs.map (bJ t)
 | [],xs,h=>by injection h with h; subst h; rfl
 | c::l,xs,h=>by
  simp only [Jb] at h
  split at h
  ·rename_i x xs' h1 h2
   injection h with h
   subst h
   simp only [List.map_cons,I8 h1,Hv h2]
  ·cases h
theorem EO (hs:Sim s p) {dst:Option Nat} {t:TypeId} {n:Nat} {l:List (Nat×Operand)} {k:SV→Upd→Option ρ} {res : ρ} (h:ug P s dst t n (wN s l) k=some res) :
  M1 s p dst k res (iC P p.b dst t n (l.map fun (i,x)=>(i,ev p x))):=by
 unfold ug at h
 split at h
 ·rename_i d e hu
  split at h
  ·rename_i i ty hi hb hty
   split at h
   ·rename_i z hz
    have h1:=(am h).1
    replace h:=(am h).2
    have h2:=(am h).1
    replace h:=(am h).2
    have h3:=(am h).1
    replace h:=(am h).2
    have h4:=(am h).1
    replace h:=(am h).2
    replace h1:=zd h1
    replace h2:=zd h2
    replace h3:=zd h3
    obtain ⟨hfr,h4⟩:=mG h4
    split at h
    ·rename_i cs hcs
     split at h
     ·rename_i ds hds
      split at h
      ·rename_i xs hxs
       obtain ⟨h5,h6⟩:=am h
       obtain ⟨qs,h7,h8⟩:=Ee hs _ (KD (uW (B:=s.bx) hz) n) hcs
       have h9:=uZ h8 hds
       have hbd:p.b d=none:=by have:=hs.bx d; rw [hb] at this; exact this hfr
       have hch:rt i.size n (ds.map SD.toD)=xs.map (bJ ty):=by rw [← Hx,Hv hxs]
       have hlen:xs.length=n:=by
        have:=congrArg List.length hch
        rw [AD,List.length_map] at this
        exact this.symm
       refine ⟨_,_,.row d n,some (d,.rw e i.size (xs.map (bJ ty))),?_,h6,?_,⟨h4,hb⟩,xW hb rfl⟩
       ·simp only [iC,hu,hi,hbd]
        rw [if_pos ⟨h1,h2,h3⟩]
        simp only [h7,h9,hch]
       ·exact oz hs (qt hb) (fun _=>⟨rfl,fun p pin hp=>by cases hp⟩) (.row d n e i.size ty xs [] (by rw [aq,if_pos rfl]) hlen)
      ·cases h
     ·cases h
    ·cases h
   ·cases h
  ·cases h
 ·cases h
theorem HJ {α : Type} {l m z:List α} (h:aW l m=some z) : l.length + m.length≤1000000∧z=l++m:=by
 unfold aW at h
 split at h
 ·rename_i hl; injection h with h; exact ⟨hl,h.symm⟩
 ·cases h
theorem HA {t:Ty} (h:t=t) (xs:List t.den) : yp h xs=xs:=rfl
theorem N4 (hs:Sim s p) {dst:Option Nat} {t:TypeId} {v w:SV} {q r:PV} {k:SV→Upd→Option ρ} {res : ρ} (hv:bb s.bx v q) (hw:bb s.bx w r) (h:Ju P s dst t v w k=some res) :
  M1 s p dst k res (jx P p.b dst t q r)∧True:=by
 refine ⟨?_,trivial⟩
 unfold Ju at h
 split at h
 ·rename_i e ty ys hu hdw
  have hr:=Jd hs hw hdw
  split at h
  ·rename_i i hi
   have h1:=(am h).1
   replace h:=(am h).2
   have h2:=(am h).1
   replace h:=(am h).2
   have h3:=(am h).1
   replace h:=(am h).2
   have h4:=(am h).1
   replace h:=(am h).2
   replace h1:=zd h1
   replace h2:=zd h2
   replace h3:=zd h3
   replace h4:tyN ty=i.size:=by simpa using h4
   have hla:wS i.size (ys.map (bJ ty)):=by
    intro x hx
    obtain ⟨y,_,rfl⟩:=List.mem_map.1 hx
    rw [px,h4]
   have sm:∀ n,n≤1000000→small n i.bytes:=fun n hn=>by
    unfold small
    exact Nat.le_trans (Nat.mul_le_mul hn h3) (by decide)
   split at h
   ·rename_i x
    split at h
    ·rename_i e' kk ty' xs pins hb
     split at h
     ·rename_i hty hsame
      obtain rfl:=hty
      have h5:=(am h).1
      replace h:=(am h).2
      have h6:=(am h).1
      replace h:=(am h).2
      have h7:=(am h).1
      replace h:=(am h).2
      replace h5:e' = e:=by simpa using h5
      replace h6:kk=i.size:=by simpa using h6
      obtain ⟨hfr,h7⟩:=xB h7
      obtain ⟨zs,h8,h9⟩:=cG h
      rw [HA] at h8
      obtain ⟨h10,rfl⟩:=HJ h8
      have hbx:=hs.bx x
      rw [hb] at hbx
      obtain ⟨hbx,_⟩:=hbx
      cases hv with
      | row _ n e2 k2 ty2 xs2 pins2 hb2 hn2 =>
       rw [hb] at hb2
       injection hb2 with hb2
       injection hb2 with q1 q2 q3 q4 q5
       subst q3
       have q4:=eq_of_heq q4
       subst q4 hn2
       refine ⟨_,_,.row x (xs.length + ys.length),some (x,.rw e' kk (xs.map (bJ ty)++ys.map (bJ ty))),?_,h9,?_,⟨h7,fun ty2 cs2 h=>by rw [hb] at h; cases h⟩,XZ hfr⟩
       ·simp only [jx,hu,hr,hi,hbx]
        rw [if_pos ⟨h1,h2,hla⟩,if_pos ⟨by simp,h5,h6,by simpa using sm _ h10⟩]
        simp [h5]
       ·rw [← List.map_append]
        exact TH hs hb (.row x _ e' kk ty (xs++ys) [] (by rw [aq,if_pos rfl]) (by simp))
     ·cases h
    ·cases h
   ·obtain rfl:=PO hv
    split at h
    ·rename_i d
     split at h
     ·rename_i hb
      have h7:=(am h).1
      replace h:=(am h).2
      obtain ⟨hfr,h7⟩:=mG h7
      obtain ⟨zs,h8,h9⟩:=cG h
      obtain ⟨h10,rfl⟩:=HJ h8
      have hbd:p.b d=none:=by have:=hs.bx d; rw [hb] at this; exact this hfr
      refine ⟨_,_,.row d zs.length,some (d,.rw e i.size (zs.map (bJ ty))),?_,h9,?_,⟨h7,hb⟩,xW hb rfl⟩
      ·simp only [jx,hu,hr,hi,hbd]
       rw [if_pos ⟨h1,h2,hla⟩,if_pos ⟨trivial,trivial⟩,if_pos (by simpa using sm _ (by simpa using h10))]
       simp
      ·exact oz hs (qt hb) (fun _=>⟨rfl,fun p pin hp=>by cases hp⟩) (.row d _ e i.size ty _ [] (by rw [aq,if_pos rfl]) (by simp))
     ·cases h
    ·cases h
   ·cases h
  ·cases h
 ·cases h
theorem Rc (hs:Sim s p) {t:TypeId} {v:SV} {q:PV} {lo hi:Option Operand} {k:SV→Option ρ} {res : ρ} (hv:bb s.bx v q) (h:Nc P s t v (lo.map (evX s)) (hi.map (evX s)) k=some res) : xA s k res (ez P p.b t q (lo.map (ev p)) (hi.map (ev p))):=by
 have int:∀ {x:Operand} {i:Int},Al (evX s x)=some i→∃ kd,ev p x = .d (.v (.int kd i)):=fun {x i} h=>RM (bM hs x) h
 unfold Nc at h
 split at h
 ·rename_i e ty xs hu
  have hq:kU p.b q=some (xs.map (bJ ty))∧∃ y,q = .d y:=by
   rcases PN hv with rfl | ⟨rfl,rfl⟩
   ·exact ⟨rfl,_,rfl⟩
   ·exact ⟨by simp [kU],_,rfl⟩
  obtain ⟨hq,y,rfl⟩:=hq
  split at h
  ·rename_i i hi'
   have h1:=(am h).1
   replace h:=(am h).2
   replace h1:tyN ty=i.size:=by simpa using h1
   have hla:wS i.size (xs.map (bJ ty)):=by
    intro x hx
    obtain ⟨y,_,rfl⟩:=List.mem_map.1 hx
    rw [px,h1]
   split at h
   ·rename_i hl hh
    rw [Option.map_eq_none_iff] at hl hh
    subst hl hh
    refine dk ?_ h (M4 ty xs)
    simp only [ez,hu,hi',hq,Option.map_none,vE]
    rw [if_pos ⟨Nat.zero_le _,Nat.le_refl _,hla⟩]
    simp [List.take_of_length_le]
   ·rename_i l hl hh
    rw [Option.map_eq_none_iff] at hh
    rw [zm] at hl
    obtain ⟨lo,rfl,rfl⟩:=hl
    subst hh
    split at h
    ·rename_i li hli
     obtain ⟨kd,hkd⟩:=int hli
     obtain ⟨z,h2,h3⟩:=cG h
     unfold loO at h2
     split at h2
     ·rename_i hc
      injection h2 with h2
      subst h2
      refine dk ?_ h3 (M4 ty _)
      simp only [ez,hu,hi',hq,Option.map_none,Option.map_some,hkd,lg rfl hc.1]
      simp only [vE,List.length_map]
      rw [if_pos ⟨hc.2,Nat.le_refl _,hla⟩]
      rw [← List.map_drop,← List.map_take,List.take_of_length_le (by simp)]
     ·cases h2
    ·cases h
   ·rename_i l hl hh
    rw [Option.map_eq_none_iff] at hl
    rw [zm] at hh
    obtain ⟨hi2,rfl,rfl⟩:=hh
    subst hl
    split at h
    ·rename_i li hli
     obtain ⟨kd,hkd⟩:=int hli
     obtain ⟨z,h2,h3⟩:=cG h
     unfold hiO at h2
     split at h2
     ·rename_i hc
      injection h2 with h2
      subst h2
      refine dk ?_ h3 (M4 ty _)
      simp only [ez,hu,hi',hq,Option.map_none,Option.map_some,hkd,lg rfl hc.1]
      simp only [vE,List.length_map]
      rw [if_pos ⟨Nat.zero_le _,hc.2,hla⟩]
      simp
     ·cases h2
    ·cases h
   ·rename_i l l' hl hh
    rw [zm] at hl hh
    obtain ⟨lo,rfl,rfl⟩:=hl
    obtain ⟨hi2,rfl,rfl⟩:=hh
    split at h
    ·rename_i li hi3 hli hhi
     obtain ⟨kd,hkd⟩:=int hli
     obtain ⟨kd2,hkd2⟩:=int hhi
     obtain ⟨z,h2,h3⟩:=cG h
     unfold lhO at h2
     split at h2
     ·rename_i hc
      injection h2 with h2
      subst h2
      refine dk ?_ h3 (M4 ty _)
      simp only [ez,hu,hi',hq,Option.map_some,hkd,hkd2,lg rfl hc.1,lg rfl hc.2.1,List.length_map]
      rw [if_pos ⟨hc.2.2.1,hc.2.2.2,hla⟩]
      simp
     ·cases h2
    ·cases h
  ·cases h
 ·rename_i e x hu
  split at h
  ·rename_i i e' kk ty xs pins hi' hb
   have h1:=(am h).1
   replace h:=(am h).2
   replace h1:kk=i.size:=by simpa using h1
   have hbx:=hs.bx x
   rw [hb] at hbx
   obtain ⟨hbx,_⟩:=hbx
   have ox:∀ {o:Option Operand} {n:Nat} {l:Int},XY (o.map (evX s)) (n:Int)=some l→0≤l→vE (o.map (ev p)) n=some l.toNat:=by
    intro o n l ho h0
    cases o with
    | none=>injection ho with ho; subst ho; rfl
    | some y =>
     obtain ⟨kd,hkd⟩:=int (show Al (evX s y)=some l from ho)
     rw [Option.map_some,lg hkd h0]
   cases hv with
   | row _ n e2 k2 ty2 xs2 pins2 hb2 hn2 =>
    rw [hb] at hb2
    injection hb2 with hb2
    injection hb2 with q1 q2 q3 q4 q5
    subst q3
    have q4:=eq_of_heq q4
    subst q4 hn2
    split at h
    ·rename_i l h' hl hh
     obtain ⟨_,h2,h3⟩:=cG h
     unfold vwO at h2
     split at h2
     ·rename_i hc
      refine dk (q:=.vw x xs.length l.toNat h'.toNat) ?_ h3 (.vw x _ _ _ e' kk ty xs pins hb rfl)
      have hl':=ox (n:=0) hl hc.1
      have hh':=ox (n:=xs.length) hh hc.2.1
      simp only [ez,hu,hi',hbx,hl',hh',List.length_map]
      rw [if_pos ⟨trivial,h1,hc.2.2.1,hc.2.2.2⟩]
     ·cases h2
    ·cases h
  ·cases h
 ·rename_i x hu
  obtain rfl:=qB hv
  split at h
  ·rename_i l hl hh
   rw [Option.map_eq_none_iff] at hh
   rw [zm] at hl
   obtain ⟨lo,rfl,rfl⟩:=hl
   subst hh
   split at h
   ·rename_i li hli
    obtain ⟨kd,hkd⟩:=int hli
    obtain ⟨z,h2,h3⟩:=cG h
    unfold Rg at h2
    split at h2
    ·rename_i hc
     injection h2 with h2
     subst h2
     refine dk ?_ h3 (vU _)
     simp only [ez,hu,asS,Option.map_none,Option.map_some,hkd,lg rfl hc.1]
     simp only [vE]
     rw [if_pos ⟨hc.2,Nat.le_refl _⟩]
    ·cases h2
   ·cases h
  ·rename_i l hl hh
   rw [Option.map_eq_none_iff] at hl
   rw [zm] at hh
   obtain ⟨hi2,rfl,rfl⟩:=hh
   subst hl
   split at h
   ·rename_i li hli
    obtain ⟨kd,hkd⟩:=int hli
    obtain ⟨z,h2,h3⟩:=cG h
    unfold Ni at h2
    split at h2
    ·rename_i hc
     injection h2 with h2
     subst h2
     refine dk ?_ h3 (vU _)
     simp only [ez,hu,asS,Option.map_none,Option.map_some,hkd,lg rfl hc.1]
     simp only [vE]
     rw [if_pos ⟨Nat.zero_le _,hc.2⟩]
    ·cases h2
   ·cases h
  ·rename_i l l' hl hh
   rw [zm] at hl hh
   obtain ⟨lo,rfl,rfl⟩:=hl
   obtain ⟨hi2,rfl,rfl⟩:=hh
   split at h
   ·rename_i li hi3 hli hhi
    obtain ⟨kd,hkd⟩:=int hli
    obtain ⟨kd2,hkd2⟩:=int hhi
    obtain ⟨z,h2,h3⟩:=cG h
    unfold Ix at h2
    split at h2
    ·rename_i hc
     injection h2 with h2
     subst h2
     refine dk ?_ h3 (vU _)
     simp only [ez,hu,asS,Option.map_some,hkd,hkd2,lg rfl hc.1,lg rfl hc.2.1]
     rw [if_pos ⟨hc.2.2.1,hc.2.2.2⟩]
    ·cases h2
   ·cases h
  ·cases h
 ·cases h
theorem V9 (hs:Sim s p) {v:SV} {q:PV} {ty:Ty} {ys:List ty.den} (hv:bb s.bx v q) (h:XR s v=some (.sl ty ys)) : kU p.b q=some (ys.map (bJ ty)):=by
 unfold XR at h
 split at h
 ·rename_i t lo hi
  split at h
  ·rename_i e kk ty2 xs pins hb
   injection h with h
   injection h with e1 e2
   subst e1
   have e2:=eq_of_heq e2
   subst e2
   have hbx:=hs.bx t
   rw [hb] at hbx
   obtain ⟨hbx,_⟩:=hbx
   cases hv with
   | vw _ _ _ n e2 k2 ty2 xs2 pins2 hb2 hn2 =>
    rw [hb] at hb2
    injection hb2 with hb2
    injection hb2 with q1 q2 q3 q4 q5
    subst q3
    have q4:=eq_of_heq q4
    subst q4 hn2
    simp only [kU,hbx,List.length_map,if_true]
    rw [← List.map_drop,← List.map_take]
  ·cases h
 ·exact Jd hs hv h
theorem T3 (hs:Sim s p) {v:SV} {q:PV} {x lo hi:Nat} {e kk:Nat} {ty:Ty} {xs:List ty.den} {pins:List (Nat×Pin)} (hb:lkB s.bx x=some (.rw e kk ty xs pins)) (hv:bb s.bx v q) (h:T4 s v=some (x,lo,hi)) : Qb q=some (x,xs.length,lo,hi):=by
 unfold T4 at h
 split at h
 ·rename_i t
  split at h
  ·rename_i e2 k2 ty2 xs2 pins2 hb2
   injection h with h
   injection h with q1 q2
   injection q2 with q2 q3
   subst q1 q2 q3
   cases hv with
   | row _ n e3 k3 ty3 xs3 pins3 hb3 hn3 =>
    rw [hb] at hb2 hb3
    injection hb2 with hb2
    injection hb2 with r1 r2 r3 r4 r5
    subst r3
    have r4:=eq_of_heq r4
    subst r4
    injection hb3 with hb3
    injection hb3 with r1 r2 r3 r4 r5
    subst r3
    have r4:=eq_of_heq r4
    subst r4 hn3
    rfl
  ·cases h
 ·injection h with h
  injection h with q1 q2
  injection q2 with q2 q3
  subst q1 q2 q3
  cases hv with
  | vw _ _ _ n e3 k3 ty3 xs3 pins3 hb3 hn3 =>
   rw [hb] at hb3
   injection hb3 with hb3
   injection hb3 with r1 r2 r3 r4 r5
   subst r3
   have r4:=eq_of_heq r4
   subst r4 hn3
   rfl
 ·cases h
theorem RF {α β : Type} (f : α→β) (xs ys:List α) (lo:Nat) : (nG xs lo ys).map f=nG (xs.map f) lo (ys.map f):=by
 simp [nG,List.map_take,List.map_drop]
theorem U1 (hs:Sim s p) {dst:Option Nat} {t:TypeId} {v w:SV} {q r:PV} {k:SV→Upd→Option ρ} {res : ρ} (hv:bb s.bx v q) (hw:bb s.bx w r) (h:U2 P s t v w k=some res) :
  M1 s p dst k res ((qq P p.b t q r).map fun r=>(r.1,some r.2)):=by
 unfold U2 at h
 split at h
 ·rename_i e ty ys x lo hi hu hsrc hpart
  split at h
  ·rename_i i e' kk ty' xs pins hi' hb
   split at h
   ·rename_i hty hsame
    obtain rfl:=hty
    have h1:=(am h).1
    replace h:=(am h).2
    have h2:=(am h).1
    replace h:=(am h).2
    have h3:=(am h).1
    replace h:=(am h).2
    replace h1:kk=i.size:=by simpa using h1
    replace h2:tyN ty=i.size:=by simpa using h2
    obtain ⟨hro,h3⟩:=xB h3
    obtain ⟨zs,h4,h5⟩:=cG h
    rw [HA] at h4
    unfold Xz at h4
    split at h4
    ·rename_i hc
     injection h4 with h4
     subst h4
     have hbx:=hs.bx x
     rw [hb] at hbx
     obtain ⟨hbx,hpins⟩:=hbx
     have hr:=V9 hs hw hsrc
     have hp:=T3 hs hb hv hpart
     have hla:wS i.size (ys.map (bJ ty)):=by
      intro x hx
      obtain ⟨y,_,rfl⟩:=List.mem_map.1 hx
      rw [px,h2]
     have hlen:(nG xs lo (ys.take (hi - lo))).length=xs.length:=GQ (by rw [List.length_take]; omega)
     have hble:BLe s.bx ((x,some (.rw e' kk ty (nG xs lo (ys.take (hi - lo))) (vV pins)))::s.bx):=N2 hb hlen (fun p2 pin2 hp2=>by
      rw [mI,hp2]
      exact ⟨_,rfl,rfl⟩)
     refine ⟨_,_,.d (.v (.int .i64 (min ys.length (hi - lo) : Nat))),some (x,.rw e' kk ((nG xs lo (ys.take (hi - lo))).map (bJ ty))),?_,h5,?_,⟨h3,fun ty2 cs2 h=>by rw [hb] at h; cases h⟩,Nw hro⟩
     ·simp only [qq,hu,hr,hp,hi',hbx,List.length_map]
      rw [if_pos ⟨trivial,h1,hla,hc.1,hc.2⟩,RF,List.map_take]
      rfl
     ·refine oz hs hble (fun _=>⟨rfl,fun p2 pin2 hp2=>?_⟩) (fH _ _)
      rw [mI,zm] at hp2
      obtain ⟨pin3,h7,rfl⟩:=hp2
      exact ⟨by rw [hlen]; exact (hpins p2 pin3 h7).1,fun cs hc=>by cases hc⟩
    ·cases h4
   ·cases h
  ·cases h
 ·cases h
theorem CW:∀ (l:List Value),(l.map fun z=>PV.d (.v z)).mapM toD=some (l.map fun z=>nrm (.v z))
 | []=>rfl
 | z::l=>by simp only [List.map_cons,List.mapM_cons,CW l,toD]; rfl
theorem Ul (hs:Sim s p) {dst:Option Nat} {t:TypeId} {x y:Operand} {k:SV→Upd→Option ρ} {res : ρ} (h:Um P s dst t (Ng x y) (evX s x) k=some res) :
  M1 s p dst k res (u9 P p.b dst t (ev p x) (ev p y)):=by
 unfold Um at h
 split at h
 ·rename_i d e kd n hu hx hsame
  have hpx:=bM hs x
  rw [hx] at hpx
  have hpx:=jO hpx
  have hpy:∃ kd',ev p y = .d (.v (.int kd' n)):=by
   unfold Ng at hsame
   split at hsame
   ·rename_i i j hq
    have:i=j:=by simpa using hsame
    subst this
    exact ⟨kd,hpx⟩
   ·rename_i k1 n1 k2 m1 hq
    have:n1=m1:=by simpa using hsame
    subst this
    have:ev p (.const (.int k1 n1)) = .d (.v (.int k1 n1)):=rfl
    rw [this] at hpx
    injection hpx with hpx
    injection hpx with hpx
    injection hpx with q1 q2
    subst q2
    exact ⟨k2,rfl⟩
   ·cases hsame
  obtain ⟨kd',hpy⟩:=hpy
  split at h
  ·rename_i i ty hi hb hty
   split at h
   ·rename_i z hz
    split at h
    ·rename_i ds hds
     split at h
     ·rename_i z0 hz0
      have h1:=(am h).1
      replace h:=(am h).2
      have h2:=(am h).1
      replace h:=(am h).2
      have h3:=(am h).1
      replace h:=(am h).2
      have h4:=(am h).1
      replace h:=(am h).2
      replace h1:=zd h1
      replace h2:=zd h2
      obtain ⟨hfr,h4⟩:=mG h4
      obtain ⟨xs,h5,h6⟩:=cG h
      unfold mkO at h5
      split at h5
      ·rename_i hc
       injection h5 with h5
       subst h5
       have hbd:p.b d=none:=by have:=hs.bx d; rw [hb] at this; exact this hfr
       have e1:(i.zero.map fun z=>nrm (.v z))=bJ ty z0:=by
        have h7:=uZ (uW (B:=s.bx) hz) hds
        rw [show pa i=i.zero.map (fun z=>PV.d (.v z)) from rfl,CW] at h7
        injection h7 with h7
        rw [h7]; exact I8 hz0
       refine ⟨_,_,.row d n.toNat,some (d,.rw e i.size ((List.replicate n.toNat z0).map (bJ ty))),?_,h6,?_,⟨h4,hb⟩,xW hb rfl⟩
       ·simp only [u9,hu,hpx,hpy,asI,hi,hbd]
        rw [if_pos ⟨trivial,hc.1,hc.2,h1,h2⟩,List.map_replicate,e1]
       ·exact oz hs (qt hb) (fun _=>⟨rfl,fun p pin hp=>by cases hp⟩) (.row d _ e i.size ty _ [] (by rw [aq,if_pos rfl]) (by simp))
      ·cases h5
     ·cases h
    ·cases h
   ·cases h
  ·cases h
 ·cases h
theorem Ad (mx:Bool) : ∀ (l:List SV) (v w:SV) (q:PV) (qs:List PV),bb B v q→bS B l qs→xZ mx v l=some w→∃ r,(match mx with | true=>so q qs | false=>sn q qs)=some r∧bb B w r
 | [],v,w,q,qs,hv,hl,h=>by
  rcases hl.cases with ⟨_,rfl⟩ | ⟨_,_,_,_,h1,_⟩
  ·have:v=w:=by cases v <;> (injection h)
   subst this
   exact ⟨q,by cases mx <;> rfl,hv⟩
  ·cases h1
 | u::l,v,w,q,qs,hv,hl,h=>by
  rcases hl.cases with ⟨h1,_⟩ | ⟨u',r,l',qs',h1,rfl,h2,h3⟩
  ·cases h1
  ·injection h1 with e1 e2
   subst e1 e2
   unfold xZ at h
   split at h
   ·rename_i heq; cases heq
   ·rename_i k x k' y l2 heq
    injection heq with e1 e2
    subst e1 e2
    obtain rfl:=jO hv
    obtain rfl:=jO h2
    obtain ⟨r',h4,h5⟩:=Ad mx l _ w _ qs' (fH _ _) h3 h
    refine ⟨r',?_,h5⟩
    cases mx
    ·simp only [sn,Eo,asI]; exact h4
    ·simp only [so,Er,asI]; exact h4
   ·cases h
theorem Wz (hs:Sim s p) {t:TypeId} {v:SV} {q:PV} {k:SV→Option ρ} {res : ρ} (hv:bb s.bx v q) (h:X7 P s t v k=some res) : xA s k res (tZ P t q):=by
 unfold X7 at h
 split at h
 ·rename_i e hu
  split at h
  ·rename_i ty xs hd
   refine dk ?_ h (fH _ _)
   have:NA q=some xs.length:=by
    unfold rr at hd
    split at hd
    ·injection hd with hd
     subst hd
     rcases PN hv with rfl | ⟨rfl,rfl⟩
     ·simp [NA]
     ·rfl
    ·obtain ⟨e,k,ty2,xs2,pins,h1,h2,rfl,h4⟩:=Iz hs hv hd
     injection h2 with e1 e2
     subst e1
     have e2:=eq_of_heq e2
     subst e2
     rfl
    ·cases hd
   simp [tZ,hu,this]
  ·rename_i hd
   obtain rfl:=W5 hv hd
   exact dk (by simp [tZ,hu,NA]) h (fH _ _)
  ·split at h
   ·cases hv
    exact dk (by simp [tZ,hu,NA]) h (fH _ _)
   ·cases h
 ·rename_i hu
  split at h
  ·obtain rfl:=qB hv
   exact dk (by simp [tZ,hu,asS]) h (fH _ _)
  ·cases h
 ·cases h
end
section
mutual
def qd:PV→PV
 | .d x=>.d (nrm x)
 | .ag cs=>.ag (dW cs)
 | .tup cs=>.tup (dW cs)
 | .fn f ps qs=>.fn f (dW ps) (dW qs)
 | p=>p
def dW:List PV→List PV
 | []=>[]
 | c::cs=>qd c::dW cs
end
def rc:Box→Box
 | .st ty cs=>.st ty (dW cs)
 | b=>b
theorem iA:∀ cs:List PV,(dW cs).length=cs.length
 | []=>rfl
 | c::cs=>by simp [dW,iA cs]
theorem kN:∀ (cs:List PV) (j:Nat) (c:PV),(dW cs)[j]? = some c→∃ d,cs[j]? = some d∧c=qd d
 | [],j,c,h=>by simp [dW] at h
 | d::cs,0,c,h=>by simp [dW] at h; exact ⟨d,rfl,h.symm⟩
 | d::cs,j + 1,c,h=>by simp [dW] at h; simpa using kN cs j c h
section
variable {P:Program} {ρ ρ' ρ2:Nat→Value} {b b' b2:Nat→Option Box} {w w':World} {w0:WM} {F F' F0:Nat→Prop} {n:Nat} {σ τ : Nat→Nat}
theorem aL.nrmd {x:Value} {p:PV} (h:aL ρ b w F x p) : aL ρ b w F x (qd p):=by
 induction h with
 | junk x=>exact .junk x
 | d x d h=>exact .d x _ h.nrm
 | ag xs cs hl h1 hr ih=>exact .ag xs _ (by rw [iA]; exact hl) h1 (fun j x c h2 h3=>by obtain ⟨d,h4,rfl⟩:=kN cs j c h3; exact ih j x d h2 h4)
 | tup xs cs hl hr ih=>exact .tup xs _ (by rw [iA]; exact hl) (fun j x c h2 h3=>by obtain ⟨d,h4,rfl⟩:=kN cs j c h3; exact ih j x d h2 h4)
 | ptr t off g ty cs hb hρ=>exact .ptr t off g ty cs hb hρ
 | row t n A c e k es hb hn hc hA hρ=>exact .row t n A c e k es hb hn hc hA hρ
 | re t n i off a e k es hb hn hi hρ=>exact .re t n i off a e k es hb hn hi hρ
 | vw t n lo hi A m c e k es hb hn hl hh hm hρ=>exact .vw t n lo hi A m c e k es hb hn hl hh hm hρ
 | fe a cs us hF hcell hrep=>exact .fe a cs us hF hcell hrep
 | fn f xs ys ps qs hl hr hl2 hr2 ih ih2 =>
  exact .fn f xs ys _ _ (by rw [iA]; exact hl) (fun j x c h2 h3=>by obtain ⟨d,h4,rfl⟩:=kN ps j c h3; exact ih j x d h2 h4)
   (by rw [iA]; exact hl2) (fun j x c h2 h3=>by obtain ⟨d,h4,rfl⟩:=kN qs j c h3; exact ih2 j x d h2 h4)
end
mutual
def ml (σ : Nat→Nat) : PV→PV
 | .ptr t o=>.ptr (σ t) o
 | .row t n=>.row (σ t) n
 | .re t n i o=>.re (σ t) n i o
 | .vw t n i o=>.vw (σ t) n i o
 | .ag cs=>.ag (e9 σ cs)
 | .tup cs=>.tup (e9 σ cs)
 | .fn f ps qs=>.fn f (e9 σ ps) (e9 σ qs)
 | p=>p
def e9 (σ : Nat→Nat) : List PV→List PV
 | []=>[]
 | c::cs=>ml σ c::e9 σ cs
end
def vD (σ : Nat→Nat) : Box→Box
 | .st ty cs=>.st ty (e9 σ cs)
 | b=>b
def KG:Box→List Nat
 | .st _ cs=>bF cs
 | .rw ..=>[]
def mj (σ : Nat→Nat) : BU→BU
 | []=>[]
 | (t,B)::l=>(σ t,vD σ B)::mj σ l
def bN:BU→List Nat
 | []=>[]
 | (t,_)::l=>t::bN l
theorem kL (σ : Nat→Nat) : ∀ cs:List PV,(e9 σ cs).length=cs.length
 | []=>rfl
 | c::cs=>by simp [e9,kL σ cs]
theorem mC (σ : Nat→Nat) : ∀ (cs:List PV) (j:Nat) (c:PV),(e9 σ cs)[j]? = some c→∃ d,cs[j]? = some d∧c=ml σ d
 | [],j,c,h=>by simp [e9] at h
 | d::cs,0,c,h=>by simp [e9] at h; exact ⟨d,rfl,h.symm⟩
 | d::cs,j + 1,c,h=>by simp [e9] at h; simpa using mC σ cs j c h
theorem dK {t:Nat} : ∀ {cs:List PV} {j:Nat} {c:PV},cs[j]? = some c→t∈bc c→t∈bF cs
 | [],j,c,h,_=>by simp at h
 | d::cs,0,c,h,ht=>by simp at h; subst h; simp [bF,ht]
 | d::cs,j + 1,c,h,ht=>by simp [bF]; exact .inr (dK (by simpa using h) ht)
theorem cI:∀ {l:BU} {t:Nat},t∈bN l↔∃ B,lkU l t=some B
 | [],t=>by simp [bN,lkU]
 | (j,B)::l,t=>by
  simp only [bN,List.mem_cons,lkU]
  by_cases h:t=j
  ·subst h; simp
  ·simp only [h,false_or,if_false]; exact cI
mutual
theorem KE (σ : Nat→Nat) : ∀ p:PV,bc (ml σ p)=(bc p).map σ
 | .junk=>rfl
 | .d _=>rfl
 | .ptr _ _=>rfl
 | .row _ _=>rfl
 | .re _ _ _ _=>rfl
 | .vw _ _ _ _=>rfl
 | .fe _=>rfl
 | .ag cs=>by simp only [ml,bc,oQ σ cs]
 | .tup cs=>by simp only [ml,bc,oQ σ cs]
 | .fn f ps qs=>by simp only [ml,bc,oQ σ ps,oQ σ qs,List.map_append]
theorem oQ (σ : Nat→Nat) : ∀ cs:List PV,bF (e9 σ cs)=(bF cs).map σ
 | []=>rfl
 | c::cs=>by simp only [e9,bF,KE σ c,oQ σ cs,List.map_append]
end
mutual
theorem P6 {σ τ : Nat→Nat} : ∀ (p:PV),(∀ t∈bc p,σ (τ t)=t)→ml σ (ml τ p)=p
 | .junk,_=>rfl
 | .d _,_=>rfl
 | .ptr t o,h=>by simp only [ml]; rw [h t (by simp [bc])]
 | .row t o,h=>by simp only [ml]; rw [h t (by simp [bc])]
 | .re t _ _ _,h=>by simp only [ml]; rw [h t (by simp [bc])]
 | .vw t _ _ _,h=>by simp only [ml]; rw [h t (by simp [bc])]
 | .fe _,_=>rfl
 | .ag cs,h=>by simp only [ml]; rw [qZ cs h]
 | .tup cs,h=>by simp only [ml]; rw [qZ cs h]
 | .fn f ps qs,h=>by simp only [ml]; rw [qZ ps (fun t ht=>h t (by simp [bc,ht])),qZ qs (fun t ht=>h t (by simp [bc,ht]))]
theorem qZ {σ τ : Nat→Nat} : ∀ (cs:List PV),(∀ t∈bF cs,σ (τ t)=t)→e9 σ (e9 τ cs)=cs
 | [],_=>rfl
 | c::cs,h=>by simp only [e9]; rw [P6 c (fun t ht=>h t (by simp [bF,ht])),qZ cs (fun t ht=>h t (by simp [bF,ht]))]
end
theorem CH {σ : Nat→Nat} : ∀ {l:BU} {t:Nat} {B:Box},(∀ s∈bN l,∀ s'∈bN l,σ s = σ s'→s=s')→lkU l t=some B→lkU (mj σ l) (σ t)=some (vD σ B)
 | [],t,B,_,h=>by cases h
 | (j,C)::l,t,B,hinj,h=>by
  simp only [lkU] at h
  simp only [mj,lkU]
  by_cases ht:t=j
  ·subst ht
   rw [if_pos rfl] at h
   injection h with h
   subst h
   rw [if_pos rfl]
  ·rw [if_neg ht] at h
   have hm:t∈bN l:=cI.2 ⟨B,h⟩
   rw [if_neg (fun e=>ht (hinj t (by simp [bN,hm]) j (by simp [bN]) e))]
   exact CH (fun s hs s' hs' e=>hinj s (by simp [bN,hs]) s' (by simp [bN,hs']) e) h
theorem tQ {σ : Nat→Nat} : ∀ {l:BU} {i:Nat} {B:Box},lkU (mj σ l) i=some B→∃ t∈bN l,i = σ t
 | [],i,B,h=>by cases h
 | (j,C)::l,i,B,h=>by
  simp only [mj,lkU] at h
  by_cases hi:i = σ j
  ·exact ⟨j,by simp [bN],hi⟩
  ·rw [if_neg hi] at h
   obtain ⟨t,h1,h2⟩:=tQ h
   exact ⟨t,by simp [bN,h1],h2⟩
section
variable {P:Program} {ρ ρ' ρ2:Nat→Value} {b b' b2:Nat→Option Box} {w w':World} {w0:WM} {F F' F0:Nat→Prop} {n:Nat} {σ τ : Nat→Nat}
theorem aL.ren {x:Value} {p:PV} (h:aL ρ b w F x p) : (∀ t∈bc p,∀ B,b t=some B→b2 (σ t)=some (vD σ B)∧ρ2 (σ t) = ρ t)→aL ρ2 b2 w F x (ml σ p):=by
 induction h with
 | junk x=>exact fun _=>.junk x
 | d x d h=>exact fun _=>.d x d h
 | ag xs cs hl h1 hr ih=>exact fun hc=>.ag xs _ (by rw [kL]; exact hl) h1 (fun j x c h2 h3=>by obtain ⟨d,h4,rfl⟩:=mC σ cs j c h3; exact ih j x d h2 h4 (fun t ht=>hc t (dK h4 ht)))
 | tup xs cs hl hr ih=>exact fun hc=>.tup xs _ (by rw [kL]; exact hl) (fun j x c h2 h3=>by obtain ⟨d,h4,rfl⟩:=mC σ cs j c h3; exact ih j x d h2 h4 (fun t ht=>hc t (dK h4 ht)))
 | ptr t off g ty cs hb hρ =>
  intro hc
  obtain ⟨h1,h2⟩:=hc t (by simp [bc]) _ hb
  exact .ptr _ off g ty _ h1 (h2.trans hρ)
 | row t n A c e k es hb hn hcc hA hρ =>
  intro hc
  obtain ⟨h1,h2⟩:=hc t (by simp [bc]) _ hb
  exact .row _ n A c e k es h1 hn hcc hA (fun h=>h2.trans (hρ h))
 | re t n i off a e k es hb hn hi hρ =>
  intro hc
  obtain ⟨h1,h2⟩:=hc t (by simp [bc]) _ hb
  exact .re _ n i off a e k es h1 hn hi (fun h=>by obtain ⟨g,c,h3,h4⟩:=hρ h; exact ⟨g,c,h2.trans h3,h4⟩)
 | vw t n lo hi A m c e k es hb hn hl hh hm hρ =>
  intro hc
  obtain ⟨h1,h2⟩:=hc t (by simp [bc]) _ hb
  exact .vw _ n lo hi A m c e k es h1 hn hl hh hm (fun h=>by obtain ⟨g,c,h3,h4⟩:=hρ h; exact ⟨g,c,h2.trans h3,h4⟩)
 | fe a cs us hF hcell hrep=>exact fun _=>.fe a cs us hF hcell hrep
 | fn f xs ys ps qs hl hr hl2 hr2 ih ih2 =>
  intro hc
  exact .fn f xs ys _ _ (by rw [kL]; exact hl) (fun j x c h2 h3=>by obtain ⟨d,h4,rfl⟩:=mC σ ps j c h3; exact ih j x d h2 h4 (fun t ht=>hc t (by simp only [bc,List.mem_append]; exact .inl (dK h4 ht))))
   (by rw [kL]; exact hl2) (fun j x c h2 h3=>by obtain ⟨d,h4,rfl⟩:=mC σ qs j c h3; exact ih2 j x d h2 h4 (fun t ht=>hc t (by simp only [bc,List.mem_append]; exact .inr (dK h4 ht))))
theorem jt.ren {own own':Nat→Prop} {t:Nat} {B:Box} (h:jt ρ b own w F t B) (hρ : ρ2 (σ t) = ρ t) (ho:∀ g,blk (ρ t)=some g→own' g) (hc:∀ t∈KG B,∀ B,b t=some B→b2 (σ t)=some (vD σ B)∧ρ2 (σ t) = ρ t) : jt ρ2 b2 own' w F (σ t) (vD σ B):=by
 cases h with
 | st ty cs g xs hr0 hg hF0 hh hl h1 hr =>
  exact .st ty _ g xs (hρ.trans hr0) (ho g (by rw [hr0]; rfl)) hF0 hh (by rw [kL]; exact hl) h1 (fun j x c h2 h3=>by obtain ⟨d,h4,rfl⟩:=mC σ cs j c h3; exact (hr j x d h2 h4).ren (fun t ht=>hc t (dK h4 ht)))
 | rw e k es xs hk0 h1 hF0 hk hl hr hown =>
  exact .rw e k es xs hk0 (by rw [hρ]; exact h1) (by rw [hρ]; exact hF0) hk hl hr (by rw [hρ]; exact ho)
 | gn e k es hr0=>exact .gn e k es (hρ.trans hr0)
theorem aL.nb {x:Value} {p:PV} (h:aL ρ b w F x p) : aL ρ (fun i=>(b i).map rc) w F x p:=by
 induction h with
 | junk x=>exact .junk x
 | d x d h=>exact .d x d h
 | ag xs cs hl h1 hr ih=>exact .ag xs _ hl h1 ih
 | tup xs cs hl hr ih=>exact .tup xs _ hl ih
 | ptr t off g ty cs hb hρ=>exact .ptr _ off g ty (dW cs) (by rw [hb]; rfl) hρ
 | row t n A c e k es hb hn hcc hA hρ=>exact .row _ n A c e k es (by rw [hb]; rfl) hn hcc hA hρ
 | re t n i off a e k es hb hn hi hρ=>exact .re _ n i off a e k es (by rw [hb]; rfl) hn hi hρ
 | vw t n lo hi A m c e k es hb hn hl hh hm hρ=>exact .vw _ n lo hi A m c e k es (by rw [hb]; rfl) hn hl hh hm hρ
 | fe a cs us hF hcell hrep=>exact .fe a cs us hF hcell hrep
 | fn f xs ys ps qs hl hr hl2 hr2 ih ih2=>exact .fn f xs ys _ _ hl ih hl2 ih2
theorem jt.nb {own:Nat→Prop} {t:Nat} {B:Box} (h:jt ρ b own w F t B) : jt ρ (fun i=>(b i).map rc) own w F t (rc B):=by
 cases h with
 | st ty cs g xs hr0 hg hF0 hh hl h1 hr=>exact .st ty _ g xs hr0 hg hF0 hh (by rw [iA]; exact hl) h1 (fun j x c h2 h3=>by obtain ⟨d,h4,rfl⟩:=kN cs j c h3; exact (hr j x d h2 h4).nb.nrmd)
 | rw e k es xs hk0 h1 hF0 hk hl hr hown=>exact .rw e k es xs hk0 h1 hF0 hk hl hr hown
 | gn e k es hr0=>exact .gn e k es hr0
def Cd (ρ : Nat→Value) (b:Nat→Option Box) : Nat→Prop:=fun g=>∃ t B,b t=some B∧blk (ρ t)=some g
def DW (bi:BU) (K:List Nat) : Nat→Option Box:=fun t=>if t∈K then lkU bi t else none
def PCm (P:Program) (f:FuncId) (args:List PV) (bi:BU) (K:List Nat) (Q:PV→BU→Prop) : Prop :=
 eB P f=true∧∀ (w:World) (F:Nat→Prop) (ρ : Nat→Value) (vs:Array Value),Inv ⟨w,Cd ρ (lkU bi),fun _=>none⟩ F ρ (lkU bi) w F→cz ρ (lkU bi) w F vs.toList args →
  Calls P f vs w fun e w'=>∃ v ρ' F' r bo,Q r bo∧e = .returned v∧Inv ⟨w,Cd ρ (lkU bi),fun _=>none⟩ F ρ' (lkU bo) w' F'∧Stp ρ (DW bi K) w F ρ' (lkU bo) w' F'∧aL ρ' (lkU bo) w' F' v r
def Jg (l:BU) : Prop:=∀ t B,lkU l t=some B→∀ s∈KG B,s∈bN l
structure Zh (τi τ : Nat→Nat) (bi bo:BU) (K:List Nat) (u:BU) : Prop where
 out:∀ s B,lkU bo s=some B→lkU u (τ s)=some (vD τ B)
 gone:∀ s B,lkU bi s=some B→s ∉ K→∃ e k es es',B = .rw e k es∧lkU u (τi s)=some (.rw e k es')∧es.length < es'.length
 only:∀ i B,lkU u i=some B→(∃ s∈bN bo,i = τ s)∨(∃ s∈bN bi,s ∉ K∧i = τi s)
structure Zk (τi τ : Nat→Nat) (bi bo:BU) (K:List Nat) : Prop where
 ii:∀ s∈bN bi,∀ s'∈bN bi,τi s = τi s'→s=s'
 oo:∀ s∈bN bo,∀ s'∈bN bo,τ s = τ s'→s=s'
 io:∀ s∈bN bi,∀ s'∈bN bo,τi s = τ s'→s=s'∧s∈K
 k:∀ s∈K,s∈bN bi∧s∈bN bo∧τi s = τ s
theorem Va {f:FuncId} {τi:Nat→Nat} {args args':List PV} {bi u:BU} {K N:List Nat} {Q:PV→BU→Prop} {r':PV} (h:PCm P f args bi K Q) (hii:∀ s∈bN bi,∀ s'∈bN bi,τi s = τi s'→s=s')
  (hQ:∀ r bo,Q r bo→∃ τ,Zk τi τ bi bo K∧Zh τi τ bi bo K u∧ml τ r=r'∧∀ s∈bN bo,s ∉ K→τ s∈N) (hnew:∀ t∈N,t < 1000000)
  (ha:∀ s∈bF args,s∈bN bi) (hargs:dW args' = e9 τi args) (hbi:Jg bi)
  (w0:WM) (F0:Nat→Prop) (ρ : Nat→Value) (b:Nat→Option Box) (w:World) (F:Nat→Prop) (vs:Array Value) (hb:∀ s B,lkU bi s=some B→∃ B',b (τi s)=some B'∧rc B' = vD τi B) (hbn:∀ t∈N,b t=none)
  (hi:Inv w0 F0 ρ b w F) (hv:cz ρ b w F vs.toList args') :
  Calls P f vs w fun e w'=>∃ v ρ' F',e = .returned v∧Inv w0 F0 ρ' (dJ b u) w' F'∧Stp ρ b w F ρ' (dJ b u) w' F'∧aL ρ' (dJ b u) w' F' v r':=by
 classical
 obtain ⟨_,hcall⟩:=h
 have mkσ : ∀ (τ : Nat→Nat) (dom:Nat→Prop),(∀ s,dom s→∀ s',dom s'→τ s = τ s'→s=s')→∃ σ : Nat→Nat,∀ s,dom s→σ (τ s)=s:=fun τ dom hinj=>by
  refine ⟨fun i=>if h:∃ s,dom s∧τ s=i then h.choose else i,fun s hs=>?_⟩
  have hex:∃ s',dom s'∧τ s' = τ s:=⟨s,hs,rfl⟩
  show (if h:∃ s',dom s'∧τ s' = τ s then h.choose else τ s)=s
  rw [dif_pos hex]
  exact hinj _ hex.choose_spec.1 s hs hex.choose_spec.2
 obtain ⟨σ,hσ⟩:=mkσ τi (fun s=>s∈bN bi) hii
 let ρ0:Nat→Value:=fun s=>ρ (τi s)
 let bn:Nat→Option Box:=fun i=>(b i).map rc
 have hbt:∀ s B,lkU bi s=some B→bn (τi s)=some (vD τi B):=fun s B hs=>by
  obtain ⟨B',h1,h2⟩:=hb s B hs
  show (b (τi s)).map rc = _
  rw [h1,← h2]; rfl
 have hdi:∀ {s B},lkU bi s=some B→s∈bN bi:=fun h=>cI.2 ⟨_,h⟩
 have hback:∀ s B,lkU bi s=some B→vD σ (vD τi B)=B:=fun s B hs=>by
  cases B with
  | st ty cs=>simp only [vD]; rw [qZ cs (fun t ht=>hσ t (hbi s _ hs t ht))]
  | rw=>rfl
 have hgo:∀ s∈bN bi,∀ B',bn (τi s)=some B'→lkU bi (σ (τi s))=some (vD σ B')∧ρ0 (σ (τi s)) = ρ (τi s):=fun s hs B' hB'=>by
  obtain ⟨B,hB⟩:=cI.1 hs
  rw [hbt s B hB] at hB'
  injection hB' with hB'
  subst hB'
  rw [hσ s hs,hback s B hB]
  exact ⟨hB,rfl⟩
 have hin:∀ {x:Value} {p:PV},(∀ s∈bc p,s∈bN bi)→aL ρ bn w F x (ml τi p)→aL ρ0 (lkU bi) w F x p:=fun {x p} hp hx=>by
  have:=hx.ren (σ:=σ) (b2:=lkU bi) (ρ2:=ρ0) (fun t ht B hB=>by
   rw [KE] at ht
   obtain ⟨s,hs,rfl⟩:=List.mem_map.1 ht
   exact hgo s (hp s hs) B hB)
  rw [P6 p (fun t ht=>hσ t (hp t ht))] at this
  exact this
 have hown:∀ s B g,lkU bi s=some B→blk (ρ0 s)=some g→g < w.heap.size∧w0.own g∧¬ F g:=fun s B g hs hg=>by
  obtain ⟨B',h1,_⟩:=hb s B hs
  exact (hi.box _ _ h1).lt hg
 have hi0:Inv ⟨w,Cd ρ0 (lkU bi),fun _=>none⟩ F ρ0 (lkU bi) w F:=by
  refine ⟨.of w rfl,fun _ h=>h,hi.flt,fun _ h=>.inl h,fun s B hs=>?_,fun s s' B B' g h1 h2 hne hg=>?_,fun t q h=>by cases h⟩
  ·obtain ⟨B1,h1,h2⟩:=hb s B hs
   have hbx:=(hi.box _ _ h1).nb
   rw [h2] at hbx
   have:=hbx.ren (σ:=σ) (ρ2:=ρ0) (b2:=lkU bi) (own':=WM.own ⟨w,Cd ρ0 (lkU bi),fun _=>none⟩) (by show ρ (τi (σ (τi s))) = ρ (τi s); rw [hσ s (hdi hs)]) (fun g hg=>.inr ⟨s,B,hs,hg⟩) (fun t ht B' hB'=>by
    have ht:t∈(KG B).map τi:=by
     cases B with
     | st ty cs=>show t∈(bF cs).map τi; rw [← oQ]; exact ht
     | rw=>exact ht
    obtain ⟨s',hs',rfl⟩:=List.mem_map.1 ht
    exact hgo s' (hbi s B hs s' hs') B' hB')
   rw [hσ s (hdi hs),hback s B hs] at this
   exact this
  ·obtain ⟨B1,m1,_⟩:=hb s B h1
   obtain ⟨B2,m2,_⟩:=hb s' B' h2
   exact hi.dist _ _ _ _ g m1 m2 (fun e=>hne (hii s (hdi h1) s' (hdi h2) e)) hg
 have hv0:cz ρ0 (lkU bi) w F vs.toList args:=by
  have hlen:args'.length=args.length:=by rw [← iA args',hargs,kL]
  refine ⟨by rw [hv.len,hlen],fun j x c h1 h2=>hin (fun s hs=>ha s (dK h2 hs)) ?_⟩
  have hlt:j < args.length:=(zg.1 h2).1
  have h3:args'[j]? = some args'[j]:=by simp [hlen,hlt]
  have h4:=(hv.rep j x _ h1 h3).nb.nrmd
  have h5:(dW args')[j]? = some (qd args'[j]):=by
   have hl2:j < (dW args').length:=by rw [iA,hlen]; exact hlt
   obtain ⟨d,h6,h7⟩:=kN args' j _ (zq hl2)
   rw [h3] at h6
   injection h6 with h6
   rw [zq hl2,h7,h6]
  have h8:(e9 τi args)[j]? = some (ml τi c):=by
   have hl2:j < (e9 τi args).length:=by rw [kL]; exact hlt
   obtain ⟨d,h6,h7⟩:=mC τi args j _ (zq hl2)
   rw [h2] at h6
   injection h6 with h6
   rw [zq hl2,h7,h6]
  rw [hargs,h8] at h5
  injection h5 with h5
  rw [h5]
  exact h4
 refine (hcall w F ρ0 vs hi0 hv0).mono ?_
 rintro e w' ⟨v,ρ1,F',r,bo,hq,rfl,k1,k2,k3⟩
 obtain ⟨τ,hfit,hu,hr',hN⟩:=hQ r bo hq
 rw [← hr']
 have hnew:∀ s∈bN bo,s ∉ K→τ s < 1000000:=fun s h1 h2=>hnew _ (hN s h1 h2)
 have hbn:∀ s∈bN bo,s ∉ K→b (τ s)=none:=fun s h1 h2=>hbn _ (hN s h1 h2)
 obtain ⟨σo,hσo⟩:=mkσ τ (fun s=>s∈bN bo) hfit.oo
 have hdo:∀ {s B},lkU bo s=some B→s∈bN bo:=fun h=>cI.2 ⟨_,h⟩
 let ρ':Nat→Value:=fun i=>match lkU u i with | none=>ρ i | some _=>if ∃ s,s∈bN bo∧τ s=i then ρ1 (σo i) else .tuple #[]
 have hρin:∀ s B,lkU bo s=some B→ρ' (τ s) = ρ1 s:=fun s B hs=>by
  show (match lkU u (τ s) with | none=>ρ (τ s) | some _=>if ∃ s',s'∈bN bo∧τ s' = τ s then ρ1 (σo (τ s)) else .tuple #[]) = ρ1 s
  rw [hu.out s B hs]
  simp only [hσo s (hdo hs)]
  rw [if_pos ⟨s,hdo hs,rfl⟩]
 have hρgone:∀ s B,lkU bi s=some B→s ∉ K→ρ' (τi s) = .tuple #[]:=fun s B hs hn=>by
  obtain ⟨e,k,es,es',_,h1,_⟩:=hu.gone s B hs hn
  show (match lkU u (τi s) with | none=>ρ (τi s) | some _=>if ∃ s',s'∈bN bo∧τ s' = τi s then ρ1 (σo (τi s)) else .tuple #[]) = .tuple #[]
  rw [h1]
  simp only
  rw [if_neg]
  rintro ⟨s',h2,h3⟩
  exact hn (hfit.io s (hdi hs) s' h2 h3.symm).2
 have hρout:∀ i,lkU u i=none→ρ' i = ρ i:=fun i h=>by
  show (match lkU u i with | none=>ρ i | some _=>if ∃ s,s∈bN bo∧τ s=i then ρ1 (σo i) else .tuple #[]) = ρ i
  rw [h]
 have hbin:∀ s B,lkU bo s=some B→dJ b u (τ s)=some (vD τ B):=fun s B hs=>by
  simp only [dJ,hu.out s B hs]
 have hbout:∀ i,lkU u i=none→dJ b u i=b i:=fun i h=>by simp only [dJ,h]
 have hgo':∀ s B,lkU bo s=some B→dJ b u (τ s)=some (vD τ B)∧ρ' (τ s) = ρ1 s:=fun s B hs=>⟨hbin s B hs,hρin s B hs⟩
 have huse:∀ s B,lkU bi s=some B→∃ C,lkU u (τi s)=some C:=fun s B hs=>by
  by_cases hk:s∈K
  ·obtain ⟨_,h2,h3⟩:=hfit.k s hk
   obtain ⟨C,hC⟩:=cI.1 h2
   exact ⟨_,by rw [h3]; exact hu.out s C hC⟩
  ·obtain ⟨e,k,es,es',_,h1,_⟩:=hu.gone s B hs hk; exact ⟨_,h1⟩
 have houtside:∀ i B,lkU u i=none→b i=some B→∀ g,blk (ρ i)=some g→g < w.heap.size∧¬ Cd ρ0 (lkU bi) g:=fun i B h hB g hg=>by
  refine ⟨((hi.box i B hB).lt hg).1,?_⟩
  rintro ⟨s,C,hs,hg2⟩
  obtain ⟨B1,m1,_⟩:=hb s C hs
  refine hi.dist i (τi s) B _ g hB m1 (fun e=>?_) hg hg2
  obtain ⟨D,hD⟩:=huse s C hs
  rw [e,hD] at h
  cases h
 have hown':∀ g,WM.own ⟨w,Cd ρ0 (lkU bi),fun _=>none⟩ g→w0.own g:=by
  rintro g (hg | ⟨s,B,hs,hg⟩)
  ·exact .inl (Nat.le_trans hi.ext.size hg)
  ·exact (hown s B g hs hg).2.1
 have hcase:∀ i B,dJ b u i=some B→(∃ s C,lkU bo s=some C∧i = τ s∧B=vD τ C)∨(lkU u i=none∧b i=some B)∨(∃ e k es,B = .rw e k es∧ρ' i = .tuple #[]):=fun i B hB=>by
  cases hl:lkU u i with
  | none=>exact .inr (.inl ⟨rfl,by rw [hbout i hl] at hB; exact hB⟩)
  | some C =>
   rcases hu.only i C hl with ⟨s,hs,rfl⟩ | ⟨s,hs,hk,rfl⟩
   ·obtain ⟨C',hC'⟩:=cI.1 hs
    rw [hbin s C' hC'] at hB
    injection hB with hB
    exact .inl ⟨s,C',hC',rfl,hB.symm⟩
   ·obtain ⟨B0,hB0⟩:=cI.1 hs
    obtain ⟨e,k,es,es',_,h1,_⟩:=hu.gone s B0 hB0 hk
    simp only [dJ,h1] at hB
    injection hB with hB
    exact .inr (.inr ⟨e,k,es',hB.symm,hρgone s B0 hB0 hk⟩)
 have hold:∀ s∈bN bo,∀ B,b (τ s)=some B→∃ B0,lkU bi s=some B0∧rc B=vD τi B0∧DW bi K s=some B0∧ρ (τ s) = ρ0 s:=fun s hs B hB=>by
  by_cases hk:s∈K
  ·obtain ⟨h1,h2,h3⟩:=hfit.k s hk
   obtain ⟨B0,hB0⟩:=cI.1 h1
   obtain ⟨B1,m1,m2⟩:=hb s B0 hB0
   rw [h3,hB] at m1
   injection m1 with m1
   subst m1
   exact ⟨B0,hB0,m2,by unfold DW; rw [if_pos hk]; exact hB0,by show ρ (τ s) = ρ (τi s); rw [h3]⟩
  ·rw [hbn s hs hk] at hB
   cases hB
 have hs:Stp ρ b w F ρ' (dJ b u) w' F':=by
  refine ⟨k2.hF,k2.hw,fun t ty cs ht=>?_,fun t e k es ht=>?_⟩
  ·cases hl:lkU u t with
   | none=>exact ⟨⟨ty,cs,by rw [hbout t hl]; exact ht⟩,hρout t hl⟩
   | some C =>
    rcases hu.only t C hl with ⟨s,hs,rfl⟩ | ⟨s,hs,hk,rfl⟩
    ·obtain ⟨B0,h1,h2,h3,h4⟩:=hold s hs _ ht
     cases B0 with
     | rw=>cases h2
     | st ty0 cs0 =>
      obtain ⟨⟨ty1,cs1,h5⟩,h6⟩:=k2.hst s ty0 cs0 h3
      exact ⟨⟨ty1,_,hbin s _ h5⟩,by rw [hρin s _ h5,h6,h4]⟩
    ·exfalso
     obtain ⟨B0,hB0⟩:=cI.1 hs
     obtain ⟨e,k,es,es',rfl,_⟩:=hu.gone s B0 hB0 hk
     obtain ⟨B1,m1,m2⟩:=hb s _ hB0
     rw [m1] at ht
     injection ht with ht
     subst ht
     cases m2
  ·cases hl:lkU u t with
   | none=>exact ⟨e,es,by rw [hbout t hl]; exact ht,Nat.le_refl _,fun _=>hρout t hl⟩
   | some C =>
    rcases hu.only t C hl with ⟨s,hs,rfl⟩ | ⟨s,hs,hk,rfl⟩
    ·obtain ⟨B0,h1,h2,h3,h4⟩:=hold s hs _ ht
     cases B0 with
     | st=>cases h2
     | rw e0 k0 es0 =>
      injection h2 with q1 q2 q3
      subst q1 q2 q3
      obtain ⟨e1,es1,h5,h6,h7⟩:=k2.hrw s _ _ _ h3
      exact ⟨e1,es1,hbin s _ h5,h6,fun he=>by rw [hρin s _ h5,h7 he,h4]⟩
    ·obtain ⟨B0,hB0⟩:=cI.1 hs
     obtain ⟨e1,k1',es1,es',rfl,h1,h2⟩:=hu.gone s B0 hB0 hk
     obtain ⟨B1,m1,m2⟩:=hb s _ hB0
     rw [m1] at ht
     injection ht with ht
     subst ht
     injection m2 with q1 q2 q3
     subst q1 q2 q3
     exact ⟨e,es',by simp only [dJ,h1],Nat.le_of_lt h2,fun he=>by omega⟩
 refine ⟨v,ρ',F',rfl,⟨?_,fun g hg=>k1.f0 g (hi.f0 g hg),k1.flt,fun g hg=>?_,fun i B hB=>?_,fun i i' B B' g hB hB' hne hg=>?_,hi.reg_stp hs fun t ht hn=>?_⟩,hs,k3.ren fun t ht B hB=>hgo' t B hB⟩
 ·exact hi.ext.step k1.ext.os k1.ext.tape k1.ext.output k1.ext.size fun g hg hM=>k1.ext.block g (Nat.lt_of_lt_of_le hg hi.ext.size) fun ⟨s,B,hs,hg2⟩=>xY hg hM (hown s B g hs hg2).2.1
 ·rcases k1.fnew g hg with h | h
  ·exact hi.fnew g h
  ·exact .inr (hown' g h)
 ·rcases hcase i B hB with ⟨s,C,hC,rfl,rfl⟩ | ⟨hl,hB⟩ | ⟨e,k,es,rfl,hg⟩
  ·exact (k1.box s C hC).ren (hρin s C hC) (fun g hg=>hown' g ((k1.box s C hC).lt hg).2.1) (fun t ht B hB=>hgo' t B hB)
  ·refine (hi.box i B hB).mono hs (hρout i hl) (fun g hg=>?_) (fun g hg hF=>?_)
   ·obtain ⟨h1,h2⟩:=houtside i B hl hB g hg
    exact k1.ext.block g h1 h2
   ·obtain ⟨h1,h2⟩:=houtside i B hl hB g hg
    rcases k1.fnew g hF with h | h | h
    ·exact ((hi.box i B hB).lt hg).2.2 h
    ·exact absurd h1 (Nat.not_lt.2 h)
    ·exact h2 h
  ·exact .gn e k es hg
 ·have mixed:∀ s C i B,lkU bo s=some C→lkU u i=none→b i=some B→blk (ρ1 s)=some g→blk (ρ i)≠some g:=fun s C i B hC hl hB h1 h2=>by
   obtain ⟨m1,m2⟩:=houtside i B hl hB g h2
   rcases ((k1.box s C hC).lt h1).2.1 with h | h
   ·exact absurd m1 (Nat.not_lt.2 h)
   ·exact m2 h
  rcases hcase i B hB with ⟨s,C,hC,rfl,rfl⟩ | ⟨hl,hB⟩ | ⟨e,k,es,rfl,hgo⟩
  ·rw [hρin s C hC] at hg
   rcases hcase i' B' hB' with ⟨s',C',hC',rfl,rfl⟩ | ⟨hl',hB'⟩ | ⟨e,k,es,rfl,hgo⟩
   ·rw [hρin s' C' hC']
    exact k1.dist s s' C C' g hC hC' (fun e=>hne (by rw [e])) hg
   ·rw [hρout i' hl']
    exact mixed s C i' B' hC hl' hB' hg
   ·rw [hgo]; exact fun h=>by cases h
  ·rw [hρout i hl] at hg
   rcases hcase i' B' hB' with ⟨s',C',hC',rfl,rfl⟩ | ⟨hl',hB'⟩ | ⟨e,k,es,rfl,hgo⟩
   ·rw [hρin s' C' hC']
    exact fun h=>mixed s' C' i B hC' hl hB h hg
   ·rw [hρout i' hl']
    exact hi.dist i i' B B' g hB hB' hne hg
   ·rw [hgo]; exact fun h=>by cases h
  ·rw [hgo] at hg; cases hg
 ·cases hl:lkU u t with
  | none=>rw [hbout t hl]; exact hn
  | some C =>
   exfalso
   rcases hu.only t C hl with ⟨s,hs,rfl⟩ | ⟨s,hs,hk,rfl⟩
   ·by_cases hk:s∈K
    ·obtain ⟨h1,h2,h3⟩:=hfit.k s hk
     obtain ⟨B0,hB0⟩:=cI.1 h1
     obtain ⟨B1,m1,_⟩:=hb s B0 hB0
     rw [h3,hn] at m1
     cases m1
    ·have:=hnew s hs hk
     omega
   ·obtain ⟨B0,hB0⟩:=cI.1 hs
    obtain ⟨B1,m1,_⟩:=hb s B0 hB0
    rw [m1] at hn
    cases hn
end
end
section
section
variable {P:Program} {ρ ρ' ρ2:Nat→Value} {b b' b2:Nat→Option Box} {w w':World} {w0:WM} {F F' F0:Nat→Prop} {n:Nat}
theorem aL.to {x:Value} {p:PV} (h:aL ρ b w F x p) : (∀ t∈bc p,(∀ ty cs,b t=some (.st ty cs)→∃ cs',b2 t=some (.st ty cs'))∧∀ e k es,b t=some (.rw e k es)→b2 t=some (.rw e k es))→aL ρ b2 w F x p:=by
 induction h with
 | junk x=>exact fun _=>.junk x
 | d x d h=>exact fun _=>.d x d h
 | ag xs cs hl h1 hr ih=>exact fun hc=>.ag xs _ hl h1 (fun j x c h2 h3=>ih j x c h2 h3 (fun t ht=>hc t (dK h3 ht)))
 | tup xs cs hl hr ih=>exact fun hc=>.tup xs _ hl (fun j x c h2 h3=>ih j x c h2 h3 (fun t ht=>hc t (dK h3 ht)))
 | ptr t off g ty cs hb hρ =>
  intro hc
  obtain ⟨cs',h1⟩:=(hc t (by simp [bc])).1 _ _ hb
  exact .ptr _ off g ty _ h1 hρ
 | row t n A c e k es hb hn hcc hA hρ =>
  intro hc
  exact .row _ n A c e k es ((hc t (by simp [bc])).2 _ _ _ hb) hn hcc hA hρ
 | re t n i off a e k es hb hn hi hρ =>
  intro hc
  exact .re _ n i off a e k es ((hc t (by simp [bc])).2 _ _ _ hb) hn hi hρ
 | vw t n lo hi A m c e k es hb hn hl hh hm hρ =>
  intro hc
  exact .vw _ n lo hi A m c e k es ((hc t (by simp [bc])).2 _ _ _ hb) hn hl hh hm hρ
 | fe a cs us hF hcell hrep=>exact fun _=>.fe a cs us hF hcell hrep
 | fn f xs ys ps qs hl hr hl2 hr2 ih ih2 =>
  intro hc
  exact .fn f xs ys _ _ hl (fun j x c h2 h3=>ih j x c h2 h3 (fun t ht=>hc t (by simp only [bc,List.mem_append]; exact .inl (dK h3 ht))))
   hl2 (fun j x c h2 h3=>ih2 j x c h2 h3 (fun t ht=>hc t (by simp only [bc,List.mem_append]; exact .inr (dK h3 ht))))
mutual
theorem KF:∀ p:PV,bc (qd p)=bc p
 | .junk=>rfl
 | .d _=>rfl
 | .ptr _ _=>rfl
 | .row _ _=>rfl
 | .re _ _ _ _=>rfl
 | .vw _ _ _ _=>rfl
 | .fe _=>rfl
 | .ag cs=>by simp only [qd,bc,oS cs]
 | .tup cs=>by simp only [qd,bc,oS cs]
 | .fn f ps qs=>by simp only [qd,bc,oS ps,oS qs]
theorem oS:∀ cs:List PV,bF (dW cs)=bF cs
 | []=>rfl
 | c::cs=>by simp only [dW,bF,KF c,oS cs]
end
def xP (ρ : Nat→Value) (bi:BU) (K:List Nat) : Nat→Option (Value×Option (Nat×Nat)):=fun t=>if t∈K then (match lkU bi t with
 | some (.st _ _)=>some (ρ t,none)
 | some (.rw _ k es)=>some (ρ t,some (k,es.length))
 | none=>none) else none
def Zd (P:Program) (fn:Func) (K:List Nat) (Q:PV→BU→Prop) (e:Exit) (s:PS) : Prop :=
 (match e with | .normal=>True | .ret=>True | _=>False)∧∃ r bo,Q r bo∧(∀ t∈K,t∈bN bo)∧(∀ s∈bc r,s∈bN bo)∧Jg bo∧(∃ p,qD P fn s=some p∧qd p=r)∧∀ t B,lkU bo t=some B→∃ B',s.b t=some B'∧rc B' = B
theorem Rz {f:FuncId} {fn:Func} {c:Code} {args:List PV} {bi:BU} {K:List Nat} {Q:PV→BU→Prop} (hf:P.funcs[f]? = some fn) (hb:fn.body=some c) (hcb:eB P f=true) (hlen:args.length≤fn.ntmps)
  (hid:∀ t∈K,1000000≤t) (h:PWP P fn.ntmps c (Zd P fn K Q) ⟨mq args,lkU bi⟩) : PCm P f args bi K Q:=by
 refine ⟨hcb,fun w F ρ vs hi0 hv=>?_⟩
 refine calls_of_wp hf hb ?_
 have hl:vs.size=args.length:=by have:=hv.len; simpa using this
 have hi1:Inv ⟨w,Cd ρ (lkU bi),xP ρ bi K⟩ F ρ (lkU bi) w F:=by
  refine ⟨⟨hi0.ext.os,hi0.ext.tape,hi0.ext.output,hi0.ext.size,hi0.ext.block⟩,hi0.f0,hi0.flt,hi0.fnew,hi0.box,hi0.dist,fun t q hq=>?_⟩
  have hq:xP ρ bi K t=some q:=hq
  unfold xP at hq
  split at hq
  ·rename_i hk
   split at hq
   ·rename_i ty cs hB
    injection hq with hq
    subst hq
    exact ⟨hid t hk,.inr ⟨⟨ty,cs,hB⟩,rfl⟩⟩
   ·rename_i e k es hB
    injection hq with hq
    subst hq
    exact ⟨hid t hk,.inr ⟨e,es,hB,Nat.le_refl _,fun _=>rfl⟩⟩
   ·cases hq
  ·cases hq
 have hc:n6 fn.ntmps ⟨w,Cd ρ (lkU bi),xP ρ bi K⟩ F ⟨mq args,lkU bi⟩ { tmps:=vs++Array.replicate (fn.ntmps - vs.size) undef,defers:=[] } w:=by
  refine ⟨by simp; omega,rfl,ρ,F,hi1,fun i=>?_⟩
  by_cases hi:i < vs.size
  ·have e1:(vs++Array.replicate (fn.ntmps - vs.size) undef).getD i undef=vs[i]:=by simp [Array.getElem?_append,hi]
   show aL ρ (lkU bi) w F _ (mq args i)
   rw [e1]
   have hia:i < args.length:=by omega
   unfold mq
   rw [zq hia]
   exact hv.rep i _ _ (by simp [hi]) (zq hia)
  ·show aL ρ (lkU bi) w F _ (mq args i)
   unfold mq
   rw [List.getElem?_eq_none (by omega)]
   exact .junk _
 refine wp_mono (h ⟨w,Cd ρ (lkU bi),xP ρ bi K⟩ F _ w hc) fun e a' w' ⟨s',⟨hex,r,bo,hq,hid2,hr,hbo,⟨p,h1,h2⟩,h3⟩,_,hd,ρ',F',hi,hev⟩=>?_
 obtain ⟨v,hv1,hv2⟩:=Dk (P:=P) hi hev h1
 have hto:∀ t∈bN bo,(∀ ty cs,s'.b t=some (.st ty cs)→∃ cs',lkU bo t=some (.st ty cs'))∧∀ e k es,s'.b t=some (.rw e k es)→lkU bo t=some (.rw e k es):=fun t ht=>by
  obtain ⟨B,hB⟩:=cI.1 ht
  obtain ⟨B',hB',hn⟩:=h3 t B hB
  refine ⟨fun ty cs k=>?_,fun e k es k1=>?_⟩
  ·rw [hB'] at k
   injection k with k
   subst k
   exact ⟨_,by rw [hB,← hn]; rfl⟩
  ·rw [hB'] at k1
   injection k1 with k1
   subst k1
   rw [hB,← hn]; rfl
 have hbox:∀ t B,lkU bo t=some B→jt ρ' (lkU bo) (WM.own ⟨w,Cd ρ (lkU bi),fun _=>none⟩) w' F' t B:=fun t B hB=>by
  obtain ⟨B',hB',rfl⟩:=h3 t B hB
  have hbx:=hi.box t B' hB'
  have hcl:=hbo t _ hB
  cases hbx with
  | st ty cs g xs hr0 hg hF0 hh hl h1 hr =>
   refine .st ty _ g xs hr0 hg hF0 hh (by rw [iA]; exact hl) h1 (fun j x c k1 k2=>?_)
   obtain ⟨d,k3,rfl⟩:=kN cs j c k2
   refine ((hr j x d k1 k3).to fun s hs=>hto s (hcl s ?_)).nrmd
   show s∈bF (dW cs)
   rw [oS]
   exact dK k3 hs
  | rw e k es xs hk0 m1 m2 m3 m4 m5 m6=>exact .rw e k es xs hk0 m1 m2 m3 m4 m5 m6
  | gn e k es m1=>exact .gn e k es m1
 have hstp:Stp ρ (DW bi K) w F ρ' (lkU bo) w' F':=by
  have hk:∀ t B,DW bi K t=some B→lkU bi t=some B∧t∈K∧t∈bN bo:=fun t B ht=>by
   unfold DW at ht
   split at ht
   ·rename_i hk; exact ⟨ht,hk,hid2 t hk⟩
   ·cases ht
  refine ⟨fun g hg=>hi.f0 g hg,fun g hg=>?_,fun t ty cs ht=>?_,fun t e k es ht=>?_⟩
  ·exact hi.ext.block g (hi0.flt g hg) fun ⟨t,B,hB,hg2⟩=>((hi0.box t B hB).lt hg2).2.2 hg
  ·obtain ⟨ht,hkt,m1⟩:=hk t _ ht
   have m2:=(hi.reg t (ρ t,none) (by show xP ρ bi K t = _; unfold xP; rw [if_pos hkt,ht])).2
   rcases m2 with m2 | ⟨⟨ty',cs',m2⟩,m3⟩
   ·obtain ⟨B,hB⟩:=cI.1 m1
    obtain ⟨B',hB',_⟩:=h3 t B hB
    rw [m2] at hB'
    cases hB'
   ·obtain ⟨cs2,h5⟩:=(hto t m1).1 _ _ m2
    exact ⟨⟨_,_,h5⟩,m3⟩
  ·obtain ⟨ht,hkt,m1⟩:=hk t _ ht
   have m2:=(hi.reg t (ρ t,some (k,es.length)) (by show xP ρ bi K t = _; unfold xP; rw [if_pos hkt,ht])).2
   rcases m2 with m2 | ⟨e',es',m2,m3,m4⟩
   ·obtain ⟨B,hB⟩:=cI.1 m1
    obtain ⟨B',hB',_⟩:=h3 t B hB
    rw [m2] at hB'
    cases hB'
   ·exact ⟨e',es',(hto t m1).2 _ _ _ m2,m3,m4⟩
 have hinv:Inv ⟨w,Cd ρ (lkU bi),fun _=>none⟩ F ρ' (lkU bo) w' F':=by
  refine ⟨⟨hi.ext.os,hi.ext.tape,hi.ext.output,hi.ext.size,hi.ext.block⟩,hi.f0,hi.flt,hi.fnew,hbox,fun t t' B B' g k1 k2 hne hg=>?_,fun t q hq=>by cases hq⟩
  obtain ⟨_,m1,_⟩:=h3 t B k1
  obtain ⟨_,m2,_⟩:=h3 t' B' k2
  exact hi.dist t t' _ _ g m1 m2 hne hg
 have hres:aL ρ' (lkU bo) w' F' v r:=by
  rw [← h2]
  exact (hv2.to fun s hs=>hto s (hr s (by rw [← h2,KF]; exact hs))).nrmd
 have fin:a'.defers = []∧∃ v,(results fn a'.tmps).run P w' = .ok v w'∧∃ v' ρ'' F'' r bo,Q r bo∧Ending.returned v = .returned v'∧Inv ⟨w,Cd ρ (lkU bi),fun _=>none⟩ F ρ'' (lkU bo) w' F''∧Stp ρ (DW bi K) w F ρ'' (lkU bo) w' F''∧aL ρ'' (lkU bo) w' F'' v' r :=
  ⟨hd,v,hv1,v,ρ',F',r,bo,hq,rfl,hinv,hstp,hres⟩
 cases e with
 | normal=>exact fin
 | ret=>exact fin
 | exit _=>exact hex.elim
 | goto _=>exact hex.elim
 | panic _=>exact hex.elim
 | outgrown=>exact hex.elim
end
end
section
variable {B:List (Nat×Option aX)} {s:SS} {p:PS} {P:Program} {ρ : Type}
theorem nN (hs:Sim s p) : ∀ l:List Operand,bS s.bx (vF s l) (l.map (ev p))
 | []=>.nil
 | x::l=>.cons (bM hs x) (nN hs l)
theorem T0 {c:Bool} {v w z:SV} {q r:PV} (hv:bb B v q) (hw:bb B w r) (h:T1 c v w=some z) : bb B z (if c then q else r):=by
 unfold T1 at h
 split at h
 ·split at h
  ·rename_i hk
   subst hk
   injection h with h
   subst h
   obtain rfl:=jO hv
   obtain rfl:=jO hw
   cases c
   ·exact fH _ _
   ·exact fH _ _
  ·cases h
 ·injection h with h
  subst h
  obtain rfl:=kV hv
  obtain rfl:=kV hw
  cases c
  ·exact eV _
  ·exact eV _
 ·injection h with h
  subst h
  obtain rfl:=qB hv
  obtain rfl:=qB hw
  cases c
  ·exact vU _
  ·exact vU _
 ·cases c
  ·injection h with h; subst h; exact hw
  ·injection h with h; subst h; exact hv
theorem Rh {x:ByteArray} {i z:Int} (h:lb x i=some z) : 0≤i∧∃ c:UInt8,x.data.toList[i.toNat]? = some c∧z=(c.toNat:Int):=by
 unfold lb at h
 split at h
 ·rename_i h0
  rw [zm] at h
  obtain ⟨c,h1,h2⟩:=h
  exact ⟨h0,c,h1,h2.symm⟩
 ·cases h
theorem G3 {B:List (Nat×Option aX)} {kd:IntKind} : ∀ (cs:List SV) (xs:List Int),Qt kd cs=some xs→∀ (j:Nat) (z:Int),xs[j]? = some z→∀ qs,bS B cs qs→∃ q,qs[j]? = some q∧q = .d (.v (.int kd z))
 | [],xs,h,j,z,hj,qs,hq=>by
  injection h with h
  subst h
  cases hj
 | c::cs,xs,h,j,z,hj,qs,hq=>by
  unfold Qt at h
  split at h
  ·rename_i hc0
   cases hc0
  ·rename_i kd' x l hcl
   injection hcl with e1 e2
   subst e1 e2
   split at h
   ·rename_i hk
    subst hk
    split at h
    ·rename_i r hr
     injection h with h
     subst h
     have hlen : 0 < qs.length:=by rw [← hq.len]; exact Nat.succ_pos _
     match qs,hlen with
     | q::qs,_ =>
     cases j with
     | zero =>
      injection hj with hj
      subst hj
      exact ⟨q,rfl,jO (hq.rep 0 _ _ rfl rfl)⟩
     | succ j =>
      exact G3 _ r hr j z hj qs ⟨by simpa using hq.len,fun i a b ha hb=>hq.rep (i + 1) a b ha hb⟩
    ·cases h
   ·cases h
  ·cases h
theorem WP {o:Oper} (hs:Sim s p) {k:SV→Upd→Option ρ} {res : ρ} (hst:∀ t x y,o.op = .store t x y→o.dst=none) (h:WR P o s k=some res) : M1 s p o.dst k res (eff P o p):=by
 unfold WR at h
 unfold eff
 split at h
 all_goals
  rename_i ho
  simp only [ho]
 ·exact ⟨_,.no,_,none,rfl,h,ky hs (bM hs _),trivial,dy⟩
 ·exact ⟨_,.no,_,none,rfl,h,ky hs (bM hs _),trivial,dy⟩
 ·rename_i c x y
  split at h
  ·rename_i t hc
   split at h
   ·rename_i v hv
    have hq:=bM hs c
    rw [hc] at hq
    have hb:asB (ev p c)=some t:=by rw [kV hq]; rfl
    simp only [hb]
    exact ⟨_,.no,_,none,rfl,h,ky hs (T0 (bM hs x) (bM hs y) hv),trivial,dy⟩
   ·cases h
  ·cases h
 ·rename_i e
  split at h
  ·rename_i t i hd hi
   split at h
   ·rename_i z hb hz
    obtain ⟨h1,h2⟩:=am h
    obtain ⟨hfr,h1⟩:=mG h1
    have hbd:p.b t=none:=by have:=hs.bx t; rw [hb] at this; exact this hfr
    refine ⟨_,_,.ptr t 0,some (t,.st e (pa i)),?_,h2,?_,⟨h1,hb⟩,xW hb hd⟩
    ·simp [ub,hd,hi,hbd]
    ·exact oz hs (qt hb) (fun _=>⟨_,rfl,uW hz⟩) (.ptr t 0 _ _ (by rw [aq,if_pos rfl]))
   ·cases h
  ·cases h
 ·rename_i e x
  split at h
  ·rename_i t cs hd hc
   split at h
   ·rename_i hb
    obtain ⟨h1,h2⟩:=am h
    obtain ⟨hfr,h1⟩:=mG h1
    have hbd:p.b t=none:=by have:=hs.bx t; rw [hb] at this; exact this hfr
    obtain ⟨qs,h3,h4⟩:=AE (bM hs x) hc
    refine ⟨_,_,.ptr t 0,some (t,.st e qs),?_,h2,?_,⟨h1,hb⟩,xW hb hd⟩
    ·simp [Ex,hd,h3,hbd]
    ·exact oz hs (qt hb) (fun _=>⟨_,rfl,h4.mono (qt hb)⟩) (.ptr t 0 _ _ (by rw [aq,if_pos rfl]))
   ·cases h
  ·cases h
 ·rename_i t ps
  split at h
  ·rename_i i pl hi hf
   split at h
   ·rename_i z hz
    split at h
    ·rename_i cs hcs
     obtain ⟨qs,h1,h2⟩:=Ee hs _ (uW hz) hcs
     refine ⟨_,.no,.ag qs,none,?_,h,ky hs (.ag _ _ h2.len h2.rep),trivial,dy⟩
     simp only [yo,hi,hf,h1]
     rfl
    ·cases h
   ·cases h
  ·cases h
 ·exact EO hs h
 ·rename_i t x
  split at h
  ·rename_i v hv
   obtain ⟨r,h1,h2⟩:=KX hs (bM hs x) hv
   exact ⟨_,.no,r,none,by simp [h1],h,ky hs h2,trivial,dy⟩
  ·cases h
 ·rename_i t x y
  exact Ra hs (hst _ _ _ ho) (bM hs x) (bM hs y) h
 ·rename_i op t x y yt
  exact (Xc (bM hs x) (bM hs y) (fun n kd z hn hz=>Uo hn hz) h).done hs
 ·rename_i op t x
  exact (XN (bM hs x) h).done hs
 ·rename_i src dst x
  exact (U3 hs (bM hs x) h).done hs
 ·rename_i t x lo hi
  exact (Rc hs (bM hs x) h).done hs
 ·rename_i t x f
  exact (F4 (bM hs x) h).done hs
 ·rename_i t x f
  exact (RT (bM hs x) h).done hs
 ·rename_i t x i
  exact F3 hs (bM hs x) (bM hs i) h
 ·rename_i x i
  split at h
  ·rename_i vs hv
   split at h
   ·rename_i v hvi
    have hq:=bM hs x
    rw [hv] at hq
    obtain ⟨qs,h1,h2⟩:=Tu hq
    have hlt:i < qs.length:=by rw [← h2.len]; exact (zg.1 hvi).1
    have hqi:qs[i]? = some qs[i]:=by simp [hlt]
    refine ⟨_,.no,qs[i],none,?_,h,ky hs (h2.rep i _ _ hvi hqi),trivial,dy⟩
    simp [sp,h1,hqi]
   ·cases h
  ·cases h
 ·rename_i t x i
  split at h
  ·rename_i sx kd ix hu hx hi
   obtain ⟨z,h1,h2⟩:=cG h
   obtain ⟨h3,c,h4,rfl⟩:=Rh h1
   have hq:=bM hs x
   rw [hx] at hq
   have hr:=bM hs i
   rw [hi] at hr
   refine ⟨_,.no,_,none,?_,h2,ky hs (fH .u8 _),trivial,dy⟩
   simp [Et,CM,hu,qB hq,jO hr,asS,asI,h3,h4]
  ·rename_i n e cs kd0 ix hu hx hi
   split at h
   ·rename_i ie kd hie hue
    split at h
    ·rename_i xs hxs
     obtain ⟨hsz,h⟩:=am h
     obtain ⟨hln,h⟩:=am h
     obtain ⟨z,h1,h2⟩:=cG h
     obtain ⟨h3,h4,h5⟩:=Am h1
     have hq:=bM hs x
     rw [hx] at hq
     have hr:=bM hs i
     rw [hi] at hr
     obtain ⟨qs,hq1,hq2⟩:=CY hq
     have hsz:=Nat.eq_of_beq_eq_true hsz
     have hln:=Nat.eq_of_beq_eq_true hln
     obtain ⟨q,hq3,rfl⟩:=G3 cs xs hxs ix.toNat z h4 qs hq2
     refine ⟨_,.no,.d (.v (.int kd z)),none,?_,h2,ky hs (fH kd _),trivial,dy⟩
     have hagg:ie.agg=false:=by
      obtain ⟨_,_,_,_,_,_,_,_,_,ha,_⟩:=di hie
      rw [ha]; unfold iP; rw [hue]
     have hd:(qs.drop ix.toNat).head? = some (.d (.v (.int kd z))):=by
      rw [List.head?_drop]; exact hq3
     simp [Et,hu,hq1,jO hr,asI,hie,hsz,hagg,Bp,hd,h3,show ix < (n:Int) by omega]
    ·cases h
   ·cases h
  ·cases h
 ·rename_i c
  split at h
  ·rename_i f hf
   simp only [hf]
   unfold LU at h
   unfold ss
   have hargs:=nN hs c.args.toList
   split at h
   ·split at h
    ·rename_i x t hx ht
     rw [hx] at hargs
     rcases hargs.cases with ⟨h1,_⟩ | ⟨v,q,vs,qs,h1,h2,h3,h4⟩
     ·cases h1
     ·injection h1 with e1 e2
      subst e1 e2
      rcases h4.cases with ⟨_,rfl⟩ | ⟨_,_,_,_,h5,_⟩
      ·simp only [h2,ht]
       exact (Wz hs h3 h).done hs
      ·cases h5
    ·cases h
   ·split at h
    ·rename_i x y t t' hx ht
     rw [hx] at hargs
     rcases hargs.cases with ⟨h1,_⟩ | ⟨v,q,vs,qs,h1,h2,h3,h4⟩
     ·cases h1
     ·injection h1 with e1 e2
      subst e1 e2
      rcases h4.cases with ⟨h5,_⟩ | ⟨v2,q2,vs2,qs2,h5,h6,h7,h8⟩
      ·cases h5
      ·injection h5 with e1 e2
       subst e1 e2
       rcases h8.cases with ⟨_,rfl⟩ | ⟨_,_,_,_,h9,_⟩
       ·subst h6
        simp only [h2,ht]
        split at h
        ·rename_i htt
         have htt:t' = t:=by simpa using htt
         rw [if_pos htt]
         exact (N4 hs h3 h7 h).1
        ·cases h
       ·cases h9
    ·cases h
   ·split at h
    ·rename_i x xs hx
     rw [hx] at hargs
     rcases hargs.cases with ⟨h1,_⟩ | ⟨v,q,vs,qs,h1,h2,h3,h4⟩
     ·cases h1
     ·injection h1 with e1 e2
      subst e1 e2
      split at h
      ·rename_i w hw
       obtain ⟨r,h5,h6⟩:=Ad false xs x w q qs h3 h4 hw
       simp only [h2]
       exact ⟨_,.no,r,none,by simp [show sn q qs=some r from h5],h,ky hs h6,trivial,dy⟩
      ·cases h
    ·cases h
   ·split at h
    ·rename_i x xs hx
     rw [hx] at hargs
     rcases hargs.cases with ⟨h1,_⟩ | ⟨v,q,vs,qs,h1,h2,h3,h4⟩
     ·cases h1
     ·injection h1 with e1 e2
      subst e1 e2
      split at h
      ·rename_i w hw
       obtain ⟨r,h5,h6⟩:=Ad true xs x w q qs h3 h4 hw
       simp only [h2]
       exact ⟨_,.no,r,none,by simp [show so q qs=some r from h5],h,ky hs h6,trivial,dy⟩
      ·cases h
    ·cases h
   ·split at h
    ·rename_i x y t t' hx ht
     rw [hx] at hargs
     rcases hargs.cases with ⟨h1,_⟩ | ⟨v,q,vs,qs,h1,h2,h3,h4⟩
     ·cases h1
     ·injection h1 with e1 e2
      subst e1 e2
      rcases h4.cases with ⟨h5,_⟩ | ⟨v2,q2,vs2,qs2,h5,h6,h7,h8⟩
      ·cases h5
      ·injection h5 with e1 e2
       subst e1 e2
       rcases h8.cases with ⟨_,rfl⟩ | ⟨_,_,_,_,h9,_⟩
       ·subst h6
        simp only [h2,ht]
        exact U1 hs h3 h7 h
       ·cases h9
    ·cases h
   ·cases h
  ·cases h
 ·rename_i f ps qs
  have h1:=nN hs ps.toList
  have h2:=nN hs qs.toList
  exact ⟨_,.no,_,none,rfl,h,ky hs (.fn f _ _ _ _ h1.len h1.rep h2.len h2.rep),trivial,dy⟩
 ·rename_i t x y
  exact Ul hs h
 ·rename_i x
  exact (Wt (bM hs x) h).done hs
 ·cases h
def toC:(c:CT)→c.den→PV
 | .v t,x=>.d (qe t x).toD
 | .a i,x=>.ag ((stD i x).map .d)
 | .pl t,x=>.fe [(qe t x).toD]
 | .ps i,x=>.fe (stD i x)
def C7:(cs:List CT)→ud cs→List PV
 | [],_=>[]
 | c::cs,x=>toC c x.1::C7 cs x.2
def pb:(p:PT)→p.den→PV
 | .lf t,x=>.d (qe t x).toD
 | .ag i,x=>.ag ((stD i x).map .d)
 | .pl t,x=>.fe [(qe t x).toD]
 | .ps i,x=>.fe (stD i x)
 | .fn f a b,x=>.fn f (C7 a x.1) (C7 b x.2)
 | .own ..,_=>.junk
 | .mv ..,_=>.junk
 | .bx ..,_=>.junk
 | .agr ..,_=>.junk
 | .io _,_=>.junk
def qS:(ps:List PT)→cJ ps→List PV
 | [],_=>[]
 | p::ps,x=>pb p x.1::qS ps x.2
def xK:(rs:List PT)→bh rs→List PV
 | [],_=>[]
 | [p],x=>[pb p x]
 | p::q::l,x=>pb p x.1::xK (q::l) x.2
def toR (rs:List PT) (x:bh rs) : PV:=match rs,x with
 | [p],x=>pb p x
 | rs,x=>.tup (xK rs x)
def ed (rows:List (Nat×Nat×Nat×Nat×Ty)) : Nat→List D→List PV
 | _,[]=>[]
 | j,d::ds=>(match pu rows j with
  | some (R,_,_,_)=>(match d with | .sl es=>.row R es.length | .v _=>.junk)
  | none=>.d d)::ed rows (j + 1) ds
def bZ (rows:List (Nat×Nat×Nat×Nat×Ty)) : Nat→List D→BU
 | _,[]=>[]
 | j,d::ds=>match pu rows j with
  | some (R,e,k,_)=>(match d with | .sl es=>(R,.rw e k es)::bZ rows (j + 1) ds | .v _=>bZ rows (j + 1) ds)
  | none=>bZ rows (j + 1) ds
def rwU (e k:Nat) (t:Ty) (xs:List t.den) : Box:=.rw e k (xs.map (bJ t))
def toI:(p:PT)→List Nat→p.den→PV×BU
 | .own e k t,is,xs=>(match is with | [i]=>(.row i (show List t.den from xs).length,[(i,rwU e k t xs)]) | _=>(.junk,[]))
 | .mv e k t,is,xs=>(match is with | [i]=>(.row i (show List t.den from xs).length,[(i,rwU e k t xs)]) | _=>(.junk,[]))
 | .bx ty n rows,is,x=>(match is with | i::is=>(.ptr i 0,(i,.st ty (ed (mg rows is) 0 (stD n x)))::bZ (mg rows is) 0 (stD n x)) | _=>(.junk,[]))
 | .agr n rows,is,x=>(.ag (ed (mg rows is) 0 (stD n x)),bZ (mg rows is) 0 (stD n x))
 | .io _,_,_=>(.junk,[])
 | .lf t,_,x=>(pb (.lf t) x,[])
 | .ag i,_,x=>(pb (.ag i) x,[])
 | .pl t,_,x=>(pb (.pl t) x,[])
 | .ps i,_,x=>(pb (.ps i) x,[])
 | .fn f a b,_,x=>(pb (.fn f a b) x,[])
def eb:(ps:List PT)→List (List Nat)→cJ ps→List PV×BU
 | [],_,_=>([],[])
 | p::ps,is::iss,x=>((toI p is x.1).1::(eb ps iss x.2).1,(toI p is x.1).2++(eb ps iss x.2).2)
 | _ :: _,[],_=>([],[])
def Xu:Box→Box
 | .rw e k es=>.rw e k (es ++ [[]])
 | B=>B
def D4 (l:BU) : List Nat→BU
 | []=>[]
 | t::ts=>(t,match lkU l t with | some B=>Xu B | none=>.st 0 [])::D4 l ts
def toO:(p:PT)→(b:IB)→List Nat→List Nat→p.den→b.den→BU
 | .own ..,.own e k t,is,_,_,xs=>(match is with | [i]=>[(i,rwU e k t xs)] | _=>[])
 | .bx ..,.bx ty n rows,is,js,_,x=>(match is with | i :: _=>(i,.st ty (ed (mg rows js) 0 (stD n x)))::bZ (mg rows js) 0 (stD n x) | _=>[])
 | _,_,_,_,_,_=>[]
def G8:PT→List Nat→List Nat
 | .mv ..,is=>is
 | .bx ..,_ :: is=>is
 | _,_=>[]
def pn:List PT→List (List Nat)→List Nat
 | p::ps,is::iss=>G8 p is++pn ps iss
 | _,_=>[]
def Q7:(ps:List PT)→(ls:List IB)→List (List Nat)→List (List Nat)→cJ ps→xT ls→BU
 | p::ps,b::ls,is::iss,js::kss,x,o=>toO p b is js x.1 o.1++Q7 ps ls iss kss x.2 o.2
 | _,_,_,_,_,_=>[]
def cN:(rs:List PT)→List (List Nat)→bh rs→List PV×BU
 | [p],is :: _,x=>([(toI p is x).1],(toI p is x).2)
 | p::q::l,is::iss,x=>((toI p is x.1).1::(cN (q::l) iss x.2).1,(toI p is x.1).2++(cN (q::l) iss x.2).2)
 | _,_,_=>([],[])
def xV:List PV→PV
 | [v]=>v
 | vs=>.tup vs
def YS:(p:PT)→(b:IB)→p.den→b.den→Prop
 | .own _ _ t,.own _ _ t',x,o=>(show List t'.den from o).length=(show List t.den from x).length
 | _,_,_,_=>True
def K1:(ps:List PT)→(ls:List IB)→cJ ps→xT ls→Prop
 | p::ps,b::ls,x,o=>YS p b x.1 o.1∧K1 ps ls x.2 o.2
 | _,_,_,_=>True
def iL:List PT→List (List Nat)→Prop
 | [],[]=>True
 | p::ps,is::iss=>is.length=p.nI∧iL ps iss
 | _,_=>False
def jZ:List IB→List (List Nat)→Prop
 | [],[]=>True
 | b::ls,js::kss=>js.length=b.nJ∧jZ ls kss
 | _,_=>False
def sY (ps rs:List PT) (iss kss jss:List (List Nat)) (x:cJ ps) (r:bh rs) : BU:=Q7 ps (cp rs) iss kss x (jR rs r)++((cN (e8 rs) jss (iM rs r)).2++D4 (eb ps iss x).2 (pn ps iss))
def Zm (P:Program) (f:FuncId) (ps rs:List PT) (x:cJ ps) (r:bh rs) : Prop :=
 K1 ps (cp rs) x (jR rs r)∧∀ iss kss jss,iL ps iss→jZ (cp rs) kss→iL (e8 rs) jss→(bq iss++(bq kss++bq jss)).Nodup→(∀ j∈bq kss++bq jss,j < 1000000)→(∀ i∈bq iss,i∈bN (eb ps iss x).2)→eB P f=true ∧
  ∀ (w0:WM) (F0:Nat→Prop) (ρ : Nat→Value) (b:Nat→Option Box) (w:World) (F:Nat→Prop) (vs:Array Value) (args:List PV),dW args=(eb ps iss x).1→(∀ t B,lkU (eb ps iss x).2 t=some B→∃ B',b t=some B'∧rc B' = B)→(∀ t∈bq kss++bq jss,b t=none) →
   Inv w0 F0 ρ b w F→cz ρ b w F vs.toList args→Calls P f vs w fun e w'=>∃ v ρ' F',e = .returned v∧Inv w0 F0 ρ' (dJ b (sY ps rs iss kss jss x r)) w' F'∧Stp ρ b w F ρ' (dJ b (sY ps rs iss kss jss x r)) w' F'∧aL ρ' (dJ b (sY ps rs iss kss jss x r)) w' F' v (xV (cN (e8 rs) jss (iM rs r)).1)
def bR (P:Program) (f:FuncId) (ps rs:List PT) (F:cJ ps→Option (bh rs)) : Prop:=∀ x r,F x=some r→((oI ps||oI rs)=false→PC P f (qS ps x) (toR rs r))∧((oI ps||oI rs)=true→Zm P f ps rs x r)
def qu (P:Program) (T:List (Nat×Ent)) : Prop:=∀ f vs en,lkE T f vs=some en→bR P f en.ps en.rs en.f
theorem qu.nil:qu P []:=fun f vs en h=>by cases h
theorem qu.cons {T:List (Nat×Ent)} {f:FuncId} {ps rs:List PT} {F:cJ ps→Option (bh rs)} (h:bR P f ps rs F) (hT:qu P T) : qu P ((f,⟨ps,rs,F⟩)::T):=by
 intro g vs en hg
 simp only [lkE,cQ] at hg
 by_cases e:g=f
 ·subst e
  simp only [decide_true] at hg
  split at hg
  ·injection hg with hg
   subst hg
   exact h
  ·exact hT g vs en hg
 ·simp only [e,decide_false] at hg
  exact hT g vs en hg
theorem CL {t:Ty} {c:SD} {x:t.den} (h:c.as t=some x) : (qe t x).toD=c.toD:=by
 have h1:=SD.as_ok h
 cases t with
 | st i=>simp [SD.as] at h
 | _=>simp only [bJ,List.cons.injEq,and_true] at h1; exact h1
theorem UY (hs:Sim s p) {t:Ty} {v:SV} {q:PV} {x:t.den} (hv:bb s.bx v q) (h:WV s t v=some x) : asData p.b q = .d (qe t x).toD∧(ph v=true→clean q=true∧asData dZ q = .d (qe t x).toD):=by
 unfold WV at h
 split at h
 ·rename_i c hc
  have:=UX hs hv hc
  simp only [CL h]
  exact this
 ·cases h
theorem Zb (hs:Sim s p) {i:Nat} {v:SV} {q:PV} {x:ST i} (hv:bb s.bx v q) (h:WY s i v=some x) : asData p.b q = .ag ((stD i x).map .d)∧(ph v=true→clean q=true∧asData dZ q = .ag ((stD i x).map .d)):=by
 unfold WY at h
 split at h
 ·rename_i cs
  split at h
  ·rename_i ds hds
   obtain ⟨qs,rfl,hq⟩:=CY hv
   obtain ⟨h1,h2⟩:=QS hs hq hds
   have h3:=zR h
   have e:ds.map (fun c=>PV.d c.toD)=(stD i x).map .d:=by rw [← h3,List.map_map]; rfl
   refine ⟨by simp only [asData,h1,e],fun hn=>?_⟩
   obtain ⟨h4,h5⟩:=h2 hn
   exact ⟨by simpa [clean] using h4,by simp only [asData,h5,e]⟩
  ·cases h
 ·cases h
theorem YZ {cs:List SD} {q:PV} (b:Nat→Option Box) (hv:bb B (.fe cs) q) : asData b q = .fe (cs.map SD.toD)∧clean q=true:=by
 cases hv with
 | fe _ ds h hn=>subst h; exact ⟨rfl,rfl⟩
theorem RU {t:Ty} {v:SV} {q:PV} {x:t.den} (b:Nat→Option Box) (hv:bb B v q) (h:QQ t v=some x) : asData b q = .fe [(qe t x).toD]∧clean q=true:=by
 unfold QQ at h
 split at h
 ·rename_i c
  have e:(qe t x).toD=c.toD:=CL h
  rw [e]
  exact YZ b hv
 ·cases h
theorem RQ {i:Nat} {v:SV} {q:PV} {x:ST i} (b:Nat→Option Box) (hv:bb B v q) (h:QP i v=some x) : asData b q = .fe (stD i x)∧clean q=true:=by
 unfold QP at h
 split at h
 ·rename_i cs
  rw [← zR h]
  exact YZ b hv
 ·cases h
theorem WZ (hs:Sim s p) {t:CT} {v:SV} {q:PV} {x:t.den} (hv:bb s.bx v q) (h:Y5 s t v=some x) : asData p.b q=toC t x∧(ph v=true→clean q=true∧asData dZ q=toC t x):=by
 cases t with
 | v t=>exact UY hs hv h
 | a i=>exact Zb hs hv h
 | pl t=>exact ⟨(RU p.b hv h).1,fun _=>⟨(RU p.b hv h).2,(RU dZ hv h).1⟩⟩
 | ps i=>exact ⟨(RQ p.b hv h).1,fun _=>⟨(RQ p.b hv h).2,(RQ dZ hv h).1⟩⟩
theorem EC (hs:Sim s p) : ∀ {ps:List CT} {vs:List SV} {qs:List PV} {x:ud ps},bS s.bx vs qs→LK s ps vs=some x→bG p.b qs=C7 ps x∧(ct vs=true→cD qs=true∧bG dZ qs=C7 ps x)
 | [],[],qs,x,hv,h=>by
  rcases hv.cases with ⟨_,rfl⟩ | ⟨_,_,_,_,h1,_⟩
  ·simp [bG,C7,cD]
  ·cases h1
 | [],_ :: _,_,_,_,h=>by cases h
 | _ :: _,[],_,_,_,h=>by cases h
 | t::ps,v::vs,qs,x,hv,h=>by
  rcases hv.cases with ⟨h1,_⟩ | ⟨v',q,vs',qs',h1,rfl,h2,h3⟩
  ·cases h1
  ·injection h1 with e1 e2
   subst e1 e2
   simp only [LK] at h
   obtain ⟨y,h4,h5⟩:=cG h
   obtain ⟨ys,h6,h7⟩:=cG h5
   injection h7 with h7
   subst h7
   obtain ⟨m1,m2⟩:=WZ hs h2 h4
   obtain ⟨m3,m4⟩:=EC hs h3 h6
   refine ⟨by simp [bG,C7,m1,m3],fun hn=>?_⟩
   simp only [ct] at hn
   split at hn
   ·rename_i hn1
    obtain ⟨n1,n2⟩:=m2 hn1
    obtain ⟨n3,n4⟩:=m4 hn
    simp [bG,cD,C7,n1,n2,n3,n4]
   ·cases hn
theorem Xl {f:FuncId} {ps qs:List SV} {q:PV} (h:bb B (.fn f ps qs) q) : ∃ ps' qs',q = .fn f ps' qs'∧bS B ps ps'∧bS B qs qs':=by
 cases h with
 | fn _ _ _ ps' qs' hl hr hl2 hr2=>exact ⟨ps',qs',rfl,⟨hl,hr⟩,hl2,hr2⟩
theorem CN (hs:Sim s p) {t:PT} {v:SV} {q:PV} {x:t.den} (hv:bb s.bx v q) (h:LN s t v=some x) : asData p.b q=pb t x∧(ph v=true→clean q=true∧asData dZ q=pb t x):=by
 cases t with
 | lf t=>exact UY hs hv h
 | ag i=>exact Zb hs hv h
 | pl t=>exact ⟨(RU p.b hv h).1,fun _=>⟨(RU p.b hv h).2,(RU dZ hv h).1⟩⟩
 | ps i=>exact ⟨(RQ p.b hv h).1,fun _=>⟨(RQ p.b hv h).2,(RQ dZ hv h).1⟩⟩
 | fn f a b =>
  have h:Yp s f a b v=some x:=h
  unfold Yp at h
  split at h
  ·rename_i f' ps qs
   split at h
   ·rename_i hf
    rw [cQ] at hf
    have hf:=zd hf
    subst hf
    obtain ⟨y,h4,h5⟩:=cG h
    obtain ⟨ys,h6,h7⟩:=cG h5
    injection h7 with h7
    subst h7
    obtain ⟨ps',qs',rfl,k1,k2⟩:=Xl hv
    obtain ⟨m1,m2⟩:=EC hs k1 h4
    obtain ⟨m3,m4⟩:=EC hs k2 h6
    refine ⟨by simp only [asData,pb,m1,m3],fun hn=>?_⟩
    simp only [ph] at hn
    split at hn
    ·rename_i hn1
     obtain ⟨n1,n2⟩:=m2 hn1
     obtain ⟨n3,n4⟩:=m4 hn
     exact ⟨by simp only [clean,n1,n3,Bool.and_self],by simp only [asData,pb,n2,n4]⟩
    ·cases hn
   ·cases h
  ·cases h
 | own=>exact dI (x:=x) h
 | mv=>exact dI (x:=x) h
 | bx=>exact dI (x:=x) h
 | agr=>exact dI (x:=x) h
 | io=>exact dI (x:=x) h
theorem LM (hs:Sim s p) : ∀ {ps:List PT} {vs:List SV} {qs:List PV} {x:cJ ps},bS s.bx vs qs→QR s ps vs=some x→bG p.b qs=qS ps x∧(ct vs=true→cD qs=true∧bG dZ qs=qS ps x)
 | [],[],qs,x,hv,h=>by
  rcases hv.cases with ⟨_,rfl⟩ | ⟨_,_,_,_,h1,_⟩
  ·simp [bG,qS,cD]
  ·cases h1
 | [],_ :: _,_,_,_,h=>by cases h
 | _ :: _,[],_,_,_,h=>by cases h
 | t::ps,v::vs,qs,x,hv,h=>by
  rcases hv.cases with ⟨h1,_⟩ | ⟨v',q,vs',qs',h1,rfl,h2,h3⟩
  ·cases h1
  ·injection h1 with e1 e2
   subst e1 e2
   simp only [QR] at h
   obtain ⟨y,h4,h5⟩:=cG h
   obtain ⟨ys,h6,h7⟩:=cG h5
   injection h7 with h7
   subst h7
   obtain ⟨m1,m2⟩:=CN hs h2 h4
   obtain ⟨m3,m4⟩:=LM hs h3 h6
   refine ⟨by simp [bG,qS,m1,m3],fun hn=>?_⟩
   simp only [ct] at hn
   split at hn
   ·rename_i hn1
    obtain ⟨n1,n2⟩:=m2 hn1
    obtain ⟨n3,n4⟩:=m4 hn
    simp [bG,cD,qS,n1,n2,n3,n4]
   ·cases hn
theorem It (i:Nat) (x:ST i) : bS B (Af (stC i x)) ((stD i x).map .d):=by
 rw [← tA i x]
 exact DM _ (wB i x)
theorem QF {t:Ty} (x:t.den) (h:∀ i,t≠.st i) : bb B (.fe [qe t x]) (.fe [(qe t x).toD]):=by
 refine .fe _ _ rfl fun c hc=>?_
 simp only [List.mem_cons,List.not_mem_nil,or_false] at hc
 subst hc
 cases t with
 | st i=>exact absurd rfl (h i)
 | _=>exact fun e=>by cases e
theorem US:∀ (t:CT) (x:t.den),Y6 t=true→bb B (Y3 t x) (toC t x)
 | .v (.int _),x,_=>fH _ _
 | .v .bool,x,_=>eV _
 | .v .str,x,_=>vU _
 | .v (.sl t),x,_=>M4 t x
 | .v (.st i),x,h=>by cases h
 | .a i,x,_=>.ag _ _ (It (B:=B) i x).len (It i x).rep
 | .pl t,x,h=>QF x fun i e=>by subst e; cases h
 | .ps i,x,_=>.fe _ _ (tA i x).symm (wB i x)
theorem Az:∀ (ps:List CT) (x:ud ps),EE ps=true→bS B (Hl ps x) (C7 ps x)
 | [],_,_=>.nil
 | p::ps,x,h=>by
  simp only [EE] at h
  split at h
  ·rename_i hp; exact .cons (US p x.1 hp) (Az ps x.2 h)
  ·cases h
theorem ym:∀ (t:PT) (x:t.den),Rx t=true→bb B (RX t x) (pb t x)
 | .lf (.int _),x,_=>fH _ _
 | .lf .bool,x,_=>eV _
 | .lf .str,x,_=>vU _
 | .lf (.sl t),x,_=>M4 t x
 | .lf (.st i),x,h=>by cases h
 | .ag i,x,_=>.ag _ _ (It (B:=B) i x).len (It i x).rep
 | .pl t,x,h=>QF x fun i e=>by subst e; cases h
 | .ps i,x,_=>.fe _ _ (tA i x).symm (wB i x)
 | .fn f a b,x,h=>by
  have h:(match EE a with | true=>EE b | false=>false)=true:=h
  split at h
  ·rename_i h1
   have k1:=Az (B:=B) a x.1 h1
   have k2:=Az (B:=B) b x.2 h
   exact .fn f _ _ _ _ k1.len k1.rep k2.len k2.rep
  ·cases h
 | .own ..,x,h=>by cases h
 | .mv ..,x,h=>by cases h
 | .bx ..,x,h=>by cases h
 | .agr ..,x,h=>by cases h
 | .io _,x,h=>by cases h
theorem Hm:∀ (ps:List PT) (x:cJ ps),tI ps=true→bS B (BD ps x) (qS ps x)
 | [],_,_=>.nil
 | p::ps,x,h=>by
  simp only [tI] at h
  split at h
  ·rename_i hp; exact .cons (ym p x.1 hp) (Hm ps x.2 h)
  ·cases h
theorem Ay:∀ (rs:List PT) (x:bh rs),tI rs=true→bS B (QK rs x) (xK rs x)
 | [],_,_=>.nil
 | [p],x,h=>by
  simp only [tI] at h
  split at h
  ·rename_i hp; exact .cons (ym p x hp) .nil
  ·cases h
 | p::q::l,x,h=>by
  have h':Rx p=true∧tI (q::l)=true:=by
   rw [tI] at h
   split at h
   ·rename_i hp; exact ⟨hp,h⟩
   ·cases h
  exact .cons (ym p x.1 h'.1) (Ay (q::l) x.2 h'.2)
theorem UR (rs:List PT) (x:bh rs) (h:tI rs=true) : bb B (Y0 rs x) (toR rs x):=by
 match rs,x,h with
 | [],x,h=>exact .tup _ _ rfl (fun j c q h1=>by simp [QK] at h1)
 | [p],x,h =>
  have:=Ay (B:=B) [p] x h
  exact this.head
 | p::q::l,x,h =>
  have:=Ay (B:=B) (p::q::l) x h
  exact .tup _ _ this.len this.rep
theorem Ec:∀ {ds:List D},(∀ d∈ds,∃ x,d = .v x)→tW (ds.map .d)=true
 | [],_=>rfl
 | d::ds,h=>by
  obtain ⟨x,rfl⟩:=h d List.mem_cons_self
  simp [tW,flat,Ec (fun d hd=>h d (List.mem_cons_of_mem _ hd))]
theorem Hb:∀ (t:PT) (x:t.den),t.flat=true→flat (pb t x)=true
 | .lf (.int _),_,_=>rfl
 | .lf .bool,_,_=>rfl
 | .lf .str,_,_=>rfl
 | .lf (.sl _),_,h=>by cases h
 | .lf (.st _),_,h=>by cases h
 | .ag i,x,h=>by
  simp only [pb,flat]
  exact Ec (XQ i x h)
 | .pl _,_,h=>by cases h
 | .ps _,_,h=>by cases h
 | .fn _ _ _,_,h=>by cases h
 | .own ..,_,h=>by cases h
 | .mv ..,_,h=>by cases h
 | .bx ..,_,h=>by cases h
 | .agr ..,_,h=>by cases h
 | .io _,_,h=>by cases h
theorem Ha:∀ (rs:List PT) (x:bh rs),qo rs=true→tW (xK rs x)=true
 | [],_,_=>rfl
 | [p],x,h=>by
  simp only [qo] at h
  split at h
  ·rename_i hp; simp [xK,tW,Hb p x hp]
  ·cases h
 | p::q::l,x,h=>by
  have h':p.flat=true∧qo (q::l)=true:=by
   rw [qo] at h
   split at h
   ·rename_i hp; exact ⟨hp,h⟩
   ·cases h
  simp [xK,tW,Hb p x.1 h'.1,Ha (q::l) x.2 h'.2]
theorem uc:∀ (ds:List D),cD (ds.map .d)=true
 | []=>rfl
 | d::ds=>by simp [cD,clean,uc ds]
theorem Sc:∀ (t:CT) (x:t.den),clean (toC t x)=true
 | .v _,_=>rfl
 | .a i,x=>by simp [toC,clean,uc]
 | .pl _,_=>rfl
 | .ps _,_=>rfl
theorem EJ:∀ (cs:List CT) (x:ud cs),cD (C7 cs x)=true
 | [],_=>rfl
 | c::cs,x=>by simp only [C7,cD,Sc c x.1,EJ cs x.2,Bool.and_self]
theorem dL:∀ (t:PT) (x:t.den),clean (pb t x)=true
 | .lf _,_=>rfl
 | .ag i,x=>by simp [pb,clean,uc]
 | .pl _,_=>rfl
 | .ps _,_=>rfl
 | .fn _ a b,x=>by simp only [pb,clean,EJ,Bool.and_self]
 | .own ..,_=>rfl
 | .mv ..,_=>rfl
 | .bx ..,_=>rfl
 | .agr ..,_=>rfl
 | .io _,_=>rfl
theorem EI:∀ (rs:List PT) (x:bh rs),cD (xK rs x)=true
 | [],_=>rfl
 | [p],x=>by simp only [xK,cD,Bool.and_true]; exact dL p x
 | p::q::l,x=>by simp only [xK,cD,Bool.and_eq_true]; exact ⟨dL p x.1,EI (q::l) x.2⟩
theorem qR (rs:List PT) (x:bh rs) : (∃ p,xK rs x = [p]∧toR rs x=p)∨toR rs x = .tup (xK rs x):=by
 match rs,x with
 | [],x=>exact .inr rfl
 | [p],x=>exact .inl ⟨_,rfl,rfl⟩
 | p::q::l,x=>exact .inr rfl
theorem UI (rs:List PT) (x:bh rs) (h:qo rs=true) : flat (toR rs x)=true:=by
 have:=Ha rs x h
 rcases qR rs x with ⟨p,h1,h2⟩ | h1
 ·rw [h1] at this
  rw [h2]
  simpa [tW] using this
 ·rw [h1]
  simpa [flat] using this
theorem Sb (rs:List PT) (x:bh rs) : clean (toR rs x)=true:=by
 have:=EI rs x
 rcases qR rs x with ⟨p,h1,h2⟩ | h1
 ·rw [h1] at this
  rw [h2]
  simpa [cD] using this
 ·rw [h1]
  simpa [clean] using this
theorem U7 {T:List (Nat×Ent)} (hT:qu P T) (hs:Sim s p) {f:Nat} {vs:List SV} {qs:List PV} (hM:RL T f vs=false) (hv:bS s.bx vs qs) {k:SV→Option ρ} {res : ρ} (h:QU T f s vs k=some res) : ∃ v r,Kh P f p.b qs r∧k v=some res∧bb s.bx v r:=by
 unfold QU at h
 split at h
 ·cases h
 ·rename_i en hen
  have h0:=(am h).1
  replace h:=(am h).2
  have h1:=(am h).1
  replace h:=(am h).2
  obtain ⟨x,h2,h⟩:=cG h
  obtain ⟨r,h3,h4⟩:=cG h
  obtain ⟨m1,m2⟩:=LM hs hv h2
  have hc:=(hT f _ en hen x r h3).1 (by unfold RL at hM; rw [hen] at hM; exact hM)
  refine ⟨_,toR en.rs r,?_,h4,UR en.rs r h0⟩
  simp only [Bool.or_eq_true] at h1
  rcases h1 with h1 | h1
  ·obtain ⟨n1,n2⟩:=m2 h1
   exact .inl ⟨n1,Sb _ _,by rw [n2]; exact hc⟩
  ·exact .inr ⟨UI _ _ h1,by rw [m1]; exact hc⟩
end
section
section
variable {P:Program} {n:Nat} {Qs:Exit→PS→Prop} {c:Code}
end
end
end Go.Proofs.YtaknepbdbappdaaGreat
