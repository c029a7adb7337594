/- My texts, in one. -/
import Derived.Test.YtaknepbdbappdaaGreatZA
set_option linter.all false
set_option maxRecDepth 100000
set_option maxHeartbeats 4000000
namespace Go.Proofs.YtaknepbdbappdaaGreat
open Go.RowKit
open IntKind (i64)
open Go.Proofs.Tryz (prog)
section
section
variable {α σ τ S:Type}
theorem aM {f : σ→Option (σ⊕τ)} (I : σ→Prop) (μ : σ→Nat) (Q : τ→Prop) (h:∀ s,I s→(∃ s',f s=some (.inl s')∧I s'∧μ s' < μ s)∨(∃ r,f s=some (.inr r)∧Q r)) : ∀ (N:Nat) (s : σ),I s→μ s < N→∃ r,ah f N s=some r∧Q r
 | 0,s,_,hm=>absurd hm (Nat.not_lt_zero _)
 | N + 1,s,hI,hm=>by
  rcases h s hI with ⟨s',h1,h2,h3⟩ | ⟨r,h1,h2⟩
  ·obtain ⟨r,h4,h5⟩:=aM I μ Q h N s' h2 (by omega)
   exact ⟨r,by simp only [ah,h1]; exact h4,h5⟩
  ·exact ⟨r,by simp only [ah,h1],h2⟩
def br (g : σ→α→Option (σ⊕τ)) (fin : σ→τ) : σ→List α→Option τ
 | a,[]=>some (fin a)
 | a,x::l=>match g a x with
  | none=>none
  | some (.inl a')=>br g fin a' l
  | some (.inr r)=>some r
def nX (g : σ→Int→α→Option (σ⊕τ)) (fin : σ→τ) : σ→Nat→List α→Option τ
 | a,_,[]=>some (fin a)
 | a,k,x::l=>match g a (k:Int) x with
  | none=>none
  | some (.inl a')=>nX g fin a' (k + 1) l
  | some (.inr r)=>some r
theorem uJ (l:List α) (mk : σ→Int→S) (f:S→Option (S⊕τ)) (g : σ→Int→α→Option (σ⊕τ)) (fin : σ→τ)
  (hstep:∀ (k:Nat) (a : σ) (x : α),l[k]? = some x→f (mk a (k:Int))=(g a (k:Int) x).map (fun o=>match o with | .inl a'=>.inl (mk a' ((k + 1:Nat) : Int)) | .inr r=>.inr r))
  (hend:∀ a,f (mk a (l.length:Int))=some (.inr (fin a))) : ∀ (N k:Nat) (a : σ),k≤l.length→l.length - k < N→ah f N (mk a (k:Int))=nX g fin a k (l.drop k)
 | 0,k,a,_,hN=>absurd hN (Nat.not_lt_zero _)
 | N + 1,k,a,hk,hN=>by
  by_cases hlt:k < l.length
  ·have hx:l[k]? = some l[k]:=zq hlt
   have hd:l.drop k=l[k] :: l.drop (k + 1):=(List.getElem_cons_drop hlt).symm
   rw [hd]
   simp only [ah,hstep k a _ hx,nX]
   cases hg:g a (k:Int) l[k] with
   | none=>rfl
   | some o =>
    cases o with
    | inl a'=>exact uJ l mk f g fin hstep hend N (k + 1) a' hlt (by omega)
    | inr r=>rfl
  ·have:k=l.length:=by omega
   subst this
   simp only [ah,hend a,List.drop_length,nX]
theorem fq (l:List α) (mk : σ→Int→S) {f:S→Option (S⊕τ)} (g : σ→Int→α→Option (σ⊕τ)) (fin : σ→τ) {N:Nat} (hN:l.length < N)
  (hstep:∀ (k:Nat) (a : σ) (x : α),l[k]? = some x→f (mk a (k:Int))=(g a (k:Int) x).map (fun o=>match o with | .inl a'=>.inl (mk a' ((k + 1:Nat) : Int)) | .inr r=>.inr r))
  (hend:∀ a,f (mk a (l.length:Int))=some (.inr (fin a))) (a : σ) : ah f N (mk a 0)=nX g fin a 0 l:=by
 have:=uJ l mk f g fin hstep hend N 0 a (Nat.zero_le _) (by omega)
 rwa [List.drop_zero] at this
theorem Ii {β γ δ : Type} (o:Option β) (k : β→Option γ) (f : γ→δ) : (o.bind k).map f=o.bind fun x=>(k x).map f:=by cases o <;> rfl
theorem WP {γ δ : Type} {c:Bool} (a b:Option γ) (f : γ→δ) : (if c=true then a else b).map f=if c=true then a.map f else b.map f:=by cases c <;> rfl
theorem Zb {β γ δ ε : Type} (o : β⊕γ) (a : β→Option δ) (b : γ→Option δ) (f : δ→ε) : (match o with | .inr y=>b y | .inl x=>a x).map f=match o with | .inr y=>(b y).map f | .inl x=>(a x).map f:=by cases o <;> rfl
theorem wN (l:List α) (mk : σ→Int→S) (f:S→Option (S⊕τ)) (g : σ→α→Option (σ⊕τ)) (fin : σ→τ)
  (hstep:∀ (k:Nat) (a : σ) (x : α),l[k]? = some x→f (mk a (k:Int))=(g a x).map (fun o=>match o with | .inl a'=>.inl (mk a' ((k + 1:Nat) : Int)) | .inr r=>.inr r))
  (hend:∀ a,f (mk a (l.length:Int))=some (.inr (fin a))) : ∀ (N k:Nat) (a : σ),k≤l.length→l.length - k < N→ah f N (mk a (k:Int))=br g fin a (l.drop k)
 | 0,k,a,_,hN=>absurd hN (Nat.not_lt_zero _)
 | N + 1,k,a,hk,hN=>by
  by_cases hlt:k < l.length
  ·have hx:l[k]? = some l[k]:=zq hlt
   have hd:l.drop k=l[k] :: l.drop (k + 1):=(List.getElem_cons_drop hlt).symm
   rw [hd]
   simp only [ah,hstep k a _ hx,br]
   cases hg:g a l[k] with
   | none=>rfl
   | some o =>
    cases o with
    | inl a'=>exact wN l mk f g fin hstep hend N (k + 1) a' hlt (by omega)
    | inr r=>rfl
  ·have:k=l.length:=by omega
   subst this
   simp only [ah,hend a,List.drop_length,br]
theorem az (l:List α) (mk : σ→Int→S) {f:S→Option (S⊕τ)} (g : σ→α→Option (σ⊕τ)) (fin : σ→τ) {N:Nat} (hN:l.length < N)
  (hstep:∀ (k:Nat) (a : σ) (x : α),l[k]? = some x→f (mk a (k:Int))=(g a x).map (fun o=>match o with | .inl a'=>.inl (mk a' ((k + 1:Nat) : Int)) | .inr r=>.inr r))
  (hend:∀ a,f (mk a (l.length:Int))=some (.inr (fin a))) (a : σ) : ah f N (mk a 0)=br g fin a l:=by
 have:=wN l mk f g fin hstep hend N 0 a (Nat.zero_le _) (by omega)
 rwa [List.drop_zero] at this
theorem wM (l:List α) (p : α→Bool) {f:Int→Option (Int⊕Int)} (hstep:∀ (k:Nat) (x : α),l[k]? = some x→f (k:Int)=if p x=true then some (.inl ((k + 1:Nat) : Int)) else some (.inr (k:Int))) (hend:f (l.length:Int)=some (.inr (l.length:Int))) :
  ∀ (N k:Nat),k≤l.length→l.length - k < N→ah f N (k:Int)=some ((k + ((l.drop k).takeWhile p).length:Nat) : Int)
 | 0,k,_,hN=>absurd hN (Nat.not_lt_zero _)
 | N + 1,k,hk,hN=>by
  by_cases hlt:k < l.length
  ·have hx:l[k]? = some l[k]:=zq hlt
   have hd:l.drop k=l[k] :: l.drop (k + 1):=(List.getElem_cons_drop hlt).symm
   simp only [ah,hstep k _ hx]
   rw [hd,List.takeWhile_cons]
   cases hp:p l[k] with
   | true =>
    simp only [if_true]
    rw [wM l p hstep hend N (k + 1) hlt (by omega)]
    simp only [List.length_cons]
    congr 2
    omega
   | false=>simp
  ·have:k=l.length:=by omega
   subst this
   simp only [ah,hend,List.drop_length,List.takeWhile_nil,List.length_nil,Nat.add_zero]
theorem EF (l:List α) (p : α→Bool) {f:Int→Option (Int⊕Int)} {N:Nat} (hN:l.length < N) (hstep:∀ (k:Nat) (x : α),l[k]? = some x→f (k:Int)=if p x=true then some (.inl ((k + 1:Nat) : Int)) else some (.inr (k:Int))) (hend:f (l.length:Int)=some (.inr (l.length:Int))) :
  ah f N 0=some ((l.takeWhile p).length:Int):=by
 have:=wM l p hstep hend N 0 (Nat.zero_le _) (by omega)
 simpa using this
theorem ln (p : α→Bool) (l:List α) : (l.takeWhile p).length≤l.length:=(List.takeWhile_sublist p).length_le
theorem lB {l:List α} {k:Nat} (h:k≤l.length) : hiO l (k:Int)=some (l.take k):=by
 unfold hiO
 rw [if_pos ⟨Int.natCast_nonneg k,by rw [zt]; exact h⟩,zt]
theorem i6 {l:List α} {k:Nat} (h:k≤l.length) : loO l (k:Int)=some (l.drop k):=by
 unfold loO
 rw [if_pos ⟨Int.natCast_nonneg k,by rw [zt]; exact h⟩,zt]
theorem aJ {l m:List α} (h:l.length + m.length≤1000000) : aX l m=some (l++m):=by unfold aX; rw [if_pos h]
theorem a7 {g : σ→α→Option (σ⊕τ)} {fin : σ→τ} (I:Nat→σ→Prop) (Q : τ→Prop) : ∀ (l:List α) (k:Nat) (a : σ),(∀ (j:Nat) (a : σ) (x : α),l[j]? = some x→I (k + j) a→∃ o,g a x=some o∧(∀ a',o = .inl a'→I (k + j + 1) a')∧∀ r,o = .inr r→Q r)→(∀ a,I (k + l.length) a→Q (fin a))→I k a→∃ r,br g fin a l=some r∧Q r
 | [],k,a,_,hf,hI=>⟨fin a,rfl,hf a hI⟩
 | x::l,k,a,h,hf,hI=>by
  obtain ⟨o,h1,h2,h3⟩:=h 0 a x rfl hI
  cases o with
  | inl a' =>
   obtain ⟨r,h4,h5⟩:=a7 I Q l (k + 1) a' (fun j a x hj hI=>by
    have:=h (j + 1) a x hj (by rw [show k + (j + 1)=k + 1 + j by omega]; exact hI)
    rw [show k + (j + 1) + 1=k + 1 + j + 1 by omega] at this
    exact this) (fun a hI=>hf a (by rw [List.length_cons,show k + (l.length + 1)=k + 1 + l.length by omega]; exact hI)) (h2 a' rfl)
   exact ⟨r,by simp only [br,h1]; exact h4,h5⟩
  | inr r=>exact ⟨r,by simp only [br,h1],h3 r rfl⟩
theorem ER {l:List α} {i:Int} (h0 : 0≤i) (h1:i < (l.length:Int)) : ∃ x,aw l i=some x∧x∈l:=by
 unfold aw
 rw [if_pos h0]
 have:i.toNat < l.length:=by omega
 exact ⟨l[i.toNat],zq this,List.getElem_mem this⟩
theorem orB (a b:Bool) : (if a=true then some true else some b)=some (a||b):=by cases a <;> rfl
theorem cW (a b:Bool) : (if a=true then some b else some false)=some (a&&b):=by cases a <;> rfl
theorem cd (p : α→Bool) (q : α→σ) {ρ : Type} (fin:List σ→ρ) : ∀ (l:List α) (acc:List σ),acc.length + l.length≤1000000→br (fun acc x=>if p x=true then (aX acc [q x]).map (fun a=>(.inl a:List σ⊕ρ)) else some (.inl acc)) fin acc l=some (fin (acc++(l.filter p).map q))
 | [],acc,_=>by simp [br]
 | x::l,acc,h=>by
  simp only [List.length_cons] at h
  simp only [br,List.filter_cons]
  cases hp:p x with
  | true =>
   simp only [if_true,aJ (show acc.length + [q x].length≤1000000 by simp; omega),Option.map_some]
   rw [cd p q fin l _ (by simp; omega)]
   simp
  | false=>simpa using cd p q fin l acc (by omega)
def dp (key : α→Int) (l:List α) (a : α) : List α :=
 l.take (l.takeWhile fun x=>decide (key x < key a)).length++a::l.drop (match l[(l.takeWhile fun x=>decide (key x < key a)).length]? with | some x=>if (key x==key a)=true then (l.takeWhile fun x=>decide (key x < key a)).length + 1 else (l.takeWhile fun x=>decide (key x < key a)).length | none=>(l.takeWhile fun x=>decide (key x < key a)).length)
theorem aH {l:List α} {k:Nat} {x : α} (h:l[k]? = some x) : aw l (k:Int)=some x:=by
 unfold aw
 rw [if_pos (Int.natCast_nonneg k),zt,h]
theorem bL {l:List α} {k:Nat} {x : α} (h:l[k]? = some x) : decide ((k:Int) < (l.length:Int))=true:=by
 have:=(zg.1 h).1
 simpa using this
theorem bF (l:List α) : decide ((l.length:Int) < (l.length:Int))=false:=by simp
theorem bb {k n:Nat} (h:k < n) (hn:n≤1000000) : i64.wrap ((k:Int) + 1)=((k + 1:Nat) : Int):=aaZ k (by omega)
theorem ao {n:Nat} (h:n≤1000000) : n < ab:=by unfold ab; omega
theorem kJ (h : σ→α→σ) (fin : σ→τ) : ∀ (l:List α) (a : σ),br (fun a x=>some (.inl (h a x))) fin a l=some (fin (l.foldl h a))
 | [],_=>rfl
 | x::l,a=>kJ h fin l (h a x)
theorem pJ (p : α→Bool) (q : α→τ) (d : τ) : ∀ l:List α,br (fun (_:Unit) x=>if p x=true then some (.inr (q x)) else some (.inl ())) (fun _=>d) () l=some (((l.find? p).map q).getD d)
 | []=>rfl
 | x::l=>by
  simp only [br,List.find?_cons]
  cases hp:p x with
  | true=>rfl
  | false=>simpa using pJ p q d l
end
theorem bJ {α : Type} {a b:Option α} (h:a=b:=by (have hk:=(zg.1 hx).1; simp only [bL hx,if_true,aH hx,zb,bb hk hl,Ii,WP,Zb,Option.map_some]; all_goals (repeat (first | rfl | (refine congrArg (Option.bind _) (funext fun r_=>?_)) | (refine iteB ?_ ?_) | (cases r_ <;> rfl))))) : a=b:=h
theorem cI {α : Type} {a b:Option α} (h:a=b:=by simp only [bF,zf,if_false]) : a=b:=h
end
inductive Ty where
 | int (k:IntKind)
 | bool
 | str
 | sl (t:Ty)
 | st (i:Nat)
def Ty.same:(a b:Ty)→Option (PLift (a=b))
 | .int j,.int k=>if h:j=k then some ⟨by rw [h]⟩ else none
 | .bool,.bool=>some ⟨rfl⟩
 | .str,.str=>some ⟨rfl⟩
 | .sl a,.sl b=>match Ty.same a b with | some ⟨h⟩=>some ⟨by rw [h]⟩ | none=>none
 | .st i,.st j=>if h:i=j then some ⟨by rw [h]⟩ else none
 | _,_=>none
def lhO {α : Type} (l:List α) (a b:Int) : Option (List α):=if 0≤a∧0≤b∧a.toNat≤b.toNat∧b.toNat≤l.length then some ((l.drop a.toNat).take (b.toNat - a.toNat)) else none
def ST:Nat→Type
 | 0=>au
 | 1=>aV
 | 2=>aC
 | 3=>eE
 | 4=>aE
 | 5=>ay
 | 6=>an
 | 7=>aW
 | 8=>ai
 | 9=>aN
 | 10=>bz
 | 11=>bA
 | 12=>aa
 | 15=>aY
 | 16=>aK
 | 17=>bh
 | 18=>ak
 | _=>Unit
def Ty.den:Ty→Type
 | .int _=>Int
 | .bool=>Bool
 | .str=>ByteArray
 | .sl t=>List (Ty.den t)
 | .st i=>ST i
inductive SD where
 | int (k:IntKind) (x:Int)
 | bool (b:Bool)
 | str (s:ByteArray)
 | sl (t:Ty) (xs:List t.den)
 | nl
def stD:(i:Nat)→ST i→List D
 | 0,x=>au.d x
 | 1,x=>aV.d x
 | 2,x=>aC.d x
 | 3,x=>eE.d x
 | 4,x=>aE.d x
 | 5,x=>ay.d x
 | 6,x=>an.d x
 | 7,x=>aW.d x
 | 8,x=>ai.d x
 | 9,x=>aN.d x
 | 10,x=>bz.d x
 | 11,x=>bA.d x
 | 12,x=>aa.d x
 | 15,x=>aY.d x
 | 16,x=>aK.d x
 | 17,x=>bh.d x
 | 18,x=>ak.d x
 | 13,_=>[]
 | 14,_=>[]
 | _ + 19,_=>[]
def bH:(t:Ty)→t.den→List D
 | .int k,x=>[.v (.int k x)]
 | .bool,x=>[.v (.bool x)]
 | .str,x=>[.v (.string x)]
 | .sl t,xs=>[.sl (List.map (bH t) xs)]
 | .st i,x=>stD i x
def y6 {t u:Ty} (h:t=u) (xs:List t.den) : List u.den:=h ▸ xs
def SD.toD:SD→D
 | .int k x=>.v (.int k x)
 | .bool x=>.v (.bool x)
 | .str x=>.v (.string x)
 | .sl t xs=>.sl (List.map (bH t) xs)
 | .nl=>.sl []
def SD.as:(t:Ty)→SD→Option t.den
 | .int k,.int k' x=>if k' = k then some x else none
 | .bool,.bool x=>some x
 | .str,.str x=>some x
 | .sl t,.sl t' xs=>match Ty.same t' t with | some ⟨h⟩=>some (y6 h xs) | none=>none
 | .sl t,.nl=>some ([] : List t.den)
 | _,_=>none
def qK:(t:Ty)→t.den→SD
 | .int k,x=>.int k x
 | .bool,x=>.bool x
 | .str,x=>.str x
 | .sl t,xs=>.sl t xs
 | .st _,_=>.nl
def stN:Nat→Nat
 | 0=>2
 | 1=>8
 | 2=>14
 | 3=>2
 | 4=>3
 | 5=>2
 | 6=>9
 | 7=>8
 | 8=>6
 | 9=>35
 | 10=>5
 | 11=>3
 | 12=>10
 | 15=>5
 | 16=>3
 | 17=>2
 | 18=>2
 | _=>0
def abK:TypeId→Option Nat
 | 27=>some 0
 | 126=>some 1
 | 71=>some 2
 | 98=>some 3
 | 101=>some 4
 | 34=>some 5
 | 85=>some 6
 | 57=>some 7
 | 29=>some 8
 | 73=>some 9
 | 64=>some 10
 | 87=>some 11
 | 41=>some 12
 | 75=>some 15
 | 25=>some 16
 | 268=>some 17
 | 222=>some 18
 | _=>none
def stF:Nat→Bool
 | 0=>true
 | 1=>true
 | 2=>false
 | 3=>true
 | 4=>false
 | 5=>false
 | 6=>true
 | 7=>true
 | 8=>true
 | 9=>false
 | 10=>false
 | 11=>true
 | 12=>false
 | 15=>true
 | 16=>false
 | 17=>true
 | 18=>true
 | _=>true
def stC:(i:Nat)→ST i→List SD
 | 0,(x:au)=>[.int .i64 x.bg,.int .i64 x.aI]
 | 1,(x:aV)=>[.int .i64 x.bD,.int .i64 x.aA,.int .i64 x.cH.bg,.int .i64 x.cH.aI,.int .i64 x.g9,.int .i64 x.bM,.int .i64 x.fu,.int .i64 x.jb]
 | 2,(x:aC)=>[.int .i64 x.fId,.int .i64 x.dG,.str x.bQ,.int .i64 x.de,.int .i64 x.bD,.int .i64 x.bI.bg,.int .i64 x.bI.aI,.sl (.st 1) x.bN,.int .i64 x.cM,.int .i64 x.cn,.sl (.int .i64) x.cf,.sl (.int .i64) x.fQ,.sl (.int .i64) x.oT,.sl (.int .i64) x.pX]
 | 3,(x:eE)=>[.int .i64 x.kM,.int .i64 x.sy]
 | 4,(x:aE)=>[.str x.aO,.sl (.st 3) x.bt,.int .i64 x.de]
 | 5,(x:ay)=>[.sl (.str) x.aj,.sl (.st 4) x.ae]
 | 6,(x:an)=>[.int .i64 x.fId,.int .i64 x.bC,.int .i64 x.bM,.int .i64 x.cH.bg,.int .i64 x.cH.aI,.int .i64 x.bD,.int .i64 x.aA,.bool x.bI,.int .i64 x.jF]
 | 7,(x:aW)=>[.int .i64 x.fId,.int .i64 x.aA,.int .i64 x.fu,.int .i64 x.jq.bg,.int .i64 x.jq.aI,.int .i64 x.cM,.int .i64 x.cn,.bool x.fUp]
 | 8,(x:ai)=>[.int .i64 x.fId,.int .i64 x.aA,.int .i64 x.aB,.int .i64 x.aP,.int .i64 x.a8.bg,.int .i64 x.a8.aI]
 | 9,(x:aN)=>[.int .i64 x.iy,.int .i64 x.fId,.int .i64 x.cn,.int .i64 x.fN,.str x.MQ,.int .i64 x.bM.fId,.int .i64 x.bM.aA,.int .i64 x.bM.fu,.int .i64 x.bM.jq.bg,.int .i64 x.bM.jq.aI,.int .i64 x.bM.cM,.int .i64 x.bM.cn,.bool x.bM.fUp,.int .i64 x.bC.fId,.int .i64 x.bC.dG,.str x.bC.bQ,.int .i64 x.bC.de,.int .i64 x.bC.bD,.int .i64 x.bC.bI.bg,.int .i64 x.bC.bI.aI,.sl (.st 1) x.bC.bN,.int .i64 x.bC.cM,.int .i64 x.bC.cn,.sl (.int .i64) x.bC.cf,.sl (.int .i64) x.bC.fQ,.sl (.int .i64) x.bC.oT,.sl (.int .i64) x.bC.pX,.sl (.st 1) x.bN,.sl (.int .i64) x.gm,.int .i64 x.pW.fId,.int .i64 x.pW.aA,.int .i64 x.pW.aB,.int .i64 x.pW.aP,.int .i64 x.pW.a8.bg,.int .i64 x.pW.a8.aI]
 | 10,(x:bz)=>[.int .i64 x.aaE,.sl (.st 6) x.ac,.sl (.int .i64) x.gm,.sl (.int .i64) x.Z1,.int .i64 x.fN]
 | 11,(x:bA)=>[.int .i64 x.bM,.int .i64 x.bC,.int .i64 x.bD]
 | 12,(x:aa)=>[.sl (.str) x.bG.aj,.sl (.st 4) x.bG.ae,.sl (.st 7) x.aD,.sl (.st 2) x.ar,.sl (.st 6) x.ac,.sl (.st 11) x.aZ,.sl (.st 8) x.al,.int .i64 x.cx,.int .i64 x.pY,.int .i64 x.sw]
 | 15,(x:aY)=>[.int .i64 x.iy,.int .i64 x.fA,.int .i64 x.fB,.int .i64 x.fC,.int .i64 x.fD]
 | 16,(x:aK)=>[.int .i64 x.J8,.sl (.int .i64) x.fNs,.sl (.st 15) x.mC]
 | 17,(x:bh)=>[.int .i64 x.fA,.int .i64 x.fP]
 | 18,(x:ak)=>[.str x.aO,.int .i64 x.bg]
 | 13,_=>[]
 | 14,_=>[]
 | _ + 19,_=>[]
def au.k:List SD→Option au
 | c0::c1 :: []=>Option.bind (c0.as (.int .i64)) fun x0=>Option.bind (c1.as (.int .i64)) fun x1=>some (⟨x0,x1⟩ : au)
 | _=>none
def aV.k:List SD→Option aV
 | c0::c1::c2::c3::c4::c5::c6::c7 :: []=>Option.bind (c0.as (.int .i64)) fun x0=>Option.bind (c1.as (.int .i64)) fun x1=>Option.bind (c2.as (.int .i64)) fun x2=>Option.bind (c3.as (.int .i64)) fun x3=>Option.bind (c4.as (.int .i64)) fun x4=>Option.bind (c5.as (.int .i64)) fun x5=>Option.bind (c6.as (.int .i64)) fun x6=>Option.bind (c7.as (.int .i64)) fun x7=>some (⟨x0,x1,⟨x2,x3⟩,x4,x5,x6,x7⟩ : aV)
 | _=>none
def aC.k:List SD→Option aC
 | c0::c1::c2::c3::c4::c5::c6::c7::c8::c9::c10::c11::c12::c13 :: []=>Option.bind (c0.as (.int .i64)) fun x0=>Option.bind (c1.as (.int .i64)) fun x1=>Option.bind (c2.as (.str)) fun x2=>Option.bind (c3.as (.int .i64)) fun x3=>Option.bind (c4.as (.int .i64)) fun x4=>Option.bind (c5.as (.int .i64)) fun x5=>Option.bind (c6.as (.int .i64)) fun x6=>Option.bind (c7.as (.sl (.st 1))) fun x7=>Option.bind (c8.as (.int .i64)) fun x8=>Option.bind (c9.as (.int .i64)) fun x9=>Option.bind (c10.as (.sl (.int .i64))) fun x10=>Option.bind (c11.as (.sl (.int .i64))) fun x11=>Option.bind (c12.as (.sl (.int .i64))) fun x12=>Option.bind (c13.as (.sl (.int .i64))) fun x13=>some (⟨x0,x1,x2,x3,x4,⟨x5,x6⟩,x7,x8,x9,x10,x11,x12,x13⟩ : aC)
 | _=>none
def eE.k:List SD→Option eE
 | c0::c1 :: []=>Option.bind (c0.as (.int .i64)) fun x0=>Option.bind (c1.as (.int .i64)) fun x1=>some (⟨x0,x1⟩ : eE)
 | _=>none
def aE.k:List SD→Option aE
 | c0::c1::c2 :: []=>Option.bind (c0.as (.str)) fun x0=>Option.bind (c1.as (.sl (.st 3))) fun x1=>Option.bind (c2.as (.int .i64)) fun x2=>some (⟨x0,x1,x2⟩ : aE)
 | _=>none
def ay.k:List SD→Option ay
 | c0::c1 :: []=>Option.bind (c0.as (.sl (.str))) fun x0=>Option.bind (c1.as (.sl (.st 4))) fun x1=>some (⟨x0,x1⟩ : ay)
 | _=>none
def an.k:List SD→Option an
 | c0::c1::c2::c3::c4::c5::c6::c7::c8 :: []=>Option.bind (c0.as (.int .i64)) fun x0=>Option.bind (c1.as (.int .i64)) fun x1=>Option.bind (c2.as (.int .i64)) fun x2=>Option.bind (c3.as (.int .i64)) fun x3=>Option.bind (c4.as (.int .i64)) fun x4=>Option.bind (c5.as (.int .i64)) fun x5=>Option.bind (c6.as (.int .i64)) fun x6=>Option.bind (c7.as (.bool)) fun x7=>Option.bind (c8.as (.int .i64)) fun x8=>some (⟨x0,x1,x2,⟨x3,x4⟩,x5,x6,x7,x8⟩ : an)
 | _=>none
def aW.k:List SD→Option aW
 | c0::c1::c2::c3::c4::c5::c6::c7 :: []=>Option.bind (c0.as (.int .i64)) fun x0=>Option.bind (c1.as (.int .i64)) fun x1=>Option.bind (c2.as (.int .i64)) fun x2=>Option.bind (c3.as (.int .i64)) fun x3=>Option.bind (c4.as (.int .i64)) fun x4=>Option.bind (c5.as (.int .i64)) fun x5=>Option.bind (c6.as (.int .i64)) fun x6=>Option.bind (c7.as (.bool)) fun x7=>some (⟨x0,x1,x2,⟨x3,x4⟩,x5,x6,x7⟩ : aW)
 | _=>none
def ai.k:List SD→Option ai
 | c0::c1::c2::c3::c4::c5 :: []=>Option.bind (c0.as (.int .i64)) fun x0=>Option.bind (c1.as (.int .i64)) fun x1=>Option.bind (c2.as (.int .i64)) fun x2=>Option.bind (c3.as (.int .i64)) fun x3=>Option.bind (c4.as (.int .i64)) fun x4=>Option.bind (c5.as (.int .i64)) fun x5=>some (⟨x0,x1,x2,x3,⟨x4,x5⟩⟩ : ai)
 | _=>none
def aN.k:List SD→Option aN
 | c0::c1::c2::c3::c4::c5::c6::c7::c8::c9::c10::c11::c12::c13::c14::c15::c16::c17::c18::c19::c20::c21::c22::c23::c24::c25::c26::c27::c28::c29::c30::c31::c32::c33::c34 :: []=>Option.bind (c0.as (.int .i64)) fun x0=>Option.bind (c1.as (.int .i64)) fun x1=>Option.bind (c2.as (.int .i64)) fun x2=>Option.bind (c3.as (.int .i64)) fun x3=>Option.bind (c4.as (.str)) fun x4=>Option.bind (c5.as (.int .i64)) fun x5=>Option.bind (c6.as (.int .i64)) fun x6=>Option.bind (c7.as (.int .i64)) fun x7=>Option.bind (c8.as (.int .i64)) fun x8=>Option.bind (c9.as (.int .i64)) fun x9=>Option.bind (c10.as (.int .i64)) fun x10=>Option.bind (c11.as (.int .i64)) fun x11=>Option.bind (c12.as (.bool)) fun x12=>Option.bind (c13.as (.int .i64)) fun x13=>Option.bind (c14.as (.int .i64)) fun x14=>Option.bind (c15.as (.str)) fun x15=>Option.bind (c16.as (.int .i64)) fun x16=>Option.bind (c17.as (.int .i64)) fun x17=>Option.bind (c18.as (.int .i64)) fun x18=>Option.bind (c19.as (.int .i64)) fun x19=>Option.bind (c20.as (.sl (.st 1))) fun x20=>Option.bind (c21.as (.int .i64)) fun x21=>Option.bind (c22.as (.int .i64)) fun x22=>Option.bind (c23.as (.sl (.int .i64))) fun x23=>Option.bind (c24.as (.sl (.int .i64))) fun x24=>Option.bind (c25.as (.sl (.int .i64))) fun x25=>Option.bind (c26.as (.sl (.int .i64))) fun x26=>Option.bind (c27.as (.sl (.st 1))) fun x27=>Option.bind (c28.as (.sl (.int .i64))) fun x28=>Option.bind (c29.as (.int .i64)) fun x29=>Option.bind (c30.as (.int .i64)) fun x30=>Option.bind (c31.as (.int .i64)) fun x31=>Option.bind (c32.as (.int .i64)) fun x32=>Option.bind (c33.as (.int .i64)) fun x33=>Option.bind (c34.as (.int .i64)) fun x34=>some (⟨x0,x1,x2,x3,x4,⟨x5,x6,x7,⟨x8,x9⟩,x10,x11,x12⟩,⟨x13,x14,x15,x16,x17,⟨x18,x19⟩,x20,x21,x22,x23,x24,x25,x26⟩,x27,x28,⟨x29,x30,x31,x32,⟨x33,x34⟩⟩⟩ : aN)
 | _=>none
def bz.k:List SD→Option bz
 | c0::c1::c2::c3::c4 :: []=>Option.bind (c0.as (.int .i64)) fun x0=>Option.bind (c1.as (.sl (.st 6))) fun x1=>Option.bind (c2.as (.sl (.int .i64))) fun x2=>Option.bind (c3.as (.sl (.int .i64))) fun x3=>Option.bind (c4.as (.int .i64)) fun x4=>some (⟨x0,x1,x2,x3,x4⟩ : bz)
 | _=>none
def bA.k:List SD→Option bA
 | c0::c1::c2 :: []=>Option.bind (c0.as (.int .i64)) fun x0=>Option.bind (c1.as (.int .i64)) fun x1=>Option.bind (c2.as (.int .i64)) fun x2=>some (⟨x0,x1,x2⟩ : bA)
 | _=>none
def aa.k:List SD→Option aa
 | c0::c1::c2::c3::c4::c5::c6::c7::c8::c9 :: []=>Option.bind (c0.as (.sl (.str))) fun x0=>Option.bind (c1.as (.sl (.st 4))) fun x1=>Option.bind (c2.as (.sl (.st 7))) fun x2=>Option.bind (c3.as (.sl (.st 2))) fun x3=>Option.bind (c4.as (.sl (.st 6))) fun x4=>Option.bind (c5.as (.sl (.st 11))) fun x5=>Option.bind (c6.as (.sl (.st 8))) fun x6=>Option.bind (c7.as (.int .i64)) fun x7=>Option.bind (c8.as (.int .i64)) fun x8=>Option.bind (c9.as (.int .i64)) fun x9=>some (⟨⟨x0,x1⟩,x2,x3,x4,x5,x6,x7,x8,x9⟩ : aa)
 | _=>none
def aY.k:List SD→Option aY
 | c0::c1::c2::c3::c4 :: []=>Option.bind (c0.as (.int .i64)) fun x0=>Option.bind (c1.as (.int .i64)) fun x1=>Option.bind (c2.as (.int .i64)) fun x2=>Option.bind (c3.as (.int .i64)) fun x3=>Option.bind (c4.as (.int .i64)) fun x4=>some (⟨x0,x1,x2,x3,x4⟩ : aY)
 | _=>none
def aK.k:List SD→Option aK
 | c0::c1::c2 :: []=>Option.bind (c0.as (.int .i64)) fun x0=>Option.bind (c1.as (.sl (.int .i64))) fun x1=>Option.bind (c2.as (.sl (.st 15))) fun x2=>some (⟨x0,x1,x2⟩ : aK)
 | _=>none
def bh.k:List SD→Option bh
 | c0::c1 :: []=>Option.bind (c0.as (.int .i64)) fun x0=>Option.bind (c1.as (.int .i64)) fun x1=>some (⟨x0,x1⟩ : bh)
 | _=>none
def ak.k:List SD→Option ak
 | c0::c1 :: []=>Option.bind (c0.as (.str)) fun x0=>Option.bind (c1.as (.int .i64)) fun x1=>some (⟨x0,x1⟩ : ak)
 | _=>none
def stK:(i:Nat)→List SD→Option (ST i)
 | 0,cs=>au.k cs
 | 1,cs=>aV.k cs
 | 2,cs=>aC.k cs
 | 3,cs=>eE.k cs
 | 4,cs=>aE.k cs
 | 5,cs=>ay.k cs
 | 6,cs=>an.k cs
 | 7,cs=>aW.k cs
 | 8,cs=>ai.k cs
 | 9,cs=>aN.k cs
 | 10,cs=>bz.k cs
 | 11,cs=>bA.k cs
 | 12,cs=>aa.k cs
 | 15,cs=>aY.k cs
 | 16,cs=>aK.k cs
 | 17,cs=>bh.k cs
 | 18,cs=>ak.k cs
 | 13,_=>none
 | 14,_=>none
 | _ + 19,_=>none
theorem SD.as_ok {t:Ty} {c:SD} {x:t.den} (h:c.as t=some x) : bH t x = [c.toD]:=by
 unfold SD.as at h
 split at h
 ·split at h
  ·rename_i hk
   subst hk
   injection h with h
   subst h
   rfl
  ·cases h
 ·injection h with h
  subst h
  rfl
 ·injection h with h
  subst h
  rfl
 ·split at h
  ·rename_i hk _
   subst hk
   injection h with h
   subst h
   rfl
  ·cases h
 ·injection h with h
  subst h
  rfl
 ·cases h
theorem ut:∀ (i:Nat) (x:ST i),(stC i x).map SD.toD=stD i x
 | 0,(x:au)=>rfl
 | 1,(x:aV)=>rfl
 | 2,(x:aC)=>rfl
 | 3,(x:eE)=>rfl
 | 4,(x:aE)=>rfl
 | 5,(x:ay)=>rfl
 | 6,(x:an)=>rfl
 | 7,(x:aW)=>rfl
 | 8,(x:ai)=>rfl
 | 9,(x:aN)=>rfl
 | 10,(x:bz)=>rfl
 | 11,(x:bA)=>rfl
 | 12,(x:aa)=>rfl
 | 15,(x:aY)=>rfl
 | 16,(x:aK)=>rfl
 | 17,(x:bh)=>rfl
 | 18,(x:ak)=>rfl
 | 13,_=>rfl
 | 14,_=>rfl
 | _ + 19,_=>rfl
theorem xk:∀ (i:Nat) (x:ST i) (c:SD),c∈stC i x→c≠.nl
 | 0,(x:au),c,h=>by
  simp only [stC,List.mem_cons,List.not_mem_nil,or_false] at h
  rcases h with rfl | rfl <;> (intro e; cases e)
 | 1,(x:aV),c,h=>by
  simp only [stC,List.mem_cons,List.not_mem_nil,or_false] at h
  rcases h with rfl | rfl | rfl | rfl | rfl | rfl | rfl | rfl <;> (intro e; cases e)
 | 2,(x:aC),c,h=>by
  simp only [stC,List.mem_cons,List.not_mem_nil,or_false] at h
  rcases h with rfl | rfl | rfl | rfl | rfl | rfl | rfl | rfl | rfl | rfl | rfl | rfl | rfl | rfl <;> (intro e; cases e)
 | 3,(x:eE),c,h=>by
  simp only [stC,List.mem_cons,List.not_mem_nil,or_false] at h
  rcases h with rfl | rfl <;> (intro e; cases e)
 | 4,(x:aE),c,h=>by
  simp only [stC,List.mem_cons,List.not_mem_nil,or_false] at h
  rcases h with rfl | rfl | rfl <;> (intro e; cases e)
 | 5,(x:ay),c,h=>by
  simp only [stC,List.mem_cons,List.not_mem_nil,or_false] at h
  rcases h with rfl | rfl <;> (intro e; cases e)
 | 6,(x:an),c,h=>by
  simp only [stC,List.mem_cons,List.not_mem_nil,or_false] at h
  rcases h with rfl | rfl | rfl | rfl | rfl | rfl | rfl | rfl | rfl <;> (intro e; cases e)
 | 7,(x:aW),c,h=>by
  simp only [stC,List.mem_cons,List.not_mem_nil,or_false] at h
  rcases h with rfl | rfl | rfl | rfl | rfl | rfl | rfl | rfl <;> (intro e; cases e)
 | 8,(x:ai),c,h=>by
  simp only [stC,List.mem_cons,List.not_mem_nil,or_false] at h
  rcases h with rfl | rfl | rfl | rfl | rfl | rfl <;> (intro e; cases e)
 | 9,(x:aN),c,h=>by
  simp only [stC,List.mem_cons,List.not_mem_nil,or_false] at h
  rcases h with rfl | rfl | rfl | rfl | rfl | rfl | rfl | rfl | rfl | rfl | rfl | rfl | rfl | rfl | rfl | rfl | rfl | rfl | rfl | rfl | rfl | rfl | rfl | rfl | rfl | rfl | rfl | rfl | rfl | rfl | rfl | rfl | rfl | rfl | rfl <;> (intro e; cases e)
 | 10,(x:bz),c,h=>by
  simp only [stC,List.mem_cons,List.not_mem_nil,or_false] at h
  rcases h with rfl | rfl | rfl | rfl | rfl <;> (intro e; cases e)
 | 11,(x:bA),c,h=>by
  simp only [stC,List.mem_cons,List.not_mem_nil,or_false] at h
  rcases h with rfl | rfl | rfl <;> (intro e; cases e)
 | 12,(x:aa),c,h=>by
  simp only [stC,List.mem_cons,List.not_mem_nil,or_false] at h
  rcases h with rfl | rfl | rfl | rfl | rfl | rfl | rfl | rfl | rfl | rfl <;> (intro e; cases e)
 | 15,(x:aY),c,h=>by
  simp only [stC,List.mem_cons,List.not_mem_nil,or_false] at h
  rcases h with rfl | rfl | rfl | rfl | rfl <;> (intro e; cases e)
 | 16,(x:aK),c,h=>by
  simp only [stC,List.mem_cons,List.not_mem_nil,or_false] at h
  rcases h with rfl | rfl | rfl <;> (intro e; cases e)
 | 17,(x:bh),c,h=>by
  simp only [stC,List.mem_cons,List.not_mem_nil,or_false] at h
  rcases h with rfl | rfl <;> (intro e; cases e)
 | 18,(x:ak),c,h=>by
  simp only [stC,List.mem_cons,List.not_mem_nil,or_false] at h
  rcases h with rfl | rfl <;> (intro e; cases e)
 | 13,_,c,h=>by cases h
 | 14,_,c,h=>by cases h
 | _ + 19,_,c,h=>by cases h
theorem YJ:∀ (i:Nat) (x:ST i),(stD i x).length=stN i
 | 0,(x:au)=>rfl
 | 1,(x:aV)=>rfl
 | 2,(x:aC)=>rfl
 | 3,(x:eE)=>rfl
 | 4,(x:aE)=>rfl
 | 5,(x:ay)=>rfl
 | 6,(x:an)=>rfl
 | 7,(x:aW)=>rfl
 | 8,(x:ai)=>rfl
 | 9,(x:aN)=>rfl
 | 10,(x:bz)=>rfl
 | 11,(x:bA)=>rfl
 | 12,(x:aa)=>rfl
 | 15,(x:aY)=>rfl
 | 16,(x:aK)=>rfl
 | 17,(x:bh)=>rfl
 | 18,(x:ak)=>rfl
 | 13,_=>rfl
 | 14,_=>rfl
 | _ + 19,_=>rfl
theorem aag:∀ (i:Nat) (x:ST i),stF i=true→∀ d∈stD i x,∃ y,d = .v y
 | 0,(x:au),_,d,h=>by
  simp only [stD,au.d,List.mem_cons,List.not_mem_nil,or_false] at h
  rcases h with rfl | rfl <;> exact ⟨_,rfl⟩
 | 1,(x:aV),_,d,h=>by
  simp only [stD,aV.d,List.mem_cons,List.not_mem_nil,or_false] at h
  rcases h with rfl | rfl | rfl | rfl | rfl | rfl | rfl | rfl <;> exact ⟨_,rfl⟩
 | 2,(x:aC),h,_,_=>by cases h
 | 3,(x:eE),_,d,h=>by
  simp only [stD,eE.d,List.mem_cons,List.not_mem_nil,or_false] at h
  rcases h with rfl | rfl <;> exact ⟨_,rfl⟩
 | 4,(x:aE),h,_,_=>by cases h
 | 5,(x:ay),h,_,_=>by cases h
 | 6,(x:an),_,d,h=>by
  simp only [stD,an.d,List.mem_cons,List.not_mem_nil,or_false] at h
  rcases h with rfl | rfl | rfl | rfl | rfl | rfl | rfl | rfl | rfl <;> exact ⟨_,rfl⟩
 | 7,(x:aW),_,d,h=>by
  simp only [stD,aW.d,List.mem_cons,List.not_mem_nil,or_false] at h
  rcases h with rfl | rfl | rfl | rfl | rfl | rfl | rfl | rfl <;> exact ⟨_,rfl⟩
 | 8,(x:ai),_,d,h=>by
  simp only [stD,ai.d,List.mem_cons,List.not_mem_nil,or_false] at h
  rcases h with rfl | rfl | rfl | rfl | rfl | rfl <;> exact ⟨_,rfl⟩
 | 9,(x:aN),h,_,_=>by cases h
 | 10,(x:bz),h,_,_=>by cases h
 | 11,(x:bA),_,d,h=>by
  simp only [stD,bA.d,List.mem_cons,List.not_mem_nil,or_false] at h
  rcases h with rfl | rfl | rfl <;> exact ⟨_,rfl⟩
 | 12,(x:aa),h,_,_=>by cases h
 | 15,(x:aY),_,d,h=>by
  simp only [stD,aY.d,List.mem_cons,List.not_mem_nil,or_false] at h
  rcases h with rfl | rfl | rfl | rfl | rfl <;> exact ⟨_,rfl⟩
 | 16,(x:aK),h,_,_=>by cases h
 | 17,(x:bh),_,d,h=>by
  simp only [stD,bh.d,List.mem_cons,List.not_mem_nil,or_false] at h
  rcases h with rfl | rfl <;> exact ⟨_,rfl⟩
 | 18,(x:ak),_,d,h=>by
  simp only [stD,ak.d,List.mem_cons,List.not_mem_nil,or_false] at h
  rcases h with rfl | rfl <;> exact ⟨_,rfl⟩
 | 13,_,_,_,h=>by cases h
 | 14,_,_,_,h=>by cases h
 | _ + 19,_,_,_,h=>by cases h
theorem bindS {α β : Type} {o:Option α} {k : α→Option β} {r : β} (h:o.bind k=some r) : ∃ x,o=some x∧k x=some r:=by
 cases o with
 | none=>cases h
 | some x=>exact ⟨x,rfl,h⟩
theorem bindA {t:Ty} {c:SD} {β : Type} {k:t.den→Option β} {r : β} (h:(c.as t).bind k=some r) : ∃ x,bH t x = [c.toD]∧k x=some r:=by
 obtain ⟨x,h1,h2⟩:=bindS h
 exact ⟨x,SD.as_ok h1,h2⟩
theorem au.k_ok {cs:List SD} {x:au} (h:au.k cs=some x) : cs.map SD.toD=au.d x:=by
 unfold au.k at h
 split at h
 ·rename_i c0 c1
  obtain ⟨x0,q0,h⟩:=bindA h
  obtain ⟨x1,q1,h⟩:=bindA h
  injection h with h
  subst h
  simp only [bH,List.cons.injEq,and_true] at q0 q1
  simp only [List.map_cons,List.map_nil,au.d,← q0,← q1]
  try rfl
 ·cases h
theorem aV.k_ok {cs:List SD} {x:aV} (h:aV.k cs=some x) : cs.map SD.toD=aV.d x:=by
 unfold aV.k at h
 split at h
 ·rename_i c0 c1 c2 c3 c4 c5 c6 c7
  obtain ⟨x0,q0,h⟩:=bindA h
  obtain ⟨x1,q1,h⟩:=bindA h
  obtain ⟨x2,q2,h⟩:=bindA h
  obtain ⟨x3,q3,h⟩:=bindA h
  obtain ⟨x4,q4,h⟩:=bindA h
  obtain ⟨x5,q5,h⟩:=bindA h
  obtain ⟨x6,q6,h⟩:=bindA h
  obtain ⟨x7,q7,h⟩:=bindA h
  injection h with h
  subst h
  simp only [bH,List.cons.injEq,and_true] at q0 q1 q2 q3 q4 q5 q6 q7
  simp only [List.map_cons,List.map_nil,aV.d,← q0,← q1,← q2,← q3,← q4,← q5,← q6,← q7]
  try rfl
 ·cases h
theorem aC.k_ok {cs:List SD} {x:aC} (h:aC.k cs=some x) : cs.map SD.toD=aC.d x:=by
 unfold aC.k at h
 split at h
 ·rename_i c0 c1 c2 c3 c4 c5 c6 c7 c8 c9 c10 c11 c12 c13
  obtain ⟨x0,q0,h⟩:=bindA h
  obtain ⟨x1,q1,h⟩:=bindA h
  obtain ⟨x2,q2,h⟩:=bindA h
  obtain ⟨x3,q3,h⟩:=bindA h
  obtain ⟨x4,q4,h⟩:=bindA h
  obtain ⟨x5,q5,h⟩:=bindA h
  obtain ⟨x6,q6,h⟩:=bindA h
  obtain ⟨x7,q7,h⟩:=bindA h
  obtain ⟨x8,q8,h⟩:=bindA h
  obtain ⟨x9,q9,h⟩:=bindA h
  obtain ⟨x10,q10,h⟩:=bindA h
  obtain ⟨x11,q11,h⟩:=bindA h
  obtain ⟨x12,q12,h⟩:=bindA h
  obtain ⟨x13,q13,h⟩:=bindA h
  injection h with h
  subst h
  simp only [bH,List.cons.injEq,and_true] at q0 q1 q2 q3 q4 q5 q6 q7 q8 q9 q10 q11 q12 q13
  simp only [List.map_cons,List.map_nil,aC.d,← q0,← q1,← q2,← q3,← q4,← q5,← q6,← q7,← q8,← q9,← q10,← q11,← q12,← q13]
  try rfl
 ·cases h
theorem eE.k_ok {cs:List SD} {x:eE} (h:eE.k cs=some x) : cs.map SD.toD=eE.d x:=by
 unfold eE.k at h
 split at h
 ·rename_i c0 c1
  obtain ⟨x0,q0,h⟩:=bindA h
  obtain ⟨x1,q1,h⟩:=bindA h
  injection h with h
  subst h
  simp only [bH,List.cons.injEq,and_true] at q0 q1
  simp only [List.map_cons,List.map_nil,eE.d,← q0,← q1]
  try rfl
 ·cases h
theorem aE.k_ok {cs:List SD} {x:aE} (h:aE.k cs=some x) : cs.map SD.toD=aE.d x:=by
 unfold aE.k at h
 split at h
 ·rename_i c0 c1 c2
  obtain ⟨x0,q0,h⟩:=bindA h
  obtain ⟨x1,q1,h⟩:=bindA h
  obtain ⟨x2,q2,h⟩:=bindA h
  injection h with h
  subst h
  simp only [bH,List.cons.injEq,and_true] at q0 q1 q2
  simp only [List.map_cons,List.map_nil,aE.d,← q0,← q1,← q2]
  try rfl
 ·cases h
theorem ay.k_ok {cs:List SD} {x:ay} (h:ay.k cs=some x) : cs.map SD.toD=ay.d x:=by
 unfold ay.k at h
 split at h
 ·rename_i c0 c1
  obtain ⟨x0,q0,h⟩:=bindA h
  obtain ⟨x1,q1,h⟩:=bindA h
  injection h with h
  subst h
  simp only [bH,List.cons.injEq,and_true] at q0 q1
  simp only [List.map_cons,List.map_nil,ay.d,← q0,← q1]
  try rfl
 ·cases h
theorem an.k_ok {cs:List SD} {x:an} (h:an.k cs=some x) : cs.map SD.toD=an.d x:=by
 unfold an.k at h
 split at h
 ·rename_i c0 c1 c2 c3 c4 c5 c6 c7 c8
  obtain ⟨x0,q0,h⟩:=bindA h
  obtain ⟨x1,q1,h⟩:=bindA h
  obtain ⟨x2,q2,h⟩:=bindA h
  obtain ⟨x3,q3,h⟩:=bindA h
  obtain ⟨x4,q4,h⟩:=bindA h
  obtain ⟨x5,q5,h⟩:=bindA h
  obtain ⟨x6,q6,h⟩:=bindA h
  obtain ⟨x7,q7,h⟩:=bindA h
  obtain ⟨x8,q8,h⟩:=bindA h
  injection h with h
  subst h
  simp only [bH,List.cons.injEq,and_true] at q0 q1 q2 q3 q4 q5 q6 q7 q8
  simp only [List.map_cons,List.map_nil,an.d,← q0,← q1,← q2,← q3,← q4,← q5,← q6,← q7,← q8]
  try rfl
 ·cases h
theorem aW.k_ok {cs:List SD} {x:aW} (h:aW.k cs=some x) : cs.map SD.toD=aW.d x:=by
 unfold aW.k at h
 split at h
 ·rename_i c0 c1 c2 c3 c4 c5 c6 c7
  obtain ⟨x0,q0,h⟩:=bindA h
  obtain ⟨x1,q1,h⟩:=bindA h
  obtain ⟨x2,q2,h⟩:=bindA h
  obtain ⟨x3,q3,h⟩:=bindA h
  obtain ⟨x4,q4,h⟩:=bindA h
  obtain ⟨x5,q5,h⟩:=bindA h
  obtain ⟨x6,q6,h⟩:=bindA h
  obtain ⟨x7,q7,h⟩:=bindA h
  injection h with h
  subst h
  simp only [bH,List.cons.injEq,and_true] at q0 q1 q2 q3 q4 q5 q6 q7
  simp only [List.map_cons,List.map_nil,aW.d,← q0,← q1,← q2,← q3,← q4,← q5,← q6,← q7]
  try rfl
 ·cases h
theorem ai.k_ok {cs:List SD} {x:ai} (h:ai.k cs=some x) : cs.map SD.toD=ai.d x:=by
 unfold ai.k at h
 split at h
 ·rename_i c0 c1 c2 c3 c4 c5
  obtain ⟨x0,q0,h⟩:=bindA h
  obtain ⟨x1,q1,h⟩:=bindA h
  obtain ⟨x2,q2,h⟩:=bindA h
  obtain ⟨x3,q3,h⟩:=bindA h
  obtain ⟨x4,q4,h⟩:=bindA h
  obtain ⟨x5,q5,h⟩:=bindA h
  injection h with h
  subst h
  simp only [bH,List.cons.injEq,and_true] at q0 q1 q2 q3 q4 q5
  simp only [List.map_cons,List.map_nil,ai.d,← q0,← q1,← q2,← q3,← q4,← q5]
  try rfl
 ·cases h
theorem aN.k_ok {cs:List SD} {x:aN} (h:aN.k cs=some x) : cs.map SD.toD=aN.d x:=by
 unfold aN.k at h
 split at h
 ·rename_i c0 c1 c2 c3 c4 c5 c6 c7 c8 c9 c10 c11 c12 c13 c14 c15 c16 c17 c18 c19 c20 c21 c22 c23 c24 c25 c26 c27 c28 c29 c30 c31 c32 c33 c34
  obtain ⟨x0,q0,h⟩:=bindA h
  obtain ⟨x1,q1,h⟩:=bindA h
  obtain ⟨x2,q2,h⟩:=bindA h
  obtain ⟨x3,q3,h⟩:=bindA h
  obtain ⟨x4,q4,h⟩:=bindA h
  obtain ⟨x5,q5,h⟩:=bindA h
  obtain ⟨x6,q6,h⟩:=bindA h
  obtain ⟨x7,q7,h⟩:=bindA h
  obtain ⟨x8,q8,h⟩:=bindA h
  obtain ⟨x9,q9,h⟩:=bindA h
  obtain ⟨x10,q10,h⟩:=bindA h
  obtain ⟨x11,q11,h⟩:=bindA h
  obtain ⟨x12,q12,h⟩:=bindA h
  obtain ⟨x13,q13,h⟩:=bindA h
  obtain ⟨x14,q14,h⟩:=bindA h
  obtain ⟨x15,q15,h⟩:=bindA h
  obtain ⟨x16,q16,h⟩:=bindA h
  obtain ⟨x17,q17,h⟩:=bindA h
  obtain ⟨x18,q18,h⟩:=bindA h
  obtain ⟨x19,q19,h⟩:=bindA h
  obtain ⟨x20,q20,h⟩:=bindA h
  obtain ⟨x21,q21,h⟩:=bindA h
  obtain ⟨x22,q22,h⟩:=bindA h
  obtain ⟨x23,q23,h⟩:=bindA h
  obtain ⟨x24,q24,h⟩:=bindA h
  obtain ⟨x25,q25,h⟩:=bindA h
  obtain ⟨x26,q26,h⟩:=bindA h
  obtain ⟨x27,q27,h⟩:=bindA h
  obtain ⟨x28,q28,h⟩:=bindA h
  obtain ⟨x29,q29,h⟩:=bindA h
  obtain ⟨x30,q30,h⟩:=bindA h
  obtain ⟨x31,q31,h⟩:=bindA h
  obtain ⟨x32,q32,h⟩:=bindA h
  obtain ⟨x33,q33,h⟩:=bindA h
  obtain ⟨x34,q34,h⟩:=bindA h
  injection h with h
  subst h
  simp only [bH,List.cons.injEq,and_true] at q0 q1 q2 q3 q4 q5 q6 q7 q8 q9 q10 q11 q12 q13 q14 q15 q16 q17 q18 q19 q20 q21 q22 q23 q24 q25 q26 q27 q28 q29 q30 q31 q32 q33 q34
  simp only [List.map_cons,List.map_nil,aN.d,← q0,← q1,← q2,← q3,← q4,← q5,← q6,← q7,← q8,← q9,← q10,← q11,← q12,← q13,← q14,← q15,← q16,← q17,← q18,← q19,← q20,← q21,← q22,← q23,← q24,← q25,← q26,← q27,← q28,← q29,← q30,← q31,← q32,← q33,← q34]
  try rfl
 ·cases h
theorem bz.k_ok {cs:List SD} {x:bz} (h:bz.k cs=some x) : cs.map SD.toD=bz.d x:=by
 unfold bz.k at h
 split at h
 ·rename_i c0 c1 c2 c3 c4
  obtain ⟨x0,q0,h⟩:=bindA h
  obtain ⟨x1,q1,h⟩:=bindA h
  obtain ⟨x2,q2,h⟩:=bindA h
  obtain ⟨x3,q3,h⟩:=bindA h
  obtain ⟨x4,q4,h⟩:=bindA h
  injection h with h
  subst h
  simp only [bH,List.cons.injEq,and_true] at q0 q1 q2 q3 q4
  simp only [List.map_cons,List.map_nil,bz.d,← q0,← q1,← q2,← q3,← q4]
  try rfl
 ·cases h
theorem bA.k_ok {cs:List SD} {x:bA} (h:bA.k cs=some x) : cs.map SD.toD=bA.d x:=by
 unfold bA.k at h
 split at h
 ·rename_i c0 c1 c2
  obtain ⟨x0,q0,h⟩:=bindA h
  obtain ⟨x1,q1,h⟩:=bindA h
  obtain ⟨x2,q2,h⟩:=bindA h
  injection h with h
  subst h
  simp only [bH,List.cons.injEq,and_true] at q0 q1 q2
  simp only [List.map_cons,List.map_nil,bA.d,← q0,← q1,← q2]
  try rfl
 ·cases h
theorem aa.k_ok {cs:List SD} {x:aa} (h:aa.k cs=some x) : cs.map SD.toD=aa.d x:=by
 unfold aa.k at h
 split at h
 ·rename_i c0 c1 c2 c3 c4 c5 c6 c7 c8 c9
  obtain ⟨x0,q0,h⟩:=bindA h
  obtain ⟨x1,q1,h⟩:=bindA h
  obtain ⟨x2,q2,h⟩:=bindA h
  obtain ⟨x3,q3,h⟩:=bindA h
  obtain ⟨x4,q4,h⟩:=bindA h
  obtain ⟨x5,q5,h⟩:=bindA h
  obtain ⟨x6,q6,h⟩:=bindA h
  obtain ⟨x7,q7,h⟩:=bindA h
  obtain ⟨x8,q8,h⟩:=bindA h
  obtain ⟨x9,q9,h⟩:=bindA h
  injection h with h
  subst h
  simp only [bH,List.cons.injEq,and_true] at q0 q1 q2 q3 q4 q5 q6 q7 q8 q9
  simp only [List.map_cons,List.map_nil,aa.d,← q0,← q1,← q2,← q3,← q4,← q5,← q6,← q7,← q8,← q9]
  try rfl
 ·cases h
theorem aY.k_ok {cs:List SD} {x:aY} (h:aY.k cs=some x) : cs.map SD.toD=aY.d x:=by
 unfold aY.k at h
 split at h
 ·rename_i c0 c1 c2 c3 c4
  obtain ⟨x0,q0,h⟩:=bindA h
  obtain ⟨x1,q1,h⟩:=bindA h
  obtain ⟨x2,q2,h⟩:=bindA h
  obtain ⟨x3,q3,h⟩:=bindA h
  obtain ⟨x4,q4,h⟩:=bindA h
  injection h with h
  subst h
  simp only [bH,List.cons.injEq,and_true] at q0 q1 q2 q3 q4
  simp only [List.map_cons,List.map_nil,aY.d,← q0,← q1,← q2,← q3,← q4]
  try rfl
 ·cases h
theorem aK.k_ok {cs:List SD} {x:aK} (h:aK.k cs=some x) : cs.map SD.toD=aK.d x:=by
 unfold aK.k at h
 split at h
 ·rename_i c0 c1 c2
  obtain ⟨x0,q0,h⟩:=bindA h
  obtain ⟨x1,q1,h⟩:=bindA h
  obtain ⟨x2,q2,h⟩:=bindA h
  injection h with h
  subst h
  simp only [bH,List.cons.injEq,and_true] at q0 q1 q2
  simp only [List.map_cons,List.map_nil,aK.d,← q0,← q1,← q2]
  try rfl
 ·cases h
theorem bh.k_ok {cs:List SD} {x:bh} (h:bh.k cs=some x) : cs.map SD.toD=bh.d x:=by
 unfold bh.k at h
 split at h
 ·rename_i c0 c1
  obtain ⟨x0,q0,h⟩:=bindA h
  obtain ⟨x1,q1,h⟩:=bindA h
  injection h with h
  subst h
  simp only [bH,List.cons.injEq,and_true] at q0 q1
  simp only [List.map_cons,List.map_nil,bh.d,← q0,← q1]
  try rfl
 ·cases h
theorem ak.k_ok {cs:List SD} {x:ak} (h:ak.k cs=some x) : cs.map SD.toD=ak.d x:=by
 unfold ak.k at h
 split at h
 ·rename_i c0 c1
  obtain ⟨x0,q0,h⟩:=bindA h
  obtain ⟨x1,q1,h⟩:=bindA h
  injection h with h
  subst h
  simp only [bH,List.cons.injEq,and_true] at q0 q1
  simp only [List.map_cons,List.map_nil,ak.d,← q0,← q1]
  try rfl
 ·cases h
theorem AI:∀ {i:Nat} {cs:List SD} {x:ST i},stK i cs=some x→cs.map SD.toD=stD i x
 | 0,_,(_:au),h=>au.k_ok h
 | 1,_,(_:aV),h=>aV.k_ok h
 | 2,_,(_:aC),h=>aC.k_ok h
 | 3,_,(_:eE),h=>eE.k_ok h
 | 4,_,(_:aE),h=>aE.k_ok h
 | 5,_,(_:ay),h=>ay.k_ok h
 | 6,_,(_:an),h=>an.k_ok h
 | 7,_,(_:aW),h=>aW.k_ok h
 | 8,_,(_:ai),h=>ai.k_ok h
 | 9,_,(_:aN),h=>aN.k_ok h
 | 10,_,(_:bz),h=>bz.k_ok h
 | 11,_,(_:bA),h=>bA.k_ok h
 | 12,_,(_:aa),h=>aa.k_ok h
 | 15,_,(_:aY),h=>aY.k_ok h
 | 16,_,(_:aK),h=>aK.k_ok h
 | 17,_,(_:bh),h=>bh.k_ok h
 | 18,_,(_:ak),h=>ak.k_ok h
 | 13,_,x,h=>by
  have h2:none=some x:=h
  cases h2
 | 14,_,x,h=>by
  have h2:none=some x:=h
  cases h2
 | _ + 19,_,x,h=>by
  have h2:none=some x:=h
  cases h2
section
inductive SV where
 | junk
 | d (x:SD)
 | ag (cs:List SV)
 | tup (cs:List SV)
 | ptr (t off:Nat)
 | row (t:Nat)
 | re (t p off:Nat)
 | vw (t lo hi:Nat)
 | fe (cs:List SD)
 | fn (f:FuncId) (ps qs:List SV)
structure Pin where
 i:Int
 cs:Option (List SD)
inductive bc where
 | st (ty:TypeId) (cs:List SV)
 | rw (e k:Nat) (t:Ty) (xs:List t.den) (pins:List (Nat×Pin))
def lkV:List (Nat×SV)→Nat→SV
 | [],_=>.junk
 | (j,v)::l,i=>match Nat.beq i j with | true=>v | false=>lkV l i
def lkB:List (Nat×Option bc)→Nat→Option bc
 | [],_=>none
 | (j,v)::l,i=>match Nat.beq i j with | true=>v | false=>lkB l i
def lkP:List (Nat×Pin)→Nat→Option Pin
 | [],_=>none
 | (j,v)::l,i=>match Nat.beq i j with | true=>some v | false=>lkP l i
def aF:List Nat→Nat→Bool
 | [],_=>false
 | j::l,i=>match Nat.beq i j with | true=>true | false=>aF l i
structure SS where
 sl:List (Nat×SV)
 bx:List (Nat×Option bc)
 pr:List Nat
 ro:Bool
 oc:List Nat
def wrB (s:SS) (t:Nat) : Bool:=match s.ro with | true=>false | false=>!(aF s.pr t)
def JW (s:SS) (t:Nat) : Bool:=match aF s.oc t with | true=>false | false=>!(aF s.pr t)
def Bl:(t:Ty)→t.den→List SD
 | .int k,x=>[.int k x]
 | .bool,x=>[.bool x]
 | .str,x=>[.str x]
 | .sl t,xs=>[.sl t xs]
 | .st i,x=>stC i x
def Zu:(t:Ty)→List SD→Option t.den
 | .st i,cs=>stK i cs
 | .int k,[c]=>c.as (.int k)
 | .bool,[c]=>c.as .bool
 | .str,[c]=>c.as .str
 | .sl t,[c]=>c.as (.sl t)
 | _,_=>none
def tyN:Ty→Nat
 | .st i=>stN i
 | _=>1
def I2:Value→Option SD
 | .int k n=>some (.int k n)
 | .bool t=>some (.bool t)
 | .string s=>some (.str s)
 | .slice none 0 0=>some .nl
 | _=>none
def FO:List Value→Option (List SV)
 | []=>some []
 | v::l=>match I2 v,FO l with | some c,some cs=>some (.d c::cs) | _,_=>none
def Ko:Value→SV
 | .agg xs=>match FO xs.toList with | some cs=>.ag cs | none=>.junk
 | v=>match I2 v with | some c=>.d c | none=>.junk
def evX (s:SS) : Operand→SV
 | .tmp i=>lkV s.sl i
 | .const v=>Ko v
 | .func f=>.fn f [] []
 | _=>.junk
def YN (s:SS) (t:Nat) : Option SD:=match lkB s.bx t with
 | some (.rw _ _ ty xs _)=>some (.sl ty xs)
 | _=>none
def sA (s:SS) : SV→Option SD
 | .d x=>some x
 | .row t=>YN s t
 | _=>none
def Kl (s:SS) : List SV→Option (List SD)
 | []=>some []
 | v::l=>match sA s v,Kl s l with | some c,some cs=>some (c::cs) | _,_=>none
def Kx:SV→Option (List SV)
 | .ag cs=>some cs
 | .junk=>none
 | .tup _=>none
 | v=>some [v]
mutual
def stale (t:Nat) : SV→SV
 | .row t'=>match Nat.beq t' t with | true=>.junk | false=>.row t'
 | .re t' p o=>match Nat.beq t' t with | true=>.junk | false=>.re t' p o
 | .vw t' p o=>match Nat.beq t' t with | true=>.junk | false=>.vw t' p o
 | .ag cs=>.ag (iY t cs)
 | .tup cs=>.tup (iY t cs)
 | .fn f ps qs=>.fn f (iY t ps) (iY t qs)
 | v=>v
def iY (t:Nat) : List SV→List SV
 | []=>[]
 | c::cs=>stale t c::iY t cs
end
def D2 (t:Nat) : List (Nat×SV)→List (Nat×SV)
 | []=>[]
 | (i,v)::l=>(i,stale t v)::D2 t l
def oz (t:Nat) : List (Nat×Option bc)→List (Nat×Option bc)
 | []=>[]
 | (i,some (.st ty cs))::l=>(i,some (.st ty (iY t cs)))::oz t l
 | (i,b)::l=>(i,b)::oz t l
inductive Upd where
 | no
 | new (t:Nat) (b:bc)
 | set (t:Nat) (b:bc)
 | pin (t:Nat) (b:bc)
 | grow (t:Nat) (b:bc)
def V4:Upd→List Nat
 | .no=>[]
 | .new t _=>[t]
 | .set t _=>[t]
 | .pin _ _=>[]
 | .grow t _=>[t]
def sY (sl:List (Nat×SV)) (dst:Option Nat) (v:SV) : List (Nat×SV):=match dst with | some d=>(d,v)::sl | none=>sl
def SS.upd (s:SS) (dst:Option Nat) (v:SV) : Upd→SS
 | .no=>⟨sY s.sl dst v,s.bx,s.pr,s.ro,s.oc⟩
 | .new t b=>⟨sY s.sl dst v,(t,some b)::s.bx,s.pr,s.ro,s.oc⟩
 | .set t b=>⟨sY s.sl dst v,(t,some b)::s.bx,s.pr,s.ro,s.oc⟩
 | .pin t b=>⟨sY s.sl dst v,(t,some b)::s.bx,s.pr,s.ro,s.oc⟩
 | .grow t b=>⟨sY (D2 t s.sl) dst v,(t,some b)::oz t s.bx,s.pr,s.ro,s.oc⟩
def nB {α : Type} : List α→Nat→List α→List α
 | cs,0,[]=>cs
 | _ :: cs,0,n::ns=>n::nB cs 0 ns
 | [],_,_=>[]
 | c::cs,o + 1,ns=>c::nB cs o ns
def Sn (size:Nat) (agg:Bool) (cl:List SV) : Option SV :=
 if agg then (if size≤cl.length then some (.ag (cl.take size)) else none) else cl.head?
def A6:List SD→List SV
 | []=>[]
 | c::cs=>.d c::A6 cs
variable {ρ : Type}
def chk (b:Bool) (k:Option ρ) : Option ρ:=match b with | true=>k | false=>none
def W5:Operand→Option Int
 | .const (.int _ n)=>some n
 | _=>none
def P8 (op:BinOp) (kd:IntKind) (lit:Option Int) (x y:Int) (k:SV→Option ρ) : Option ρ :=
 match op with
 | .add=>k (.d (.int kd (kd.wrap (x + y))))
 | .sub=>k (.d (.int kd (kd.wrap (x - y))))
 | .mul=>k (.d (.int kd (kd.wrap (x * y))))
 | .quo=>match lit with
  | some n=>chk (!(n==0)) (k (.d (.int kd (kd.wrap (x.tdiv y)))))
  | none=>Option.bind (if y=0 then none else some (kd.wrap (x.tdiv y))) fun q=>k (.d (.int kd q))
 | .rem=>match lit with
  | some n=>chk (!(n==0)) (k (.d (.int kd (x.tmod y))))
  | none=>Option.bind (CU x y) fun q=>k (.d (.int kd q))
 | .eql=>k (.d (.bool (x==y)))
 | .neq=>k (.d (.bool (x != y)))
 | .lss=>k (.d (.bool (decide (x < y))))
 | .leq=>k (.d (.bool (decide (x≤y))))
 | .gtr=>k (.d (.bool (decide (x > y))))
 | .geq=>k (.d (.bool (decide (x≥y))))
 | .and=>k (.d (.int kd (bits .and kd x y)))
 | .or=>k (.d (.int kd (bits .or kd x y)))
 | .xor=>k (.d (.int kd (bits .xor kd x y)))
 | _=>none
def O6 (op:BinOp) (kd:IntKind) (lit:Option Int) (x y:Int) (k:SV→Option ρ) : Option ρ :=
 match lit with
 | some n=>chk (decide (0≤n)) (match op with
  | .shl=>k (.d (.int kd (kd.wrap (x * 2 ^ (min y.toNat kd.bits)))))
  | .shr=>k (.d (.int kd (x.fdiv (2 ^ (min y.toNat kd.bits)))))
  | _=>none)
 | none=>Option.bind (if y < 0 then none else some ()) fun _=>(match op with
  | .shl=>k (.d (.int kd (kd.wrap (x * 2 ^ (min y.toNat kd.bits)))))
  | .shr=>k (.d (.int kd (x.fdiv (2 ^ (min y.toNat kd.bits)))))
  | _=>none)
def OZ (op:BinOp) (x y:ByteArray) (k:SV→Option ρ) : Option ρ :=
 match op with
 | .add=>Option.bind (mA x y) fun z=>k (.d (.str z))
 | .eql=>k (.d (.bool (x.toList==y.toList)))
 | .neq=>k (.d (.bool (!(x.toList==y.toList))))
 | .lss=>k (.d (.bool (Op.bytesLess x.toList y.toList)))
 | .leq=>k (.d (.bool (Op.bytesLess x.toList y.toList||(x.toList==y.toList))))
 | .gtr=>k (.d (.bool (!(Op.bytesLess x.toList y.toList||(x.toList==y.toList)))))
 | .geq=>k (.d (.bool (!(Op.bytesLess x.toList y.toList))))
 | _=>none
def Jw (op:BinOp) (x y:Bool) (k:SV→Option ρ) : Option ρ :=
 match op with
 | .eql=>k (.d (.bool (x==y)))
 | .neq=>k (.d (.bool (!(x==y))))
 | _=>none
def th:SD→SD→Option Bool
 | .int k a,.int k' b=>if k=k' then some (a==b) else none
 | .bool a,.bool b=>some (a==b)
 | .str a,.str b=>some (a.toList==b.toList)
 | _,_=>none
def Ck:List SV→List SV→Option Bool
 | [.d x],[.d y]=>th x y
 | .d x::xs,.d y::ys=>match th x y,Ck xs ys with
  | some a,some r=>some (a&&r)
  | _,_=>none
 | _,_=>none
def Pz:SV→Option Nat
 | .d (.int _ _)=>some 0
 | .d (.bool _)=>some 1
 | .d (.str _)=>some 2
 | _=>none
def Du:List SV→Option (List Nat)
 | []=>some []
 | v::l=>match Pz v,Du l with | some a,some r=>some (a::r) | _,_=>none
def Ka:List Nat→List Nat→Bool
 | [],[]=>true
 | a::l,b::m=>match Nat.beq a b with | true=>Ka l m | false=>false
 | _,_=>false
def aaM (P:Program) (op:BinOp) (t:TypeId) (lit:Option Int) (p q:SV) (k:SV→Option ρ) : Option ρ :=
 match p,q with
 | .d (.int kd x),.d (.int kd' y)=>match J3 op with
  | true=>O6 op kd lit x y k
  | false=>if kd=kd' then P8 op kd lit x y k else none
 | .d (.str x),.d (.str y)=>OZ op x y k
 | .d (.bool x),.d (.bool y)=>match P.underlying t with
  | some .bool=>Jw op x y k
  | _=>none
 | .ag xs,.ag ys=>match aaF P t,Du xs,Ck xs ys with
  | some l,some l',some r=>chk (Ka l l') (match op with
   | .eql=>k (.d (.bool r))
   | .neq=>k (.d (.bool (!r)))
   | _=>none)
  | _,_,_=>none
 | _,_=>none
def unX (op:UnOp) (p:SV) (k:SV→Option ρ) : Option ρ :=
 match op,p with
 | .not,.d (.bool x)=>k (.d (.bool (!x)))
 | .neg,.d (.int kd x)=>k (.d (.int kd (kd.wrap (0 - x))))
 | _,_=>none
def XH (P:Program) (s:SS) (src dst:TypeId) (p:SV) (k:SV→Option ρ) : Option ρ :=
 match P.underlying src with
 | none=>none
 | some (.slice e)=>(match P.underlying dst with
  | some .string=>(match P.underlying e,sA s p with
   | some (.int .u8),some (.sl (.int .u8) xs)=>Option.bind (YM (xs:List Int)) fun z=>k (.d (.str z))
   | _,_=>none)
  | _=>none)
 | some _=>match P.underlying dst,p with
  | some (.int kd),.d (.int _ x)=>k (.d (.int kd (kd.wrap x)))
  | some .string,.d (.str x)=>k (.d (.str x))
  | _,_=>none
def xI (P:Program) (t:TypeId) (p:SV) (f:Nat) (k:SV→Option ρ) : Option ρ :=
 match (Bg P t)[f]? with
 | some (off,size,_)=>chk (!(size==0)) (match p with
  | .ptr t o=>k (.ptr t (o + off))
  | .fe cs=>k (.fe (cs.drop off))
  | .re t p o=>k (.re t p (o + off))
  | _=>none)
 | none=>none
def PQ (P:Program) (t:TypeId) (p:SV) (f:Nat) (k:SV→Option ρ) : Option ρ :=
 match (Bg P t)[f]?,p with
 | some (off,size,agg),.ag cs=>match Sn size agg (cs.drop off) with | some v=>k v | none=>none
 | _,_=>none
def XY (s:SS) : SV→Option (List SV)
 | .ptr t off=>match lkB s.bx t with | some (.st _ cs)=>some (cs.drop off) | _=>none
 | .fe cs=>some (A6 cs)
 | .re t p off=>match lkB s.bx t with
  | some (.rw _ _ _ _ pins)=>match lkP pins p with
   | some ⟨_,some cs⟩=>some (A6 (cs.drop off))
   | _=>none
  | _=>none
 | _=>none
def SB (P:Program) (s:SS) (t:TypeId) (p:SV) : Option SV :=
 match mw P t,XY s p with
 | some i,some cl=>Sn i.size i.agg cl
 | _,_=>none
def xE (P:Program) (s:SS) (dst:Option Nat) (t:TypeId) (p q:SV) (k:SV→Upd→Option ρ) : Option ρ :=
 match P.underlying t,q,dst with
 | some (.slice e),.d (.int _ i),some d=>match mw P e with
  | some ie=>match p with
   | .d (.sl ty xs)=>chk (tyN ty==ie.size) (Option.bind (aw xs i) fun x=>k (.fe (Bl ty x)) .no)
   | .row t'=>match lkB s.bx t' with
    | some (.rw e' kk ty xs pins)=>chk (kk==ie.size) (chk (lkP pins d).isNone (Option.bind (aw xs i) fun x=>k (.re t' d 0) (.pin t' (.rw e' kk ty xs ((d,⟨i,some (Bl ty x)⟩)::pins)))))
    | _=>none
   | _=>none
  | none=>none
 | _,_,_=>none
def aaj:SV→Option SD
 | .d x=>some x
 | _=>none
def tS:List SV→Option (List SD)
 | []=>some []
 | v::l=>match aaj v,tS l with | some c,some cs=>some (c::cs) | _,_=>none
def wJ:List (Nat×Pin)→List (Nat×Pin)
 | []=>[]
 | (i,⟨j,_⟩)::l=>(i,⟨j,none⟩)::wJ l
def O2 (P:Program) (s:SS) (t:TypeId) (p q:SV) (k:SV→Upd→Option ρ) : Option ρ :=
 match mw P t,Kx q with
 | some i,some ns=>match p with
  | .ptr x off=>match lkB s.bx x with
   | some (.st ty cs)=>chk (ns.length==i.size) (chk (decide (off + ns.length≤cs.length)) (chk (wrB s x) (k .junk (.set x (.st ty (nB cs off ns))))))
   | _=>none
  | .re x pi off=>match lkB s.bx x,tS ns with
   | some (.rw e kk ty xs pins),some ds=>match lkP pins pi with
    | some ⟨j,cs⟩=>chk (ns.length==i.size) (chk (decide (off + ds.length≤tyN ty)) (chk (wrB s x) (match (if ds.length=tyN ty then some ds else cs.map fun cs=>nB cs off ds) with
     | some cs'=>match Zu ty cs' with
      | some y=>k .junk (.set x (.rw e kk ty (xs.set j.toNat y) ((pi,⟨j,some (Bl ty y)⟩)::wJ pins)))
      | none=>none
     | none=>none)))
    | none=>none
   | _,_=>none
  | _=>none
 | _,_=>none
def MO (place:Nat→Option (Nat×Nat)) : List SV→List (Nat×SV)→Option (List SV)
 | cs,[]=>some cs
 | cs,(i,p)::rest=>match place i,Kx p with
  | some (off,size),some ns=>chk (ns.length==size) (chk (decide (off + ns.length≤cs.length)) (MO place (nB cs off ns) rest))
  | _,_=>none
def DM (i:TI) : Option (List SV):=FO i.zero
def Kv:Nat→Nat→List SD→List (List SD)
 | _,0,_=>[]
 | k,n + 1,l=>l.take k::Kv k n (l.drop k)
def Kk (t:Ty) : List (List SD)→Option (List t.den)
 | []=>some []
 | c::l=>match Zu t c,Kk t l with | some x,some xs=>some (x::xs) | _,_=>none
def aaf (P:Program) : Nat→TypeId→Option Ty
 | 0,_=>none
 | d + 1,t=>match abK t with
  | some i=>some (.st i)
  | none=>match P.underlying t with
   | some (.int k)=>some (.int k)
   | some .bool=>some .bool
   | some .string=>some .str
   | some (.slice e)=>(aaf P d e).map .sl
   | _=>none
def Wl {α : Type} : Nat→List α→List α
 | 0,_=>[]
 | n + 1,l=>l++Wl n l
def uY (P:Program) (s:SS) (dst:Option Nat) (t:TypeId) (len:Nat) (parts:List (Nat×SV)) (k:SV→Upd→Option ρ) : Option ρ :=
 match dst,P.underlying t with
 | some d,some (.slice e)=>match mw P e,lkB s.bx d,aaf P 4 e with
  | some i,none,some ty=>match DM i with
   | some z=>chk (decide (0 < i.size)) (chk (decide (len≤1000)) (chk (decide (len * i.size≤16777216)) (chk (JW s d) (match MO (fun j=>some (j * i.size,i.size)) (Wl len z) parts with
    | some cs=>match tS cs with
     | some ds=>match Kk ty (Kv i.size len ds) with
      | some xs=>chk (tyN ty==i.size) (k (.row d) (.new d (.rw e i.size ty xs [])))
      | none=>none
     | none=>none
    | none=>none))))
   | none=>none
  | _,_,_=>none
 | _,_=>none
def KE (P:Program) (s:SS) (dst:Option Nat) (t:TypeId) (p q:SV) (k:SV→Upd→Option ρ) : Option ρ :=
 match P.underlying t,sA s q with
 | some (.slice e),some (.sl ty ys)=>match mw P e with
  | some i=>chk (decide (0 < i.size)) (chk (decide (0 < i.bytes)) (chk (decide (i.bytes≤1000000)) (chk (tyN ty==i.size) (match p with
   | .row x=>match lkB s.bx x with
    | some (.rw e' kk ty' xs _)=>match Ty.same ty ty' with
     | some ⟨h⟩=>chk (e' == e) (chk (kk==i.size) (chk (wrB s x) (Option.bind (aX xs (y6 h ys)) fun zs=>k (.row x) (.grow x (.rw e' kk ty' zs [])))))
     | none=>none
    | _=>none
   | .d .nl=>match dst with
    | some d=>match lkB s.bx d with
     | none=>chk (JW s d) (Option.bind (aX ([] : List ty.den) ys) fun zs=>k (.row d) (.new d (.rw e i.size ty zs [])))
     | some _=>none
    | none=>none
   | _=>none))))
  | none=>none
 | _,_=>none
def Ba:SV→Option Int
 | .d (.int _ i)=>some i
 | _=>none
def vwO (n:Nat) (l h:Int) : Option Unit:=if 0≤l∧0≤h∧l.toNat≤h.toNat∧h.toNat≤n then some () else none
def aaq (lo:Option SV) (n:Int) : Option Int:=match lo with
 | none=>some n
 | some v=>Ba v
def oV {α : Type} (xs:List α) (lo hi:Nat) (ys:List α) : Option (List α):=if lo≤hi∧hi≤xs.length then some (ka xs lo (ys.take (hi - lo))) else none
def mkO {α : Type} (z : α) (n:Int) : Option (List α):=if 0≤n∧n≤1000000 then some (List.replicate n.toNat z) else none
def aah (s:SS) : SV→Option SD
 | .vw t lo hi=>match lkB s.bx t with
  | some (.rw _ _ ty xs _)=>some (.sl ty ((xs.drop lo).take (hi - lo)))
  | _=>none
 | v=>sA s v
def Wx (s:SS) : SV→Option (Nat×Nat×Nat)
 | .row t=>match lkB s.bx t with
  | some (.rw _ _ _ xs _)=>some (t,0,xs.length)
  | _=>none
 | .vw t lo hi=>some (t,lo,hi)
 | _=>none
def XF (P:Program) (s:SS) (t:TypeId) (p q:SV) (k:SV→Upd→Option ρ) : Option ρ :=
 match P.underlying t,aah s q,Wx s p with
 | some (.slice e),some (.sl ty ys),some (x,lo,hi)=>match mw P e,lkB s.bx x with
  | some i,some (.rw e' kk ty' xs pins)=>match Ty.same ty ty' with
   | some ⟨h⟩=>chk (kk==i.size) (chk (tyN ty==i.size) (chk (wrB s x) (Option.bind (oV xs lo hi (y6 h ys)) fun zs=>k (.d (.int .i64 (min ys.length (hi - lo) : Nat))) (.set x (.rw e' kk ty' zs (wJ pins))))))
   | none=>none
  | _,_=>none
 | _,_,_=>none
def O8:Operand→Operand→Bool
 | .tmp i,.tmp j=>Nat.beq i j
 | .const (.int _ n),.const (.int _ m)=>n==m
 | _,_=>false
def WU (P:Program) (s:SS) (dst:Option Nat) (t:TypeId) (same:Bool) (p:SV) (k:SV→Upd→Option ρ) : Option ρ :=
 match dst,P.underlying t,p,same with
 | some d,some (.slice e),.d (.int _ n),true=>match mw P e,lkB s.bx d,aaf P 4 e with
  | some i,none,some ty=>match DM i with
   | some z=>(match tS z with
    | some ds=>(match Zu ty ds with
     | some z0=>chk (decide (0 < i.size)) (chk (decide (i.bytes≤1000000)) (chk (tyN ty==i.size) (chk (JW s d) (Option.bind (mkO z0 n) fun xs=>k (.row d) (.new d (.rw e i.size ty xs []))))))
     | none=>none)
    | none=>none)
   | none=>none
  | _,_,_=>none
 | _,_,_,_=>none
def O5 (P:Program) (s:SS) (t:TypeId) (p:SV) (lo hi:Option SV) (k:SV→Option ρ) : Option ρ :=
 match P.underlying t,p with
 | some (.slice e),.d (.sl ty xs)=>match mw P e with
  | some i=>chk (tyN ty==i.size) (match lo,hi with
   | none,none=>k (.d (.sl ty xs))
   | some l,none=>match Ba l with | some l=>Option.bind (loO xs l) fun z=>k (.d (.sl ty z)) | none=>none
   | none,some h=>match Ba h with | some h=>Option.bind (hiO xs h) fun z=>k (.d (.sl ty z)) | none=>none
   | some l,some h=>match Ba l,Ba h with | some l,some h=>Option.bind (lhO xs l h) fun z=>k (.d (.sl ty z)) | _,_=>none)
  | none=>none
 | some (.slice e),.row x=>match mw P e,lkB s.bx x with
  | some i,some (.rw _ kk ty xs _)=>chk (kk==i.size) (match aaq lo 0,aaq hi xs.length with
   | some l,some h=>Option.bind (vwO xs.length l h) fun _=>k (.vw x l.toNat h.toNat)
   | _,_=>none)
  | _,_=>none
 | some .string,.d (.str x)=>match lo,hi with
   | some l,none=>match Ba l with | some l=>Option.bind (TB x l) fun z=>k (.d (.str z)) | none=>none
   | none,some h=>match Ba h with | some h=>Option.bind (Pa x h) fun z=>k (.d (.str z)) | none=>none
   | some l,some h=>match Ba l,Ba h with | some l,some h=>Option.bind (JG x l h) fun z=>k (.d (.str z)) | _,_=>none
   | none,none=>none
 | _,_=>none
def yM (mx:Bool) : SV→List SV→Option SV
 | p,[]=>some p
 | .d (.int k x),.d (.int _ y)::l=>yM mx (.d (.int k (match mx with | true=>if y > x then y else x | false=>if y < x then y else x))) l
 | _,_=>none
def aax (P:Program) (s:SS) (t:TypeId) (v:SV) (k:SV→Option ρ) : Option ρ :=
 match P.underlying t with
 | some (.slice _)=>match sA s v with
  | some (.sl _ xs)=>k (.d (.int .i64 (xs.length:Int)))
  | some .nl=>k (.d (.int .i64 0))
  | _=>match v with
   | .vw _ lo hi=>k (.d (.int .i64 ((hi - lo:Nat) : Int)))
   | _=>none
 | some .string=>match v with
  | .d (.str x)=>k (.d (.int .i64 (x.size:Int)))
  | _=>none
 | _=>none
def Nm (P:Program) (s:SS) (dst:Option Nat) (f:Builtin) (args:List SV) (ts:List TypeId) (k:SV→Upd→Option ρ) : Option ρ :=
 match f with
 | .len=>(match args,ts with | [x],[t]=>aax P s t x fun v=>k v .no | _,_=>none)
 | .append=>(match args,ts with | [x,y],[t,t']=>(match Nat.beq t' t with | true=>KE P s dst t x y k | false=>none) | _,_=>none)
 | .min=>(match args with | x::xs=>(match yM false x xs with | some v=>k v .no | none=>none) | _=>none)
 | .max=>(match args with | x::xs=>(match yM true x xs with | some v=>k v .no | none=>none) | _=>none)
 | .copy=>(match args,ts with | [x,y],[t,_]=>XF P s t x y k | _,_=>none)
 | _=>none
def xw (s:SS) : List (Nat×Operand)→List (Nat×SV)
 | []=>[]
 | (i,x)::l=>(i,evX s x)::xw s l
def wl (s:SS) : List Operand→List SV
 | []=>[]
 | x::l=>evX s x::wl s l
def Wu (c:Bool) (v w:SV) : Option SV :=
 match v,w with
 | .d (.int k x),.d (.int k' y)=>if k=k' then some (.d (.int k (if c=true then x else y))) else none
 | .d (.bool x),.d (.bool y)=>some (.d (.bool (if c=true then x else y)))
 | .d (.str x),.d (.str y)=>some (.d (.str (if c=true then x else y)))
 | v,w=>match c with | true=>some v | false=>some w
def aav (p:SV) (k:SV→Option ρ) : Option ρ:=match p with
 | .ptr t o=>k (.ptr t o)
 | .re t q o=>k (.re t q o)
 | .fe cs=>k (.fe cs)
 | _=>none
def SH (kd:IntKind) : List SV→Option (List Int)
 | []=>some []
 | .d (.int kd' x)::l=>if kd' = kd then (match SH kd l with | some r=>some (x::r) | none=>none) else none
 | _=>none
def Zp (P:Program) (o:Oper) (s:SS) (k:SV→Upd→Option ρ) : Option ρ :=
 match o.op with
 | .move x=>k (evX s x) .no
 | .assign x=>k (evX s x) .no
 | .pick c x y=>match evX s c with
  | .d (.bool t)=>match Wu t (evX s x) (evX s y) with | some v=>k v .no | none=>none
  | _=>none
 | .alloc e=>match o.dst,mw P e with
  | some t,some i=>match lkB s.bx t,DM i with
   | none,some z=>chk (JW s t) (k (.ptr t 0) (.new t (.st e z)))
   | _,_=>none
  | _,_=>none
 | .box e x=>match o.dst,Kx (evX s x) with
  | some t,some cs=>match lkB s.bx t with
   | none=>chk (JW s t) (k (.ptr t 0) (.new t (.st e cs)))
   | some _=>none
  | _,_=>none
 | .build t ps=>match mw P t,aam P t with
  | some i,some pl=>match DM i with
   | some z=>(match MO pl z (xw s ps.toList) with | some cs=>k (.ag cs) .no | none=>none)
   | none=>none
  | _,_=>none
 | .buildSlice t n ps=>uY P s o.dst t n (xw s ps.toList) k
 | .load t x=>match SB P s t (evX s x) with | some v=>k v .no | none=>none
 | .store t x y=>O2 P s t (evX s x) (evX s y) k
 | .binOp op t x y _=>aaM P op t (W5 y) (evX s x) (evX s y) fun v=>k v .no
 | .unOp op _ x=>unX op (evX s x) fun v=>k v .no
 | .convert src dst x=>XH P s src dst (evX s x) fun v=>k v .no
 | .slice t x lo hi none=>O5 P s t (evX s x) (lo.map (evX s)) (hi.map (evX s)) fun v=>k v .no
 | .fieldAddr t x f=>xI P t (evX s x) f fun v=>k v .no
 | .field t x f=>PQ P t (evX s x) f fun v=>k v .no
 | .indexAddr t x i=>xE P s o.dst t (evX s x) (evX s i) k
 | .extract x i=>match evX s x with
  | .tup vs=>match vs[i]? with | some v=>k v .no | none=>none
  | _=>none
 | .index t x i=>match P.underlying t,evX s x,evX s i with
  | some .string,.d (.str x),.d (.int _ i)=>Option.bind (lu x i) fun z=>k (.d (.int .u8 z)) .no
  | some (.array n e),.ag cs,.d (.int _ i)=>match mw P e,P.underlying e with
   | some ie,some (.int kd)=>match SH kd cs with
    | some xs=>chk (Nat.beq ie.size 1) (chk (Nat.beq xs.length n) (Option.bind (aw xs i) fun z=>k (.d (.int kd z)) .no))
    | none=>none
   | _,_=>none
  | _,_,_=>none
 | .call c=>match c.callee with
  | .builtin f=>Nm P s o.dst f (wl s c.args.toList) c.argTypes.toList k
  | _=>none
 | .makeFunc (.func f) ps qs=>k (.fn f (wl s ps.toList) (wl s qs.toList)) .no
 | .makeSlice t x y=>WU P s o.dst t (O8 x y) (evX s x) k
 | .nilCheck x=>aav (evX s x) fun v=>k v .no
 | _=>none
end
section
inductive CT where
 | v (t:Ty)
 | a (i:Nat)
 | pl (t:Ty)
 | ps (i:Nat)
def CT.den:CT→Type
 | .v t=>t.den
 | .a i=>ST i
 | .pl t=>t.den
 | .ps i=>ST i
def uW:List CT→Type
 | []=>Unit
 | c::cs=>c.den×uW cs
inductive IB where
 | no
 | own (e k:Nat) (t:Ty)
 | bx (ty n:Nat) (rows:List (Nat×Nat×Nat×Ty))
def IB.den:IB→Type
 | .no=>Unit
 | .own _ _ t=>List t.den
 | .bx _ n _=>ST n
def IB.nJ:IB→Nat
 | .bx _ _ rows=>rows.length
 | _=>0
def uH:Nat→List IB→List (List Nat)
 | _,[]=>[]
 | base,b::l=>List.range' base b.nJ::uH (base + b.nJ) l
def D0:List IB→Nat
 | []=>0
 | b::l=>b.nJ + D0 l
def yI:List IB→Type
 | []=>Unit
 | b::l=>b.den×yI l
inductive PT where
 | lf (t:Ty)
 | ag (i:Nat)
 | pl (t:Ty)
 | ps (i:Nat)
 | fn (f:FuncId) (a b:List CT)
 | own (e k:Nat) (t:Ty)
 | mv (e k:Nat) (t:Ty)
 | bx (ty n:Nat) (rows:List (Nat×Nat×Nat×Ty))
 | agr (n:Nat) (rows:List (Nat×Nat×Nat×Ty))
 | io (l:List IB)
def PT.den:PT→Type
 | .lf t=>t.den
 | .ag i=>ST i
 | .pl t=>t.den
 | .ps i=>ST i
 | .fn _ a b=>uW a×uW b
 | .own _ _ t=>List t.den
 | .mv _ _ t=>List t.den
 | .bx _ n _=>ST n
 | .agr n _=>ST n
 | .io l=>yI l
def PT.isM:PT→Bool
 | .own ..=>true
 | .mv ..=>true
 | .bx ..=>true
 | .agr ..=>true
 | .io _=>true
 | _=>false
def pd:List PT→Bool
 | []=>false
 | p::l=>match p.isM with | true=>true | false=>pd l
def PT.flat:PT→Bool
 | .lf (.int _)=>true
 | .lf .bool=>true
 | .lf .str=>true
 | .lf _=>false
 | .ag i=>stF i
 | _=>false
def abk:(c:CT)→c.den→SV
 | .v t,x=>.d (qK t x)
 | .a i,x=>.ag (A6 (stC i x))
 | .pl t,x=>.fe [qK t x]
 | .ps i,x=>.fe (stC i x)
def IL:(cs:List CT)→uW cs→List SV
 | [],_=>[]
 | c::cs,x=>abk c x.1::IL cs x.2
def Up:(p:PT)→p.den→SV
 | .lf t,x=>.d (qK t x)
 | .ag i,x=>.ag (A6 (stC i x))
 | .pl t,x=>.fe [qK t x]
 | .ps i,x=>.fe (stC i x)
 | .fn f a b,x=>.fn f (IL a x.1) (IL b x.2)
 | .own ..,_=>.junk
 | .mv ..,_=>.junk
 | .bx ..,_=>.junk
 | .agr ..,_=>.junk
 | .io _,_=>.junk
def Zt (s:SS) (t:Ty) (v:SV) : Option t.den:=match sA s v with | some c=>c.as t | none=>none
def Zw (s:SS) (i:Nat) : SV→Option (ST i)
 | .ag cs=>match Kl s cs with | some cs=>stK i cs | none=>none
 | _=>none
def Ta (t:Ty) : SV→Option t.den
 | .fe [c]=>c.as t
 | _=>none
def S9 (i:Nat) : SV→Option (ST i)
 | .fe cs=>stK i cs
 | _=>none
def abm (s:SS) : (c:CT)→SV→Option c.den
 | .v t,v=>Zt s t v
 | .a i,v=>Zw s i v
 | .pl t,v=>Ta t v
 | .ps i,v=>S9 i v
def Nc (s:SS) : (cs:List CT)→List SV→Option (uW cs)
 | [],[]=>some ()
 | c::cs,v::vs=>Option.bind (abm s c v) fun x=>Option.bind (Nc s cs vs) fun xs=>some (x,xs)
 | _,_=>none
def aaJ (s:SS) (f:FuncId) (a b:List CT) : SV→Option (uW a×uW b)
 | .fn f' ps qs=>match Nat.beq f' f with
  | true=>Option.bind (Nc s a ps) fun x=>Option.bind (Nc s b qs) fun y=>some (x,y)
  | false=>none
 | _=>none
def Ng (s:SS) : (p:PT)→SV→Option p.den
 | .lf t,v=>Zt s t v
 | .ag i,v=>Zw s i v
 | .pl t,v=>Ta t v
 | .ps i,v=>S9 i v
 | .fn f a b,v=>aaJ s f a b v
 | .own ..,_=>none
 | .mv ..,_=>none
 | .bx ..,_=>none
 | .agr ..,_=>none
 | .io _,_=>none
def cE:List PT→Type
 | []=>Unit
 | p::ps=>p.den×cE ps
def bl:List PT→Type
 | []=>Unit
 | [p]=>p.den
 | p::q::l=>p.den×bl (q::l)
def Cl:(ps:List PT)→cE ps→List SV
 | [],_=>[]
 | p::ps,x=>Up p x.1::Cl ps x.2
def Tb (s:SS) : (ps:List PT)→List SV→Option (cE ps)
 | [],[]=>some ()
 | p::ps,v::vs=>Option.bind (Ng s p v) fun x=>Option.bind (Tb s ps vs) fun xs=>some (x,xs)
 | _,_=>none
def S1:(rs:List PT)→bl rs→List SV
 | [],_=>[]
 | [p],x=>[Up p x]
 | p::q::l,x=>Up p x.1::S1 (q::l) x.2
def abj (rs:List PT) (x:bl rs) : SV:=match rs,x with
 | [p],x=>Up p x
 | rs,x=>.tup (S1 rs x)
def IV (s:SS) : (rs:List PT)→List SV→Option (bl rs)
 | [],[]=>some ()
 | [p],[v]=>Ng s p v
 | p::q::l,v::vs=>Option.bind (Ng s p v) fun x=>Option.bind (IV s (q::l) vs) fun xs=>some (x,xs)
 | _,_=>none
def qT:List PT→Bool
 | []=>true
 | p::l=>match p.flat with | true=>qT l | false=>false
def abn:CT→Bool
 | .v (.st _)=>false
 | .pl (.st _)=>false
 | _=>true
def FF:List CT→Bool
 | []=>true
 | c::l=>match abn c with | true=>FF l | false=>false
def TU:PT→Bool
 | .lf (.st _)=>false
 | .pl (.st _)=>false
 | .fn _ a b=>match FF a with | true=>FF b | false=>false
 | .lf _=>true
 | .pl _=>true
 | .ag _=>true
 | .ps _=>true
 | _=>false
def uE:List PT→Bool
 | []=>true
 | p::l=>match TU p with | true=>uE l | false=>false
def ta:List PT→Bool
 | []=>true
 | p::l=>match p.isM||TU p with | true=>ta l | false=>false
structure Ent where
 ps:List PT
 rs:List PT
 f:cE ps→Option (bl rs)
def abQ:PT→SV→Bool
 | .fn f _ _,.fn g _ _=>Nat.beq g f
 | .fn _ _ _,_=>false
 | _,_=>true
def Z0:List PT→List SV→Bool
 | [],_=>true
 | _ :: _,[]=>true
 | p::ps,v::vs=>match abQ p v with | true=>Z0 ps vs | false=>false
def lkE:List (Nat×Ent)→Nat→List SV→Option Ent
 | [],_,_=>none
 | (j,v)::l,i,vs=>match Nat.beq i j with
  | true=>(match Z0 v.ps vs with | true=>some v | false=>lkE l i vs)
  | false=>lkE l i vs
mutual
def pO:SV→Bool
 | .row _=>false
 | .ptr _ _=>false
 | .re _ _ _=>false
 | .vw _ _ _=>false
 | .ag cs=>cy cs
 | .tup cs=>cy cs
 | .fn _ ps qs=>match cy ps with | true=>cy qs | false=>false
 | _=>true
def cy:List SV→Bool
 | []=>true
 | c::cs=>match pO c with | true=>cy cs | false=>false
end
def pV:List (Nat×Nat×Nat×Nat×Ty)→Nat→Option (Nat×Nat×Nat×Ty)
 | [],_=>none
 | (j,R,e,k,t)::l,i=>match Nat.beq j i with | true=>some (R,e,k,t) | false=>pV l i
def cellsOf (s:SS) (rows:List (Nat×Nat×Nat×Nat×Ty)) : Nat→List SV→Option (List SD)
 | _,[]=>some []
 | j,c::cs=>match pV rows j with
  | some (R,e,k,t)=>(match c,lkB s.bx R with
   | .row R',some (.rw e' k' t' xs _)=>(match Ty.same t' t with
    | some ⟨h⟩=>chk (Nat.beq R' R) (chk (e' == e) (chk (k' == k) (match cellsOf s rows (j + 1) cs with | some r=>some (.sl t (y6 h xs)::r) | none=>none)))
    | none=>none)
   | _,_=>none)
  | none=>(match c,cellsOf s rows (j + 1) cs with
   | .d x,some r=>some (x::r)
   | _,_=>none)
def gf (rows:List (Nat×Nat×Nat×Nat×Ty)) : Nat→List SD→List (Nat×Option bc)→Option (List SV×List (Nat×Option bc))
 | _,[],bx=>some ([],bx)
 | j,c::cs,bx=>match pV rows j with
  | some (R,e,k,t)=>(match c.as (.sl t),gf rows (j + 1) cs bx with
   | some xs,some (vs,bx)=>some (.row R::vs,(R,some (.rw e k t xs []))::bx)
   | _,_=>none)
  | none=>(match gf rows (j + 1) cs bx with
   | some (vs,bx)=>some (.d c::vs,bx)
   | none=>none)
def mu:List (Nat×Nat×Nat×Ty)→List Nat→List (Nat×Nat×Nat×Nat×Ty)
 | (j,e,k,t)::l,R::is=>(j,R,e,k,t)::mu l is
 | _,_=>[]
def PT.nI:PT→Nat
 | .own ..=>1
 | .mv ..=>1
 | .bx _ _ rows=>rows.length + 1
 | .agr _ rows=>rows.length
 | _=>0
def MS (rows:List (Nat×Nat×Nat×Ty)) (is:List Nat) (n:Nat) (x:ST n) : Option (List SV×List (Nat×Option bc)):=gf (mu rows is) 0 (stC n x) []
def MX:(p:PT)→List Nat→p.den→Option (SV×List (Nat×Option bc))
 | .own e k t,is,xs=>(match is with | [i]=>some (.row i,[(i,some (.rw e k t xs []))]) | _=>none)
 | .mv e k t,is,xs=>(match is with | [i]=>some (.row i,[(i,some (.rw e k t xs []))]) | _=>none)
 | .bx ty n rows,is,x=>(match is with | i::is=>(match MS rows is n x with | some (vs,bx)=>some (.ptr i 0,(i,some (.st ty vs))::bx) | none=>none) | _=>none)
 | .agr n rows,is,x=>(match MS rows is n x with | some (vs,bx)=>some (.ag vs,bx) | none=>none)
 | .io _,_,_=>none
 | .lf t,_,x=>some (.d (qK t x),[])
 | .ag i,_,x=>some (.ag (A6 (stC i x)),[])
 | .pl t,_,x=>some (.fe [qK t x],[])
 | .ps i,_,x=>some (.fe (stC i x),[])
 | .fn f a b,_,x=>some (.fn f (IL a x.1) (IL b x.2),[])
def MW:(ps:List PT)→List (List Nat)→cE ps→Option (List SV×List (Nat×Option bc))
 | [],[],_=>some ([],[])
 | p::ps,is::iss,x=>(match MX p is x.1,MW ps iss x.2 with | some (v,b),some (vs,bs)=>some (v::vs,b++bs) | _,_=>none)
 | _,_,_=>none
def Dp:List (Nat×Nat×Nat×Ty)→List SV→Option (List Nat)
 | [],_=>some []
 | (j,_)::l,cs=>(match cs[j]?,Dp l cs with | some (.row R),some is=>some (R::is) | _,_=>none)
def M7 (s:SS) (rows:List (Nat×Nat×Nat×Ty)) (n:Nat) (cs:List SV) : Option (ST n×List Nat):=match Dp rows cs with
 | some is=>(match cellsOf s (mu rows is) 0 cs with
  | some ds=>(match stK n ds with | some x=>some (x,is) | none=>none)
  | none=>none)
 | none=>none
def tv (s:SS) (e k:Nat) (t:Ty) : SV→Option (List t.den×List Nat)
 | .row i=>(match lkB s.bx i with
  | some (.rw e' k' t' xs _)=>(match Ty.same t' t with
   | some ⟨h⟩=>chk (e' == e) (chk (k' == k) (some (y6 h xs,[i])))
   | none=>none)
  | _=>none)
 | _=>none
def Nd (s:SS) (ty n:Nat) (rows:List (Nat×Nat×Nat×Ty)) : SV→Option (ST n×List Nat)
 | .ptr i 0=>(match lkB s.bx i with
  | some (.st ty' cs)=>chk (ty' == ty) (match M7 s rows n cs with | some (x,is)=>some (x,i::is) | none=>none)
  | _=>none)
 | _=>none
def P2 (s:SS) (n:Nat) (rows:List (Nat×Nat×Nat×Ty)) : SV→Option (ST n×List Nat)
 | .ag cs=>M7 s rows n cs
 | _=>none
def M9 (s:SS) (p:PT) (v:SV) : Option (p.den×List Nat):=chk (pO v) (match Ng s p v with | some x=>some (x,[]) | none=>none)
def P1 (s:SS) : (p:PT)→SV→Option (p.den×List Nat)
 | .own e k t,v=>tv s e k t v
 | .mv e k t,v=>tv s e k t v
 | .bx ty n rows,v=>Nd s ty n rows v
 | .agr n rows,v=>P2 s n rows v
 | .io _,_=>none
 | .lf t,v=>M9 s (.lf t) v
 | .ag i,v=>M9 s (.ag i) v
 | .pl t,v=>M9 s (.pl t) v
 | .ps i,v=>M9 s (.ps i) v
 | .fn f a b,v=>M9 s (.fn f a b) v
def IX (s:SS) : (ps:List PT)→List SV→Option (cE ps×List (List Nat))
 | [],[]=>some ((),[])
 | p::ps,v::vs=>(match P1 s p v,IX s ps vs with | some (x,is),some (xs,iss)=>some ((x,xs),is::iss) | _,_=>none)
 | _,_=>none
structure MU where
 ks:List Nat
 us:List (Nat×Option bc)
 gs:List Nat
mutual
def stV (ks:List Nat) : SV→SV
 | .row t=>match aF ks t with | true=>.junk | false=>.row t
 | .re t p o=>match aF ks t with | true=>.junk | false=>.re t p o
 | .vw t p o=>match aF ks t with | true=>.junk | false=>.vw t p o
 | .ag cs=>.ag (ug ks cs)
 | .tup cs=>.tup (ug ks cs)
 | .fn f ps qs=>.fn f (ug ks ps) (ug ks qs)
 | v=>v
def ug (ks:List Nat) : List SV→List SV
 | []=>[]
 | c::cs=>stV ks c::ug ks cs
end
def Tw (ks:List Nat) : List (Nat×SV)→List (Nat×SV)
 | []=>[]
 | (i,v)::l=>(i,stV ks v)::Tw ks l
def xl (ks:List Nat) : List (Nat×Option bc)→List (Nat×Option bc)
 | []=>[]
 | (i,some (.st ty cs))::l=>(i,some (.st ty (ug ks cs)))::xl ks l
 | (i,b)::l=>(i,b)::xl ks l
def SS.updM (s:SS) (dst:Option Nat) (v:SV) (m:MU) : SS:=⟨sY (Tw m.ks s.sl) dst v,m.us++xl m.ks s.bx,s.pr,s.ro,m.gs++s.oc⟩
def cw:List PT→List IB
 | .io l :: _=>l
 | _=>[]
def ff:List PT→List PT
 | .io _ :: l=>l
 | l=>l
def jX:(rs:List PT)→bl rs→yI (cw rs)
 | [],_=>()
 | [.io _],r=>r
 | .io _ :: _ :: _,r=>r.1
 | .own .. :: _,_=>()
 | .mv .. :: _,_=>()
 | .bx .. :: _,_=>()
 | .agr .. :: _,_=>()
 | .lf _ :: _,_=>()
 | .ag _ :: _,_=>()
 | .pl _ :: _,_=>()
 | .ps _ :: _,_=>()
 | .fn .. :: _,_=>()
def ja:(rs:List PT)→bl rs→bl (ff rs)
 | [],_=>()
 | [.io _],_=>()
 | .io _ :: _ :: _,r=>r.2
 | .own .. :: _,r=>r
 | .mv .. :: _,r=>r
 | .bx .. :: _,r=>r
 | .agr .. :: _,r=>r
 | .lf _ :: _,r=>r
 | .ag _ :: _,r=>r
 | .pl _ :: _,r=>r
 | .ps _ :: _,r=>r
 | .fn .. :: _,r=>r
def JT (s:SS) (i:Nat) : List (Nat×Pin):=match lkB s.bx i with | some (.rw _ _ _ _ pins)=>wJ pins | _=>[]
def lC:List Nat→List (Nat×Option bc)
 | []=>[]
 | t::l=>(t,none)::lC l
def aaH (s:SS) : (p:PT)→(b:IB)→List Nat→List Nat→b.den→Option MU
 | .own ..,.own e k t,is,_,xs=>(match is with | [i]=>some ⟨[],[(i,some (.rw e k t xs (JT s i)))],[]⟩ | _=>none)
 | .mv ..,.no,is,_,_=>(match is with | [i]=>some ⟨[i],[],[i]⟩ | _=>none)
 | .bx ..,.bx ty n rows,is,js,x=>(match is with | i::is=>(match MS rows js n x with | some (vs,bx)=>some ⟨is,(i,some (.st ty vs))::bx,is⟩ | none=>none) | _=>none)
 | .lf _,.no,_,_,_=>some ⟨[],[],[]⟩
 | .ag _,.no,_,_,_=>some ⟨[],[],[]⟩
 | .pl _,.no,_,_,_=>some ⟨[],[],[]⟩
 | .ps _,.no,_,_,_=>some ⟨[],[],[]⟩
 | .fn ..,.no,_,_,_=>some ⟨[],[],[]⟩
 | _,_,_,_,_=>none
def MU.app (a b:MU) : MU:=⟨a.ks++b.ks,a.us++b.us,a.gs++b.gs⟩
def S2 (s:SS) : (ps:List PT)→(ls:List IB)→List (List Nat)→List (List Nat)→yI ls→Option MU
 | [],[],[],[],_=>some ⟨[],[],[]⟩
 | p::ps,b::ls,is::iss,js::kss,o=>(match aaH s p b is js o.1,S2 s ps ls iss kss o.2 with | some m,some m'=>some (m.app m') | _,_=>none)
 | _,_,_,_,_=>none
def Kd:(rs:List PT)→List (List Nat)→bl rs→Option (List SV×List (Nat×Option bc))
 | [],[],_=>some ([],[])
 | [p],[is],x=>(match MX p is x with | some (v,b)=>some ([v],b) | none=>none)
 | p::q::l,is::iss,x=>(match MX p is x.1,Kd (q::l) iss x.2 with | some (v,b),some (vs,bs)=>some (v::vs,b++bs) | _,_=>none)
 | _,_,_=>none
def WI:List SV→SV
 | [v]=>v
 | vs=>.tup vs
def oA:Nat→List PT→List (List Nat)
 | _,[]=>[]
 | base,p::l=>List.range' base p.nI::oA (base + p.nI) l
def bu:List (List Nat)→List Nat
 | []=>[]
 | l::ls=>l++bu ls
def tb:List Nat→Bool
 | []=>true
 | a::l=>match aF l a with | true=>false | false=>tb l
def Su (s:SS) : List Nat→Bool
 | []=>true
 | j::l=>match JW s j,lkB s.bx j,Nat.blt j 1000000 with | true,none,true=>Su s l | _,_,_=>false
def Ss (s:SS) : List Nat→Bool
 | []=>true
 | i::l=>match aF s.pr i with | true=>false | false=>Ss s l
def idU:List (Nat×Option bc)→List Nat
 | []=>[]
 | (i,_)::l=>i::idU l
def O0:List Nat→List Nat→Bool
 | [],_=>true
 | a::l,m=>match aF m a with | true=>O0 l m | false=>false
def Z4 (ps:List PT) (iss:List (List Nat)) (x:cE ps) : Bool:=match MW ps iss x with | some (_,bi)=>tb (idU bi)&&O0 (bu iss) (idU bi) | none=>false
def Sv (s:SS) : List (Nat×Option bc)→Bool
 | []=>true
 | (i,b)::l=>(match lkB s.bx i with
  | some (.st ty cs)=>(match b with | some (.st ty' cs')=>ty==ty' && Nat.beq cs.length cs'.length | _=>false)
  | _=>true)&&Sv s l
section
variable {ρ : Type}
def T9 (T:List (Nat×Ent)) (f:Nat) (args:List SV) : Bool:=match lkE T f args with | some en=>pd en.ps||pd en.rs | none=>false
def Tf (T:List (Nat×Ent)) (f:Nat) (s:SS) (args:List SV) (k:SV→Option ρ) : Option ρ :=
 match lkE T f args with
 | none=>none
 | some en=>chk (uE en.rs) (chk (cy args||qT en.rs) (Option.bind (Tb s en.ps args) fun x=>Option.bind (en.f x) fun r=>k (abj en.rs r)))
def Tg (T:List (Nat×Ent)) (f:Nat) (s:SS) (dst:Option Nat) (args:List SV) (k:SV→MU→Option ρ) : Option ρ :=
 match s.ro with
 | true=>none
 | false=>match lkE T f args,dst with
  | some en,some d=>(match IX s en.ps args with
   | some (x,iss)=>Option.bind (en.f x) fun r =>
    let kss:=uH (500000 + 64 * d) (cw en.rs)
    let jss:=oA (500000 + 64 * d + D0 (cw en.rs)) (ff en.rs)
    match S2 s en.ps (cw en.rs) iss kss (jX en.rs r),Kd (ff en.rs) jss (ja en.rs r) with
    | some m,some (vs,bs)=>chk (Ss s (idU m.us++(m.ks++m.gs))&&(Su s (idU bs++(bu kss++bu jss))&&(tb (bu iss++(bu kss++bu jss))&&(tb (idU (m.us++(bs++lC m.gs)))&&(Sv s (m.us++lC m.gs)&&(O0 (bu iss) (idU m.us++m.gs)&&(O0 (idU m.us++m.gs) (bu iss++bu kss)&&(Z4 en.ps iss x&&(O0 (bu kss++bu jss) (idU m.us++idU bs)&&(ta (ff en.rs)&&ta en.ps)))))))))) (k (WI vs) ⟨m.ks,m.us++(bs++lC m.gs),m.gs⟩)
    | _,_=>none
   | none=>none)
  | _,_=>none
def wO (s:SS) (x:Operand) (b:Bool) : SS:=match x with
 | .tmp i=>⟨(i,.d (.bool b))::s.sl,s.bx,s.pr,s.ro,s.oc⟩
 | _=>s
def R6 (g:Nat) : List Oper→Option (List Oper×Nat×List Oper)
 | []=>none
 | o::l=>match (match o.op,o.dst with | .pick (.tmp g') _ _,some d=>(match Nat.beq g' g with | true=>some d | false=>none) | _,_=>none) with
  | some d=>some ([o],d,l)
  | none=>match R6 g l with
   | some (a,d,b)=>some (o::a,d,b)
   | none=>none
def cm:List Oper→List Nat
 | []=>[]
 | o::l=>match o.dst with | some d=>d::cm l | none=>cm l
def pa:List Nat→List (Nat×SV)→List (Nat×SV)
 | [],l=>l
 | d::ds,l=>(d,.junk)::pa ds l
def Dj (d:Nat) (s:SS) : Option Bool:=match lkV s.sl d with | .d (.bool b)=>some b | _=>none
mutual
def uP (t:Nat) (c:SD) : SV→SV
 | .row t'=>match Nat.beq t' t with | true=>.d c | false=>.row t'
 | .re t' p o=>match Nat.beq t' t with | true=>.junk | false=>.re t' p o
 | .vw t' p o=>match Nat.beq t' t with | true=>.junk | false=>.vw t' p o
 | .ag cs=>.ag (n8 t c cs)
 | .tup cs=>.tup (n8 t c cs)
 | .fn f ps qs=>.fn f (n8 t c ps) (n8 t c qs)
 | v=>v
def n8 (t:Nat) (c:SD) : List SV→List SV
 | []=>[]
 | v::vs=>uP t c v::n8 t c vs
end
def E0 (t:Nat) (c:SD) : List (Nat×SV)→List (Nat×SV)
 | []=>[]
 | (i,v)::l=>(i,uP t c v)::E0 t c l
def sp (t:Nat) (c:SD) : List (Nat×Option bc)→List (Nat×Option bc)
 | []=>[]
 | (i,some (.st ty cs))::l=>(i,some (.st ty (n8 t c cs)))::sp t c l
 | (i,b)::l=>(i,b)::sp t c l
def PJ (t:Nat) (s:SS) : Option SS:=match lkB s.bx t with
 | some (.rw _ _ ty xs _)=>match aF s.pr t with
  | false=>some ⟨E0 t (.sl ty xs) s.sl,(t,none)::sp t (.sl ty xs) s.bx,s.pr,s.ro,s.oc⟩
  | true=>some s
 | _=>some s
def lD:List Nat→SS→Option SS
 | [],s=>some s
 | t::l,s=>match PJ t s with | some s=>lD l s | none=>none
mutual
def xH (t:Nat) (ds:List SD) : SV→SV
 | .ptr t' o=>match Nat.beq t' t with | true=>.fe (ds.drop o) | false=>.ptr t' o
 | .ag cs=>.ag (pT t ds cs)
 | .tup cs=>.tup (pT t ds cs)
 | .fn f ps qs=>.fn f (pT t ds ps) (pT t ds qs)
 | v=>v
def pT (t:Nat) (ds:List SD) : List SV→List SV
 | []=>[]
 | v::vs=>xH t ds v::pT t ds vs
end
def E2 (t:Nat) (ds:List SD) : List (Nat×SV)→List (Nat×SV)
 | []=>[]
 | (i,v)::l=>(i,xH t ds v)::E2 t ds l
def sr (t:Nat) (ds:List SD) : List (Nat×Option bc)→List (Nat×Option bc)
 | []=>[]
 | (i,some (.st ty cs))::l=>(i,some (.st ty (pT t ds cs)))::sr t ds l
 | (i,b)::l=>(i,b)::sr t ds l
def aau:List SD→Bool
 | []=>true
 | .nl :: _=>false
 | _ :: l=>aau l
def fbX (sc:List Nat) (t:Nat) (s:SS) : Option SS:=match lkB s.bx t with
 | some (.st _ cs)=>(match tS cs with
  | some ds=>chk (aau ds&&(!(aF s.pr t) && !(aF sc t))) (some ⟨E2 t ds s.sl,(t,none)::sr t ds s.bx,s.pr,s.ro,s.oc⟩)
  | none=>none)
 | _=>none
def IE (sc:List Nat) : List Nat→SS→Option SS
 | [],s=>some s
 | t::l,s=>match fbX sc t s with | some s=>IE sc l s | none=>none
def SY (s:SS) : List Nat→Bool
 | []=>true
 | t::l=>match lkB s.bx t with | none=>SY s l | some _=>false
mutual
def Pd:SV→List Nat
 | .row t=>[t]
 | .fn _ ps qs=>s9 ps++s9 qs
 | .ag cs=>s9 cs
 | _=>[]
def s9:List SV→List Nat
 | []=>[]
 | c::cs=>Pd c++s9 cs
end
def Wy:List (Nat×SV)→List SV
 | []=>[]
 | (_,v)::l=>v::Wy l
def AU:List PT→List SV→List SV
 | p::ps,v::vs=>(match p.isM with | true=>AU ps vs | false=>v::AU ps vs)
 | _,_=>[]
def YX (q:Bool) (T:List (Nat×Ent)) (o:Oper) (s:SS) : Option SS:=match q,s.ro,o.guard with
 | true,false,none=>(match o.op,uX o with
  | .buildSlice _ _ ps,_=>lD (s9 (Wy (xw s ps.toList))) s
  | _,some (x,xs)=>(match evX s x with
   | .fn f ps qs=>(match lkE T f (ps++wl s xs++qs) with
    | some en=>(match pd en.ps||pd en.rs with
     | true=>lD (s9 (AU en.ps (ps++wl s xs++qs))) s
     | false=>(match qT en.rs with | true=>some s | false=>lD (s9 (ps++wl s xs++qs)) s))
    | none=>some s)
   | _=>some s)
  | _,_=>some s)
 | _,_,_=>some s
mutual
def wL:SV→Option (List Nat)
 | .junk=>none
 | .ptr t _=>some [t]
 | .row t=>some [t]
 | .re t _ _=>some [t]
 | .vw t _ _=>some [t]
 | .ag cs=>rq cs
 | .tup cs=>rq cs
 | .fn _ ps qs=>match rq ps,rq qs with | some a,some b=>some (a++b) | _,_=>none
 | .d _=>some []
 | .fe _=>some []
def rq:List SV→Option (List Nat)
 | []=>some []
 | c::cs=>match wL c,rq cs with | some a,some b=>some (a++b) | _,_=>none
end
def SR (o:Oper) (s:SS) : Option (List Nat):=match o.op with
 | .load _ x=>wL (evX s x)
 | .store _ x _=>wL (evX s x)
 | .indexAddr _ x _=>wL (evX s x)
 | .slice _ x _ _ _=>wL (evX s x)
 | .convert _ _ x=>wL (evX s x)
 | .call c=>(match c.callee with
  | .value f=>(match wL (evX s f),rq (wl s c.args.toList) with | some a,some b=>some (a++b) | _,_=>none)
  | _=>rq (wl s c.args.toList))
 | _=>some []
def O1:List Nat→List Nat→Bool
 | [],_=>true
 | a::l,m=>match fL.memL m a with | true=>O1 l m | false=>false
def yL:List Bd→Nat→Bd
 | [],_=>([],[])
 | x :: _,0=>x
 | _ :: l,i + 1=>yL l i
def Iw (q:Bool) (B:List Bd) (i:Nat) (o:Oper) (s:SS) (u:Upd) : Bool:=match q with
 | true=>true
 | false=>match SR o s with
  | some fs=>O1 fs (yL B i).1&&O1 (V4 u) (yL B i).2
  | none=>false
def SU (q:Bool) (B:List Bd) (i:Nat) (o:Oper) (s:SS) (m:MU) : Bool:=match q with
 | true=>true
 | false=>match SR o s with
  | some fs=>O1 fs (yL B i).1&&O1 (idU m.us) (yL B i).2
  | none=>false
def uy (q:Bool) (P:Program) (T:List (Nat×Ent)) (ops:Array Oper) (B:List Bd) : Nat→Nat→List Nat→List Oper→{ρ : Type} → SS→(SS→Option ρ)→Option ρ
 | _,_,_,[],_,s,k=>k s
 | 0,_,_,_ :: _,_,_,_=>none
 | n + 1,i,kn,o::l,_,s,k =>
  let go:=fun (_:Unit)=>match YX q T o s with
   | none=>none
   | some s=>(match uX o with
    | some (x,xs)=>(match evX s x with
     | .fn f ps qs=>(match T9 T f (ps++wl s xs++qs) with
      | false=>chk (Iw q B i o s .no) (Tf T f s (ps++wl s xs++qs) fun r=>uy q P T ops B n (i + 1) kn l (s.upd o.dst r .no) k)
      | true=>Tg T f s o.dst (ps++wl s xs++qs) fun v m=>chk (SU q B i o s m) (uy q P T ops B n (i + 1) kn l (s.updM o.dst v m) k))
     | _=>none)
    | none=>Zp P o s fun v u=>chk (Iw q B i o s u) (uy q P T ops B n (i + 1) kn l (s.upd o.dst v u) k))
  let skip:=fun (_:Unit)=>uy q P T ops B n (i + 1) kn l (s.upd o.dst (.tup []) .no) k
  match o.guard with
  | none=>go ()
  | some (j,want)=>match (ops[j]?).bind (·.dst) with
   | none=>none
   | some g=>match lkV s.sl g with
    | .tup []=>skip ()
    | .d (.bool b)=>(match aF kn g with
     | true=>(match b with
      | true=>(match want with | true=>go () | false=>skip ())
      | false=>(match want with | true=>skip () | false=>go ()))
     | false=>(match R6 g (o::l) with
      | none=>none
      | some (l1,d,l2)=>Option.bind (if b=true then uy q P T ops B n i (g::kn) l1 ⟨(g,.d (.bool true))::s.sl,s.bx,s.pr,true,s.oc⟩ (Dj d) else uy q P T ops B n i (g::kn) l1 ⟨(g,.d (.bool false))::s.sl,s.bx,s.pr,true,s.oc⟩ (Dj d)) fun qb =>
       uy q P T ops B n (i + l1.length) kn l2 ⟨(d,.d (.bool qb))::pa (cm l1) s.sl,s.bx,s.pr,s.ro,cm l1++s.oc⟩ k))
    | _=>none
end
def lkN:List (Nat×List Nat)→Nat→Option (List Nat)
 | [],_=>none
 | (j,v)::l,i=>match Nat.beq i j with | true=>some v | false=>lkN l i
def la (m:List (Nat×List Nat)) (s:SS) : Operand→List Nat
 | .tmp i=>(match lkN m i with | some l=>l | none=>(match wL (lkV s.sl i) with | some l=>l | none=>[]))
 | _=>[]
def B7 (m:List (Nat×List Nat)) (s:SS) : List Operand→List Nat
 | []=>[]
 | x::l=>la m s x++B7 m s l
def aa0 (m:List (Nat×List Nat)) (s:SS) : List (Nat×Operand)→List Nat
 | []=>[]
 | (_,x)::l=>la m s x++aa0 m s l
def abq (mb:List (Nat×List Nat)) (s:SS) (t:Nat) : List Nat:=match lkN mb t with
 | some l=>l
 | none=>(match lkB s.bx t with | some (.st _ cs)=>(match rq cs with | some l=>l | none=>[]) | _=>[])
def XO (mb:List (Nat×List Nat)) (s:SS) : List Nat→List Nat
 | []=>[]
 | t::l=>abq mb s t++XO mb s l
def aaR (mb:List (Nat×List Nat)) (s:SS) (x:List Nat) : List Nat→List (Nat×List Nat)
 | []=>mb
 | t::l=>(t,x++abq mb s t)::aaR mb s x l
def Fy:Option Nat→List Nat
 | some d=>[d]
 | none=>[]
def qH (m:List (Nat×List Nat)) (dst:Option Nat) (l:List Nat) : List (Nat×List Nat):=match dst with | some d=>(d,l)::m | none=>m
def aa8:List (Nat×Ent)→Nat→Option Ent
 | [],_=>none
 | (j,v)::l,i=>match Nat.beq i j with | true=>some v | false=>aa8 l i
def abO (T:List (Nat×Ent)) (o:Oper) (f:Operand) : Option (List Nat):=match f,o.dst with
 | .func g,some d=>(match aa8 T g with
  | some en=>(match pd en.ps||pd en.rs with | true=>some (bu (uH (500000 + 64 * d) (cw en.rs))++bu (oA (500000 + 64 * d + D0 (cw en.rs)) (ff en.rs))) | false=>none)
  | none=>none)
 | _,_=>none
def lb (T:List (Nat×Ent)) (s:SS) : List Oper→List (Nat×List Nat)→List (Nat×List Nat)→List Bd
 | [],_,_=>[]
 | o::l,m,mb=>match o.op with
  | .move x=>([],[])::lb T s l (qH m o.dst (la m s x)) mb
  | .assign x=>([],[])::lb T s l (qH m o.dst (la m s x)) mb
  | .pick _ x y=>([],[])::lb T s l (qH m o.dst (la m s x++la m s y)) mb
  | .build _ ps=>([],[])::lb T s l (qH m o.dst (aa0 m s ps.toList)) mb
  | .extract x _=>([],[])::lb T s l (qH m o.dst (la m s x)) mb
  | .field _ x _=>([],[])::lb T s l (qH m o.dst (la m s x)) mb
  | .fieldAddr _ x _=>([],[])::lb T s l (qH m o.dst (la m s x)) mb
  | .nilCheck x=>([],[])::lb T s l (qH m o.dst (la m s x)) mb
  | .indexAddr _ x _=>(la m s x,[])::lb T s l (qH m o.dst (la m s x)) mb
  | .load _ x=>(la m s x,[])::lb T s l (qH m o.dst (XO mb s (la m s x))) mb
  | .store _ x y=>(la m s x,la m s x)::lb T s l m (aaR mb s (la m s y) (la m s x))
  | .alloc _=>([],Fy o.dst)::lb T s l (qH m o.dst (Fy o.dst)) mb
  | .box _ x=>([],Fy o.dst)::lb T s l (qH m o.dst (Fy o.dst)) (aaR mb s (la m s x) (Fy o.dst))
  | .buildSlice _ _ _=>([],Fy o.dst)::lb T s l (qH m o.dst (Fy o.dst)) mb
  | .slice _ x _ _ _=>(la m s x,[])::lb T s l (qH m o.dst (la m s x)) mb
  | .makeSlice _ _ _=>([],Fy o.dst)::lb T s l (qH m o.dst (Fy o.dst)) mb
  | .convert _ _ x=>(la m s x,[])::lb T s l (qH m o.dst []) mb
  | .makeFunc _ a b=>([],[])::lb T s l (qH m o.dst (B7 m s a.toList++B7 m s b.toList)) mb
  | .call c=>(match c.callee with
   | .builtin .append=>(match c.args.toList with
    | x::y :: _=>(la m s x++la m s y,la m s x++Fy o.dst)::lb T s l (qH m o.dst (la m s x++Fy o.dst)) mb
    | _=>([],[])::lb T s l m mb)
   | .builtin .copy=>(match c.args.toList with
    | x::y :: _=>(la m s x++la m s y,la m s x)::lb T s l (qH m o.dst []) mb
    | _=>([],[])::lb T s l m mb)
   | .value f=>(match abO T o f with
    | none=>(la m s f++B7 m s c.args.toList,[])::lb T s l (qH m o.dst []) mb
    | some js=>(B7 m s c.args.toList,B7 m s c.args.toList++(XO mb s (B7 m s c.args.toList)++js))::lb T s l (qH m o.dst js) mb)
   | _=>(B7 m s c.args.toList,[])::lb T s l (qH m o.dst []) mb)
  | _=>([],[])::lb T s l m mb
def LL (m:Nat) (ops:Array Oper) : Bool:=(List.range ops.size).all fun i=>decide (i < m)||(List.range i).all fun k=>yT ops 4 i k
inductive Mod where
 | leaf (i:Nat) (t:Ty)
 | agg (i n:Nat)
 | row (i R e k:Nat) (t:Ty)
 | box (b ty n:Nat) (rows:List (Nat×Nat×Nat×Nat×Ty))
def Mod.den:Mod→Type
 | .leaf _ t=>t.den
 | .agg _ n=>ST n
 | .row _ _ _ _ t=>List t.den
 | .box _ _ n _=>ST n
def ke:List Mod→Type
 | []=>Unit
 | [m]=>m.den
 | m::m' :: l=>m.den×ke (m' :: l)
def aaB:Option bc→Bool
 | some (.rw ..)=>true
 | _=>false
def Be (s:SS) : (m:Mod)→Option m.den
 | .leaf i t=>match lkV s.sl i with
  | .d c=>c.as t
  | _=>none
 | .agg i n=>match lkV s.sl i with
  | .ag cs=>(match tS cs with | some cs=>stK n cs | none=>none)
  | _=>none
 | .row i R e k t=>match lkV s.sl i,lkB s.bx R with
  | .row R',some (.rw e' k' t' xs _)=>match Ty.same t' t with
   | some ⟨h⟩=>chk (Nat.beq R' R) (chk (e' == e) (chk (k' == k) (some (y6 h xs))))
   | none=>none
  | _,_=>none
 | .box b ty n rows=>match lkB s.bx b with
  | some (.st ty' cs)=>chk (ty' == ty) (chk (rows.all fun r=>aaB (lkB s.bx r.2.1)) (match cellsOf s rows 0 cs with | some ds=>stK n ds | none=>none))
  | _=>none
def tT (s:SS) : (l:List Mod)→Option (ke l)
 | []=>some ()
 | [m]=>Be s m
 | m::m' :: l=>Option.bind (Be s m) fun x=>Option.bind (tT s (m' :: l)) fun xs=>some (x,xs)
def sf:(m:Mod)→m.den→SS→Option SS
 | .leaf i t,x,s=>some ⟨(i,.d (qK t x))::s.sl,s.bx,s.pr,s.ro,s.oc⟩
 | .agg i n,x,s=>some ⟨(i,.ag (A6 (stC n x)))::s.sl,s.bx,s.pr,s.ro,s.oc⟩
 | .row i R e k t,xs,s=>some ⟨(i,.row R)::s.sl,(R,some (.rw e k t xs []))::s.bx,s.pr,s.ro,s.oc⟩
 | .box b ty n rows,x,s=>match gf rows 0 (stC n x) s.bx with
  | some (vs,bx)=>some ⟨s.sl,(b,some (.st ty vs))::bx,s.pr,s.ro,s.oc⟩
  | none=>none
def jW:(l:List Mod)→ke l→SS→Option SS
 | [],_,s=>some s
 | [m],x,s=>sf m x s
 | m::m' :: l,x,s=>match jW (m' :: l) x.2 s with | some s=>sf m x.1 s | none=>none
def bB:List Mod→List Nat
 | []=>[]
 | .row _ R _ _ _ :: l=>R::bB l
 | .box b _ _ rows::l=>b::(rows.map (·.2.1)++bB l)
 | _ :: l=>bB l
def ZW (R:Nat) : SV→Bool
 | .row R'=>Nat.beq R' R
 | _=>false
def pP (wr:List Nat) (s:SS) : List Mod→Bool
 | []=>true
 | .leaf i _ :: l=>(match aF wr i with | true=>pP wr s l | false=>false)
 | .agg i _ :: l=>(match aF wr i with | true=>pP wr s l | false=>false)
 | .row i R _ _ _ :: l=>(match aF s.pr R,aF wr i||ZW R (lkV s.sl i) with | false,true=>pP wr s l | _,_=>false)
 | .box b _ _ rows::l=>(match aF s.pr b,rows.all fun r=>!(aF s.pr r.2.1) with | false,true=>pP wr s l | _,_=>false)
def vM (mb sc:List Nat) : List (Nat×Option bc)→List Nat→Bool
 | [],_=>true
 | (t,b)::l,seen=>match aF seen t with
  | true=>vM mb sc l seen
  | false=>match b with
   | some (.st _ cs)=>(match aF mb t||(aF sc t||cy cs) with | true=>vM mb sc l (t::seen) | false=>false)
   | _=>vM mb sc l (t::seen)
def IQ:List Nat→List Nat→Bool
 | [],_=>true
 | a::l,m=>match aF m a with | true=>false | false=>IQ l m
mutual
def tc (sc wr:List Nat) (ms:List Mod) (pr:List Nat) (s:SS) : Bool:=pP wr s ms&&(IQ sc pr&&(IQ sc (bB ms)&&vM (bB ms) sc s.bx []))
def G2 (pr kb:List Nat) : SV→Bool
 | .row t=>aF pr t
 | .re _ _ _=>false
 | .vw _ _ _=>false
 | .ptr t _=>aF kb t
 | .ag cs=>lq pr kb cs
 | .tup cs=>lq pr kb cs
 | .fn _ ps qs=>match lq pr kb ps with | true=>lq pr kb qs | false=>false
 | _=>true
def lq (pr kb:List Nat) : List SV→Bool
 | []=>true
 | c::cs=>match G2 pr kb c with | true=>lq pr kb cs | false=>false
end
def te (wr pr kb:List Nat) : List (Nat×SV)→List Nat→List (Nat×SV)
 | [],_=>[]
 | (i,v)::l,seen=>match aF seen i with
  | true=>te wr pr kb l seen
  | false=>match aF wr i with
   | true=>te wr pr kb l (i::seen)
   | false=>match G2 pr kb v with
    | true=>(i,v)::te wr pr kb l (i::seen)
    | false=>te wr pr kb l (i::seen)
def yF:bc→Bool
 | .st _ cs=>cy cs
 | .rw ..=>true
def o4 (mb:List Nat) : List (Nat×Option bc)→List Nat→List Nat
 | [],_=>[]
 | (t,b)::l,seen=>match aF seen t with
  | true=>o4 mb l seen
  | false=>match b with
   | none=>o4 mb l (t::seen)
   | some b=>match aF mb t,yF b with
    | false,true=>t::o4 mb l (t::seen)
    | _,_=>o4 mb l (t::seen)
def Jv:Option bc→Option bc
 | some (.rw e k t xs _)=>some (.rw e k t xs [])
 | b=>b
def tf (pr:List Nat) : List (Nat×Option bc)→List Nat→List (Nat×Option bc)
 | [],_=>[]
 | (t,b)::l,seen=>match aF seen t with
  | true=>tf pr l seen
  | false=>match aF pr t with
   | true=>(t,Jv b)::tf pr l (t::seen)
   | false=>tf pr l (t::seen)
def wP:List SV→List SV
 | []=>[]
 | _ :: l=>.junk::wP l
def s8 (bx:List (Nat×Option bc)) : List Nat→List Nat
 | []=>[]
 | b::l=>match lkB bx b with
  | some (.st _ _)=>b::s8 bx l
  | _=>s8 bx l
def LR (bx:List (Nat×Option bc)) : List Nat→List (Nat×Option bc)→List (Nat×Option bc)
 | [],r=>r
 | b::l,r=>match lkB bx b with
  | some (.st ty cs)=>(b,some (.st ty (wP cs)))::LR bx l r
  | _=>LR bx l r
def ch (sc wr:List Nat) (ms:List Mod) (s:SS) : SS :=
 let pr:=o4 (bB ms++sc) s.bx []
 ⟨te wr pr (bB ms++(s8 s.bx sc++pr)) s.sl [],LR s.bx sc (tf pr s.bx []),pr,s.ro,[]⟩
def AM (but:List Nat) : List SV→List Nat
 | []=>[]
 | .row t::l=>match aF but t with | true=>AM but l | false=>t::AM but l
 | _ :: l=>AM but l
def Ig (s:SS) : List Mod→List Nat
 | []=>[]
 | .leaf i _ :: l=>AM [] [lkV s.sl i] ++ Ig s l
 | .agg i _ :: l=>(match lkV s.sl i with | .ag cs=>AM [] cs | _=>[])++Ig s l
 | .row .. :: l=>Ig s l
 | .box b _ _ rows::l=>(match lkB s.bx b with | some (.st _ cs)=>AM (rows.map (·.2.1)) cs | _=>[])++Ig s l
def clr (s:SS) : SS:=⟨s.sl,s.bx,s.pr,s.ro,[]⟩
def uG (s:SS) : List (Nat×Nat×Nat×Nat×Ty)→List SV→List (Nat×Option bc)→Option (List SV×List (Nat×Option bc))
 | [],cs,bx=>some (cs,bx)
 | (j,R,e,k,t)::l,cs,bx=>match cs[j]? with
  | some (.d .nl)=>(match lkB bx R,decide (0 < k∧R < 1000000),aF s.pr R with
   | none,true,false=>uG s l (cs.set j (.row R)) ((R,some (.rw e k t [] []))::bx)
   | _,_,_=>none)
  | _=>uG s l cs bx
def G4 (wr:List Nat) : List Mod→SS→Option SS
 | [],s=>some s
 | .row i R e k t::l,s=>match lkV s.sl i with
  | .d .nl=>(match Nat.beq i R,lkB s.bx i,decide (0 < k∧i < 1000000),aF wr i,aF s.pr i with
   | true,none,true,true,false=>G4 wr l ⟨(i,.row i)::s.sl,(i,some (.rw e k t [] []))::s.bx,s.pr,s.ro,s.oc⟩
   | _,_,_,_,_=>none)
  | _=>G4 wr l s
 | .box b _ _ [] :: l,s=>G4 wr l s
 | .box b _ _ rows::l,s=>match lkB s.bx b with
  | some (.st ty cs)=>(match aF s.pr b,uG s rows cs s.bx with
   | false,some (cs,bx)=>G4 wr l ⟨s.sl,(b,some (.st ty cs))::bx,s.pr,s.ro,s.oc⟩
   | _,_=>none)
  | _=>none
 | _ :: l,s=>G4 wr l s
def PR (wr:List Nat) (ms:List Mod) (s:SS) : Option SS:=match G4 wr ms s with
 | some s=>lD (Ig s ms) s
 | none=>none
def qO (ms:List Mod) (s:SS) : Option (ke ms):=match lD (Ig s ms) s with
 | some s=>tT s ms
 | none=>none
inductive um where
 | n
 | s (a b:um)
 | lp (ms:List Mod) (id:Nat) (ret:Bool) (b:um)
 | j (ms:List Mod) (h:um)
def um.l:um→um
 | .s a _=>a
 | .j _ (.s a _)=>a
 | _=>.n
def um.r:um→um
 | .s _ b=>b
 | .j _ (.s _ b)=>b
 | _=>.n
structure Cx where
 P:Program
 T:List (Nat×Ent)
 n:Nat
 rs:List PT
 vars:List ResultVar
 fz:List (Nat×List Nat)
 sc:List Nat
 fb:List (Nat×List Nat)
def lkF:List (Nat×List Nat)→Nat→List Nat
 | [],_=>[]
 | (j,v)::l,i=>match Nat.beq i j with | true=>v | false=>lkF l i
def wrC:Code→List Nat
 | .region _ ops _=>cm ops.toList
 | .seq a b=>wrC a++wrC b
 | .cond (.tmp i) a b=>i::(wrC a++wrC b)
 | .cond _ a b=>wrC a++wrC b
 | .block _ c=>wrC c
 | .loop c=>wrC c
 | _=>[]
def LV (P:Program) (s:SS) : List ResultVar→Option (List SV)
 | []=>some []
 | .tmp t::l=>match LV P s l with | some vs=>some (lkV s.sl t::vs) | none=>none
 | .cell t ty::l=>match SB P s ty (lkV s.sl t),LV P s l with | some v,some vs=>some (v::vs) | _,_=>none
def abf:List (Nat×Nat×Nat×Ty)→Nat→Bool
 | [],_=>false
 | (j,_)::l,i=>match Nat.beq i j with | true=>true | false=>abf l i
def Dn (rows:List (Nat×Nat×Nat×Ty)) : Nat→List SV→List Nat
 | _,[]=>[]
 | j,c::cs=>match abf rows j with | true=>Dn rows (j + 1) cs | false=>Pd c++Dn rows (j + 1) cs
def aak:PT→SV→List Nat
 | .own ..,_=>[]
 | .agr _ rows,.ag cs=>Dn rows 0 cs
 | .agr ..,_=>[]
 | _,v=>Pd v
def Se:List PT→List SV→List Nat
 | p::ps,v::vs=>aak p v++Se ps vs
 | _,_=>[]
def uh (i:Nat) : Nat:=1000000 + 64 * i
def abc (s:SS) (i:Nat) : IB→List Nat
 | .bx _ _ rows=>(match lkB s.bx (uh i) with | some (.st _ cs)=>Dn rows 0 cs | _=>[])
 | _=>[]
def W7 (s:SS) : Nat→List IB→List Nat
 | _,[]=>[]
 | i,b::l=>abc s i b++W7 s (i + 1) l
def Zz (s:SS) (i:Nat) : (b:IB)→Option (b.den×List Nat)
 | .no=>some ((),[])
 | .own e k t=>(match tv s e k t (.row (uh i)) with | some (xs,_)=>some (xs,[]) | none=>none)
 | .bx ty n rows=>(match lkB s.bx (uh i) with
  | some (.st ty' cs)=>chk (ty' == ty) (M7 s rows n cs)
  | _=>none)
def S8 (s:SS) : Nat→(ls:List IB)→Option (yI ls×List (List Nat))
 | _,[]=>some ((),[])
 | i,b::ls=>match Zz s i b,S8 s (i + 1) ls with | some (o,js),some (os,kss)=>some ((o,os),js::kss) | _,_=>none
def Ki (s:SS) : (rs:List PT)→List SV→Option (bl rs×List (List Nat))
 | [],[]=>some ((),[])
 | [p],[v]=>(match P1 s p v with | some (x,is)=>some (x,[is]) | none=>none)
 | p::q::l,v::vs=>(match P1 s p v,Ki s (q::l) vs with | some (x,is),some (xs,iss)=>some ((x,xs),is::iss) | _,_=>none)
 | _,_=>none
def W4:(rs:List PT)→yI (cw rs)→bl (ff rs)→bl rs
 | [],_,_=>()
 | [.io _],o,_=>o
 | .io _ :: _ :: _,o,r=>(o,r)
 | .own .. :: _,_,r=>r
 | .mv .. :: _,_,r=>r
 | .bx .. :: _,_,r=>r
 | .agr .. :: _,_,r=>r
 | .lf _ :: _,_,r=>r
 | .ag _ :: _,_,r=>r
 | .pl _ :: _,_,r=>r
 | .ps _ :: _,_,r=>r
 | .fn .. :: _,_,r=>r
def dA:Nat→List IB→List Nat
 | _,[]=>[]
 | i,.no::l=>dA (i + 1) l
 | i,.own .. :: l=>uh i::dA (i + 1) l
 | i,.bx .. :: l=>uh i::dA (i + 1) l
def ZV (C:Cx) (s:SS) : Option (bl C.rs):=match LV C.P s C.vars with
 | some vs=>(match lD (W7 s 0 (cw C.rs)++Se (ff C.rs) vs) s with
  | some s1=>(match LV C.P s1 C.vars with
   | some ws=>(match S8 s1 0 (cw C.rs),Ki s1 (ff C.rs) ws with
    | some (o,kss),some (r,jss)=>chk (tb (dA 0 (cw C.rs)++(bu kss++bu jss))) (some (W4 C.rs o r))
    | _,_=>none)
   | none=>none)
  | none=>none)
 | none=>none
def Cc (C:Cx) (s:SS) : Option (bl C.rs):=match pd C.rs with
 | true=>ZV C (clr s)
 | false=>(match LV C.P (clr s) C.vars with
  | some vs=>IV (clr s) C.rs vs
  | none=>none)
def V9:List Oper→Bool
 | []=>true
 | o::l=>match o.op,o.dst with | .store ..,some _=>false | _,_=>V9 l
def Xb:List Oper→Bool
 | []=>false
 | o::l=>match o.op with | .buildSlice ..=>true | _=>Xb l
def SK:List Oper→Bool
 | []=>false
 | o::l=>match uX o with | some _=>true | none=>SK l
def V6 (ops:Array Oper) : Nat→Nat
 | 0=>0
 | n + 1=>match (List.range n).all fun k=>yT ops 4 n k with | true=>V6 ops n | false=>n + 1
def jl (ops:Array Oper) : Nat:=match Xb ops.toList,SK ops.toList with
 | true,true=>V6 ops ops.toList.length
 | _,_=>ops.toList.length
def Wm (C:Cx) (id:Nat) (ops:Array Oper) (draw:Bool) (s:SS) {ρ : Type} (k:SS→Option ρ) : Option ρ :=
 match lD (lkF C.fz id) s with
 | none=>none
 | some s0=>let s:SS:=⟨s0.sl,s0.bx,s0.pr,s0.ro,[]⟩; match draw with
  | false=>chk (V9 ops.toList&&IP C.n ops.toList) (uy true C.P C.T ops [] 1000 0 [] ops.toList s k)
  | true=>chk (V9 ops.toList) (chk (Fz (yL (lb C.T s ops.toList [] [])) C.n ops) (match Nat.beq (jl ops) ops.toList.length with
   | true=>uy false C.P C.T ops (lb C.T s ops.toList [] []) 1000 0 [] ops.toList s k
   | false=>chk (LL (jl ops) ops&&decide (jl ops≤ops.toList.length)) (uy false C.P C.T ops (lb C.T s ops.toList [] []) 1000 0 [] (ops.toList.take (jl ops)) s fun s=>uy true C.P C.T ops [] 1000 0 [] (ops.toList.drop (jl ops)) s k)))
def YS (C:Cx) (id:Nat) (ops:Array Oper) (draw:Bool) (s:SS) {ρ : Type} (k:SS→Option ρ) : Option ρ:=match lkF C.fb id with
 | []=>Wm C id ops draw s k
 | t::l=>chk (SY s (t::l)) (Wm C id ops draw s fun s=>match IE C.sc (t::l) s with | some s=>k s | none=>none)
def HQ (C:Cx) (wr:List Nat) (h:um) (body:(ρ : Type)→SS→(Exit→SS→Option ρ)→(bl C.rs→Option ρ)→Option ρ) (ρ : Type) (s:SS) (k:Exit→SS→Option ρ) (kr:bl C.rs→Option ρ) : Option ρ :=
 match h with
 | .j ms _=>match G4 wr ms (clr s) with
  | none=>none
  | some s1=>chk (tc C.sc wr ms s.pr s1) (Option.bind (body (ke ms) ⟨s1.sl,s1.bx,(ch C.sc wr ms s1).pr,s1.ro,s1.oc⟩ (fun e s'=>match e with | .normal=>qO ms s' | _=>none) (fun _=>none)) fun st =>
   match jW ms st (ch C.sc wr ms s1) with
   | some s2=>k .normal ⟨s2.sl,s2.bx,s.pr,s.ro,s.oc⟩
   | none=>none)
 | _=>body ρ s k kr
def xJ (C:Cx) : Code→um→(ρ : Type)→SS→(Exit→SS→Option ρ)→(bl C.rs→Option ρ)→Option ρ
 | .skip,_,_,s,k,_=>k .normal s
 | .label _,_,_,s,k,_=>k .normal s
 | .exit id,_,_,s,k,_=>k (.exit id) s
 | .ret,_,_,s,_,kr=>Option.bind (Cc C s) kr
 | .region id ops draw,h,ρ,s,k,kr=>HQ C (cm ops.toList) h (fun _ s k _=>YS C id ops draw s fun s=>k .normal s) ρ s k kr
 | .seq a b,h,ρ,s,k,kr=>HQ C (wrC a++wrC b) h (fun ρ s k kr=>xJ C a h.l ρ s (fun e s'=>match e with | .normal=>xJ C b h.r ρ s' k kr | e=>k e s') kr) ρ s k kr
 | .cond c a b,h,ρ,s,k,kr=>HQ C (wrC (.cond c a b)) h (fun ρ s k kr=>match evX s c with
   | .d (.bool t)=>if t=true then xJ C a h.l ρ (wO s c true) k kr else xJ C b h.r ρ (wO s c false) k kr
   | _=>none) ρ s k kr
 | .block id c,h,ρ,s,k,kr=>HQ C (wrC c) h (fun ρ s k kr=>xJ C c h.l ρ s (fun e s'=>match e with | .exit id'=>(match Nat.beq id' id with | true=>k .normal s' | false=>k (.exit id') s') | e=>k e s') kr) ρ s k kr
 | .loop c,.lp ms id ret hb,_,s,k,kr=>match PR (wrC c) ms (clr s) with
  | none=>none
  | some s0=>chk (tc C.sc (wrC c) ms s.pr s0) (match tT s0 ms with
   | none=>none
   | some st0=>match ret with
    | false=>Option.bind (ah (fun st=>match jW ms st (ch C.sc (wrC c) ms s0) with
      | none=>none
      | some sh=>xJ C c hb (ke ms⊕ke ms) sh (fun e s'=>match e with
       | .normal=>Option.bind (qO ms s') fun st'=>some (.inl st')
       | .exit id'=>(match Nat.beq id' id with | true=>Option.bind (qO ms s') fun st'=>some (.inr st') | false=>none)
       | _=>none) (fun _=>none)) ab st0) fun st=>match jW ms st (ch C.sc (wrC c) ms s0) with
      | some s2=>k (.exit id) ⟨s2.sl,s2.bx,s.pr,s.ro,s.oc⟩
      | none=>none
    | true=>Option.bind (ah (fun st=>match jW ms st (ch C.sc (wrC c) ms s0) with
      | none=>none
      | some sh=>xJ C c hb (ke ms⊕(ke ms⊕bl C.rs)) sh (fun e s'=>match e with
       | .normal=>Option.bind (qO ms s') fun st'=>some (.inl st')
       | .exit id'=>(match Nat.beq id' id with | true=>Option.bind (qO ms s') fun st'=>some (.inr (.inl st')) | false=>none)
       | _=>none) (fun r=>some (.inr (.inr r)))) ab st0) fun o=>match o with
      | .inr r=>kr r
      | .inl st=>match jW ms st (ch C.sc (wrC c) ms s0) with
       | some s2=>k (.exit id) ⟨s2.sl,s2.bx,s.pr,s.ro,s.oc⟩
       | none=>none)
 | _,_,_,_,_,_=>none
def Bv:Nat→List SV→List (Nat×SV)
 | _,[]=>[]
 | i,v::vs=>(i,v)::Bv (i + 1) vs
def jm (C:Cx) (c:Code) (h:um) (ps:List PT) (x:cE ps) : Option (bl C.rs) :=
 xJ C c h (bl C.rs) ⟨Bv 0 (Cl ps x),[],[],false,[]⟩ (fun e s=>match e with | .normal=>Cc C s | _=>none) (fun r=>some r)
def mH (i:Nat) : PT→List Nat
 | .own ..=>[uh i]
 | .mv ..=>[900000 + 64 * i]
 | .bx _ _ rows=>uh i::List.range' (900000 + 64 * i) rows.length
 | .agr _ rows=>List.range' (900000 + 64 * i) rows.length
 | _=>[]
def bm:Nat→List PT→List (List Nat)
 | _,[]=>[]
 | i,p::ps=>mH i p::bm (i + 1) ps
def aa1:PT→IB→Bool
 | .own ..,.own ..=>true
 | .bx ..,.bx ..=>true
 | .own ..,_=>false
 | .bx ..,_=>false
 | .agr ..,_=>false
 | .io _,_=>false
 | _,.no=>true
 | _,_=>false
def Pv:List PT→List IB→Bool
 | [],[]=>true
 | p::ps,b::ls=>match aa1 p b with | true=>Pv ps ls | false=>false
 | _,_=>false
def Sc (C:Cx) (c:Code) (h:um) (ps:List PT) (x:cE ps) : Option (bl C.rs):=match MW ps (bm 0 ps) x with
 | some (vs,bx)=>chk (tb (idU bx)) (xJ C c h (bl C.rs) ⟨Bv 0 vs,bx,[],false,[]⟩ (fun e s=>match e with | .normal=>Cc C s | _=>none) (fun r=>some r))
 | none=>none
end
section
theorem aq {ρ : Type} {b:Bool} {k:Option ρ} {r : ρ} (h:chk b k=some r) : b=true∧k=some r:=by
 cases b
 ·cases h
 ·exact ⟨rfl,h⟩
theorem cT (j:Nat) (v:SV) (l:List (Nat×SV)) (i:Nat) : lkV ((j,v)::l) i=if i=j then v else lkV l i:=by
 simp only [lkV]
 by_cases h:i=j
 ·subst h; simp
 ·have:Nat.beq i j=false:=by rw [← Bool.not_eq_true,Nat.beq_eq]; exact h
  rw [this,if_neg h]
theorem av (j:Nat) (v:Option bc) (l:List (Nat×Option bc)) (i:Nat) : lkB ((j,v)::l) i=if i=j then v else lkB l i:=by
 simp only [lkB]
 by_cases h:i=j
 ·subst h; simp
 ·have:Nat.beq i j=false:=by rw [← Bool.not_eq_true,Nat.beq_eq]; exact h
  rw [this,if_neg h]
theorem si (j:Nat) (v:Pin) (l:List (Nat×Pin)) (i:Nat) : lkP ((j,v)::l) i=if i=j then some v else lkP l i:=by
 simp only [lkP]
 by_cases h:i=j
 ·subst h; simp
 ·have:Nat.beq i j=false:=by rw [← Bool.not_eq_true,Nat.beq_eq]; exact h
  rw [this,if_neg h]
theorem cU (a b:Nat) : Nat.beq a b=decide (a=b):=by
 by_cases h:a=b
 ·subst h; simp
 ·have:Nat.beq a b=false:=by rw [← Bool.not_eq_true,Nat.beq_eq]; exact h
  simp [this,h]
theorem vK (l:List (Nat×SV)) (dst:Option Nat) (v:SV) (i:Nat) : lkV (sY l dst v) i=if dst=some i then v else lkV l i:=by
 cases dst with
 | none=>simp [sY]
 | some d =>
  simp only [sY,cT,Option.some.injEq]
  by_cases h:i=d
  ·subst h; simp
  ·rw [if_neg h,if_neg (Ne.symm h)]
theorem JY:∀ cs:List SD,A6 cs=cs.map .d
 | []=>rfl
 | c::cs=>by simp [A6,JY cs]
theorem lG:∀ (t:Ty) (x:t.den),(bH t x).length=tyN t
 | .int _,_=>rfl
 | .bool,_=>rfl
 | .str,_=>rfl
 | .sl _,_=>rfl
 | .st i,x=>YJ i x
theorem Dw:∀ (t:Ty) (x:t.den),(Bl t x).map SD.toD=bH t x
 | .int _,_=>rfl
 | .bool,_=>rfl
 | .str,_=>rfl
 | .sl _,_=>rfl
 | .st i,x=>ut i x
theorem S0:∀ (t:Ty) (x:t.den),∀ c∈Bl t x,c≠.nl
 | .int _,_,c,h=>by simp [Bl] at h; subst h; exact fun e=>by cases e
 | .bool,_,c,h=>by simp [Bl] at h; subst h; exact fun e=>by cases e
 | .str,_,c,h=>by simp [Bl] at h; subst h; exact fun e=>by cases e
 | .sl _,_,c,h=>by simp [Bl] at h; subst h; exact fun e=>by cases e
 | .st i,x,c,h=>xk i x c h
theorem dQ {α : Type} {x : α} {Q:Prop} (h:(none:Option α)=some x) : Q:=by cases h
theorem Kh:∀ {t:Ty} {cs:List SD} {x:t.den},Zu t cs=some x→cs.map SD.toD=bH t x
 | .st i,cs,x,h=>AI h
 | .int k,[],x,h=>dQ (x:=x) h
 | .int k,[c],x,h=>(SD.as_ok (t:=(.int k)) h).symm
 | .int k,_ :: _ :: _,x,h=>dQ (x:=x) h
 | .bool,[],x,h=>dQ (x:=x) h
 | .bool,[c],x,h=>(SD.as_ok (t:=.bool) h).symm
 | .bool,_ :: _ :: _,x,h=>dQ (x:=x) h
 | .str,[],x,h=>dQ (x:=x) h
 | .str,[c],x,h=>(SD.as_ok (t:=.str) h).symm
 | .str,_ :: _ :: _,x,h=>dQ (x:=x) h
 | .sl t,[],x,h=>dQ (x:=x) h
 | .sl t,[c],x,h=>(SD.as_ok (t:=(.sl t)) h).symm
 | .sl t,_ :: _ :: _,x,h=>dQ (x:=x) h
def Ly:SD→D→Prop
 | .nl,y=>y = .v (.slice none 0 0)
 | c,y=>nrm y=c.toD
theorem Ly.nrm {c:SD} {y:D} (h:Ly c y) : nrm y=c.toD:=by
 cases c <;> first | exact h | (cases h; rfl)
theorem Ly.of {c:SD} (hc:c≠.nl) : Ly c c.toD:=by
 cases c <;> first | rfl | exact absurd rfl hc
theorem WL {y:D} {x:Value} (h:nrm y = .v x) : y = .v x:=by
 unfold Go.Proofs.YtaknepbdbappdaaGreat.nrm at h
 split at h
 ·cases h
 ·exact h
theorem aat {y:D} {es:List (List D)} (h:nrm y = .sl es) : y = .sl es∨(es = []∧y = .v (.slice none 0 0)):=by
 unfold Go.Proofs.YtaknepbdbappdaaGreat.nrm at h
 split at h
 ·injection h with h; exact .inr ⟨h.symm,rfl⟩
 ·exact .inl h
inductive bj (B:List (Nat×Option bc)) : SV→PV→Prop
 | junk (q:PV) : bj B .junk q
 | d (c:SD) (y:D) (h:Ly c y) : bj B (.d c) (.d y)
 | ag (cs:List SV) (qs:List PV) (hl:cs.length=qs.length) (hr:∀ (j:Nat) c q,cs[j]? = some c→qs[j]? = some q→bj B c q) : bj B (.ag cs) (.ag qs)
 | tup (cs:List SV) (qs:List PV) (hl:cs.length=qs.length) (hr:∀ (j:Nat) c q,cs[j]? = some c→qs[j]? = some q→bj B c q) : bj B (.tup cs) (.tup qs)
 | ptr (t o:Nat) (ty:TypeId) (cs:List SV) (hb:lkB B t=some (.st ty cs)) : bj B (.ptr t o) (.ptr t o)
 | row (t n e k:Nat) (ty:Ty) (xs:List ty.den) (pins:List (Nat×Pin)) (hb:lkB B t=some (.rw e k ty xs pins)) (hn:xs.length=n) : bj B (.row t) (.row t n)
 | re (t p o n i e k:Nat) (ty:Ty) (xs:List ty.den) (pins:List (Nat×Pin)) (pin:Pin) (hb:lkB B t=some (.rw e k ty xs pins)) (hn:xs.length=n) (hp:lkP pins p=some pin) (hi:i=pin.i.toNat) : bj B (.re t p o) (.re t n i o)
 | vw (t lo hi n e k:Nat) (ty:Ty) (xs:List ty.den) (pins:List (Nat×Pin)) (hb:lkB B t=some (.rw e k ty xs pins)) (hn:xs.length=n) : bj B (.vw t lo hi) (.vw t n lo hi)
 | fe (cs:List SD) (ds:List D) (h:ds=cs.map SD.toD) (hn:∀ c∈cs,c≠.nl) : bj B (.fe cs) (.fe ds)
 | fn (f:FuncId) (ps qs:List SV) (ps' qs':List PV) (hl:ps.length=ps'.length) (hr:∀ (j:Nat) c q,ps[j]? = some c→ps'[j]? = some q→bj B c q) (hl2:qs.length=qs'.length) (hr2:∀ (j:Nat) c q,qs[j]? = some c→qs'[j]? = some q→bj B c q) : bj B (.fn f ps qs) (.fn f ps' qs')
structure ce (B:List (Nat×Option bc)) (cs:List SV) (qs:List PV) : Prop where
 len:cs.length=qs.length
 rep:∀ (j:Nat) c q,cs[j]? = some c→qs[j]? = some q→bj B c q
def aaS (ty:Ty) (xs:List ty.den) (pins:List (Nat×Pin)) : Prop:=∀ p pin,lkP pins p=some pin→pin.i.toNat < xs.length∧∀ cs,pin.cs=some cs→∃ x,xs[pin.i.toNat]? = some x∧cs=Bl ty x
def mt (B:List (Nat×Option bc)) (oc:Bool) : Option bc→Option Box→Prop
 | none,q=>oc=false→q=none
 | some (.st ty cs),q=>∃ qs,q=some (.st ty qs)∧ce B cs qs
 | some (.rw e k ty xs pins),q=>q=some (.rw e k (xs.map (bH ty)))∧aaS ty xs pins
structure Sim (s:SS) (p:PS) : Prop where
 sl:∀ i,bj s.bx (lkV s.sl i) (p.t i)
 bx:∀ t,mt s.bx (aF s.oc t) (lkB s.bx t) (p.b t)
structure BLe (B B':List (Nat×Option bc)) : Prop where
 rw:∀ t e k ty xs pins,lkB B t=some (.rw e k ty xs pins)→∃ e' k' ty' xs' pins',lkB B' t=some (.rw e' k' ty' xs' pins')∧xs'.length=xs.length∧∀ p pin,lkP pins p=some pin→∃ pin',lkP pins' p=some pin'∧pin'.i=pin.i
 st:∀ t ty cs,lkB B t=some (.st ty cs)→∃ ty' cs',lkB B' t=some (.st ty' cs')
theorem BLe.refl (B:List (Nat×Option bc)) : BLe B B:=⟨fun _ e k ty xs pins h=>⟨e,k,ty,xs,pins,h,rfl,fun _ pin hp=>⟨pin,hp,rfl⟩⟩,fun _ ty cs h=>⟨ty,cs,h⟩⟩
theorem bj.mono {B B':List (Nat×Option bc)} {v:SV} {q:PV} (h:bj B v q) (hB:BLe B B') : bj B' v q:=by
 induction h with
 | junk q=>exact .junk q
 | d c y h=>exact .d c y h
 | ag cs qs hl hr ih=>exact .ag cs qs hl ih
 | tup cs qs hl hr ih=>exact .tup cs qs hl ih
 | ptr t o ty cs hb=>obtain ⟨ty',cs',h1⟩:=hB.st t ty cs hb; exact .ptr t o ty' cs' h1
 | row t n e k ty xs pins hb hn =>
  obtain ⟨e',k',ty',xs',pins',h1,h2,h3⟩:=hB.rw t e k ty xs pins hb
  exact .row t n e' k' ty' xs' pins' h1 (h2.trans hn)
 | re t p o n i e k ty xs pins pin hb hn hp hi =>
  obtain ⟨e',k',ty',xs',pins',h1,h2,h3⟩:=hB.rw t e k ty xs pins hb
  obtain ⟨pin',h4,h5⟩:=h3 p pin hp
  exact .re t p o n i e' k' ty' xs' pins' pin' h1 (h2.trans hn) h4 (by rw [h5]; exact hi)
 | vw t lo hi n e k ty xs pins hb hn =>
  obtain ⟨e',k',ty',xs',pins',h1,h2,h3⟩:=hB.rw t e k ty xs pins hb
  exact .vw t lo hi n e' k' ty' xs' pins' h1 (h2.trans hn)
 | fe cs ds h hn=>exact .fe cs ds h hn
 | fn f ps qs ps' qs' hl hr hl2 hr2 ih ih2=>exact .fn f ps qs ps' qs' hl ih hl2 ih2
theorem ce.mono {B B':List (Nat×Option bc)} {cs:List SV} {qs:List PV} (h:ce B cs qs) (hB:BLe B B') : ce B' cs qs:=⟨h.len,fun j c q h1 h2=>(h.rep j c q h1 h2).mono hB⟩
theorem mt.mono {B B':List (Nat×Option bc)} {oc:Bool} {b:Option bc} {q:Option Box} (h:mt B oc b q) (hB:BLe B B') : mt B' oc b q:=by
 cases b with
 | none=>exact h
 | some b=>cases b with
  | st ty cs=>obtain ⟨qs,h1,h2⟩:=h; exact ⟨qs,h1,h2.mono hB⟩
  | rw e k ty xs pins=>exact h
variable {B:List (Nat×Option bc)}
theorem ce.nil:ce B [] []:=⟨rfl,fun j c q h=>by simp at h⟩
theorem ce.cons {c:SV} {q:PV} {cs:List SV} {qs:List PV} (h:bj B c q) (hs:ce B cs qs) : ce B (c::cs) (q::qs) :=
 ⟨by simp [hs.len],fun j c' q' h1 h2=>by
  cases j with
  | zero=>simp at h1 h2; subst h1 h2; exact h
  | succ j=>simp at h1 h2; exact hs.rep j _ _ h1 h2⟩
theorem ce.head {c:SV} {q:PV} {cs:List SV} {qs:List PV} (h:ce B (c::cs) (q::qs)) : bj B c q:=h.rep 0 c q rfl rfl
theorem ce.tail {c:SV} {q:PV} {cs:List SV} {qs:List PV} (h:ce B (c::cs) (q::qs)) : ce B cs qs :=
 ⟨by have:=h.len; simpa using this,fun j c' q' h1 h2=>h.rep (j + 1) c' q' (by simpa using h1) (by simpa using h2)⟩
theorem ce.cases {cs:List SV} {qs:List PV} (h:ce B cs qs) : (cs = []∧qs = [])∨∃ c q cs' qs',cs=c::cs'∧qs=q::qs'∧bj B c q∧ce B cs' qs':=by
 cases cs with
 | nil=>cases qs with
  | nil=>exact .inl ⟨rfl,rfl⟩
  | cons q qs=>have:=h.len; simp at this
 | cons c cs=>cases qs with
  | nil=>have:=h.len; simp at this
  | cons q qs=>exact .inr ⟨c,q,cs,qs,rfl,rfl,h.head,h.tail⟩
theorem ce.take {cs:List SV} {qs:List PV} (h:ce B cs qs) (n:Nat) : ce B (cs.take n) (qs.take n) :=
 ⟨by simp [h.len],fun j c q h1 h2=>by
  rw [List.getElem?_take] at h1 h2
  split at h1
  ·rename_i hj; rw [if_pos hj] at h2; exact h.rep j c q h1 h2
  ·cases h1⟩
theorem ce.drop {cs:List SV} {qs:List PV} (h:ce B cs qs) (n:Nat) : ce B (cs.drop n) (qs.drop n) :=
 ⟨by simp [h.len],fun j c q h1 h2=>by
  rw [List.getElem?_drop] at h1 h2
  exact h.rep _ c q h1 h2⟩
theorem ce.append {cs ds:List SV} {qs ws:List PV} (h:ce B cs qs) (h':ce B ds ws) : ce B (cs++ds) (qs++ws) :=
 ⟨by simp [h.len,h'.len],fun j c q h1 h2=>by
  rw [List.getElem?_append] at h1 h2
  rw [h.len] at h1
  split at h1
  ·rename_i hj; rw [if_pos hj] at h2; exact h.rep j c q h1 h2
  ·rename_i hj; rw [if_neg hj] at h2; exact h'.rep _ c q h1 h2⟩
theorem mL {α : Type} : ∀ (cs:List α) (o:Nat) (ns:List α),o + ns.length≤cs.length→nB cs o ns=splice cs o ns
 | [],0,[],_=>rfl
 | [],0,n::ns,h=>by simp at h
 | [],o + 1,ns,h=>by simp at h
 | c::cs,0,[],_=>by simp [nB,splice]
 | c::cs,0,n::ns,h=>by
  simp only [nB]
  rw [mL cs 0 ns (by simp at h ⊢; omega)]
  simp [splice]
 | c::cs,o + 1,ns,h=>by
  simp only [nB]
  rw [mL cs o ns (by simp at h ⊢; omega)]
  unfold splice
  rw [show o + 1 + ns.length=(o + ns.length) + 1 by omega]
  simp
theorem ce.splice {cs ns:List SV} {qs ws:List PV} (h:ce B cs qs) (h':ce B ns ws) (o:Nat) : ce B (Go.Proofs.YtaknepbdbappdaaGreat.splice cs o ns) (Go.Proofs.YtaknepbdbappdaaGreat.splice qs o ws):=by
 unfold Go.Proofs.YtaknepbdbappdaaGreat.splice
 rw [h'.len]
 exact ((h.take o).append h').append (h.drop _)
end
section
variable {B:List (Nat×Option bc)} {s:SS} {p:PS}
theorem kI (hs:Sim s p) {dst:Option Nat} {v:SV} {q:PV} (hv:bj s.bx v q) : Sim (s.upd dst v .no) (p.upd dst q none):=by
 refine ⟨fun i=>?_,fun t=>hs.bx t⟩
 show bj s.bx (lkV (sY s.sl dst v) i) (xi p.t dst q i)
 rw [vK]
 unfold xi
 split
 ·exact hv
 ·exact hs.sl i
theorem AJ {sl:List (Nat×SV)} {pr oc:List Nat} {ro:Bool} {dst:Option Nat} {v:SV} {q:PV} {B':List (Nat×Option bc)} {u:Option (Nat×Box)} (h1:∀ i,dst≠some i→bj B' (lkV sl i) (p.t i)) (h2:∀ t,mt B' (aF oc t) (lkB B' t) (dc p.b u t)) (hv:bj B' v q) :
  Sim ⟨sY sl dst v,B',pr,ro,oc⟩ (p.upd dst q u):=by
 refine ⟨fun i=>?_,h2⟩
 show bj B' (lkV (sY sl dst v) i) (xi p.t dst q i)
 rw [vK]
 unfold xi
 split
 ·exact hv
 ·rename_i h; exact h1 i h
theorem o0 (hs:Sim s p) {pr:List Nat} {ro:Bool} {dst:Option Nat} {v:SV} {q:PV} {t:Nat} {b:bc} {b':Box} (hB:BLe s.bx ((t,some b)::s.bx)) (hb:∀ oc,mt ((t,some b)::s.bx) oc (some b) (some b')) (hv:bj ((t,some b)::s.bx) v q) :
  Sim ⟨sY s.sl dst v,(t,some b)::s.bx,pr,ro,s.oc⟩ (p.upd dst q (some (t,b'))):=by
 refine AJ (fun i _=>(hs.sl i).mono hB) (fun t'=>?_) hv
 rw [av]
 simp only [dc]
 split
 ·exact hb _
 ·exact (hs.bx t').mono hB
theorem YL (hs:Sim s p) {pr:List Nat} {ro:Bool} {dst:Option Nat} {v:SV} {q:PV} {t:Nat} {b:bc} (hB:BLe s.bx ((t,some b)::s.bx)) (hb:∀ oc,mt ((t,some b)::s.bx) oc (some b) (p.b t)) (hv:bj ((t,some b)::s.bx) v q) :
  Sim ⟨sY s.sl dst v,(t,some b)::s.bx,pr,ro,s.oc⟩ (p.upd dst q none):=by
 refine AJ (fun i _=>(hs.sl i).mono hB) (fun t'=>?_) hv
 rw [av]
 simp only [dc]
 split
 ·rename_i h; subst h; exact hb _
 ·exact (hs.bx t').mono hB
theorem qX {b:bc} {t:Nat} (h:lkB B t=none) : BLe B ((t,some b)::B):=by
 refine ⟨fun t' e k ty xs pins h1=>?_,fun t' ty cs h1=>?_⟩
 ·have : ¬ t' = t:=fun e=>by rw [e,h] at h1; cases h1
  exact ⟨e,k,ty,xs,pins,by rw [av,if_neg this]; exact h1,rfl,fun _ pin hp=>⟨pin,hp,rfl⟩⟩
 ·have : ¬ t' = t:=fun e=>by rw [e,h] at h1; cases h1
  exact ⟨ty,cs,by rw [av,if_neg this]; exact h1⟩
theorem P6 {ty ty':TypeId} {cs cs':List SV} {t:Nat} (h:lkB B t=some (.st ty cs)) : BLe B ((t,some (.st ty' cs'))::B):=by
 refine ⟨fun t' e k ty xs pins h1=>?_,fun t' ty2 cs2 h1=>?_⟩
 ·have : ¬ t' = t:=fun e=>by rw [e,h] at h1; cases h1
  exact ⟨e,k,ty,xs,pins,by rw [av,if_neg this]; exact h1,rfl,fun _ pin hp=>⟨pin,hp,rfl⟩⟩
 ·rw [av]
  split
  ·exact ⟨_,_,rfl⟩
  ·exact ⟨_,_,h1⟩
theorem P7 {e k:Nat} {ty:Ty} {xs xs':List ty.den} {pins pins':List (Nat×Pin)} {t:Nat} (h:lkB B t=some (.rw e k ty xs pins)) (hl:xs'.length=xs.length) (hp:∀ p pin,lkP pins p=some pin→∃ pin',lkP pins' p=some pin'∧pin'.i=pin.i) : BLe B ((t,some (.rw e k ty xs' pins'))::B):=by
 refine ⟨fun t' e2 k2 ty2 xs2 pins2 h1=>?_,fun t' ty2 cs2 h1=>?_⟩
 ·rw [av]
  split
  ·rename_i ht
   subst ht
   rw [h] at h1
   injection h1 with h1
   injection h1 with e1 e2 e3 e4 e5
   subst e3
   have e4:=eq_of_heq e4
   subst e4 e5
   exact ⟨e,k,ty,xs',pins',rfl,hl,hp⟩
  ·exact ⟨e2,k2,ty2,xs2,pins2,h1,rfl,fun _ pin hp=>⟨pin,hp,rfl⟩⟩
 ·have : ¬ t' = t:=fun e=>by rw [e,h] at h1; cases h1
  exact ⟨_,_,by rw [av,if_neg this]; exact h1⟩
def LN (t:Nat) : bc→bc
 | .st ty cs=>.st ty (iY t cs)
 | b=>b
theorem jE (t:Nat) : ∀ (l:List (Nat×Option bc)) (i:Nat),lkB (oz t l) i=(lkB l i).map (LN t)
 | [],_=>rfl
 | (j,none)::l,i=>by simp only [oz,av,jE t l i]; split <;> rfl
 | (j,some (.st ty cs))::l,i=>by simp only [oz,av,jE t l i]; split <;> rfl
 | (j,some (.rw e k ty xs pins))::l,i=>by simp only [oz,av,jE t l i]; split <;> rfl
theorem A7 (t:Nat) : ∀ (l:List (Nat×SV)) (i:Nat),lkV (D2 t l) i=stale t (lkV l i)
 | [],_=>rfl
 | (j,v)::l,i=>by simp only [D2,cT,A7 t l i]; split <;> rfl
theorem mI (t:Nat) : ∀ (cs:List SV) (j:Nat),(iY t cs)[j]? = (cs[j]?).map (stale t)
 | [],j=>by simp [iY]
 | c::cs,0=>by simp [iY]
 | c::cs,j + 1=>by simpa [iY] using mI t cs j
theorem kH (t:Nat) : ∀ cs:List SV,(iY t cs).length=cs.length
 | []=>rfl
 | c::cs=>by simp [iY,kH t cs]
structure VV (t:Nat) (B B':List (Nat×Option bc)) : Prop where
 rw:∀ t',t'≠t→∀ e k ty xs pins,lkB B t' = some (.rw e k ty xs pins)→lkB B' t' = some (.rw e k ty xs pins)
 st:∀ t' ty cs,lkB B t' = some (.st ty cs)→∃ ty' cs',lkB B' t' = some (.st ty' cs')
theorem bj.stale {B':List (Nat×Option bc)} {t:Nat} {v:SV} {q:PV} (h:bj B v q) (hB:VV t B B') : bj B' (stale t v) q:=by
 induction h with
 | junk q=>exact .junk q
 | d c y h=>exact .d c y h
 | ag cs qs hl hr ih =>
  refine .ag _ qs (by rw [kH]; exact hl) (fun j c q h1 h2=>?_)
  rw [mI,zm] at h1
  obtain ⟨c',h3,rfl⟩:=h1
  exact ih j c' q h3 h2
 | tup cs qs hl hr ih =>
  refine .tup _ qs (by rw [kH]; exact hl) (fun j c q h1 h2=>?_)
  rw [mI,zm] at h1
  obtain ⟨c',h3,rfl⟩:=h1
  exact ih j c' q h3 h2
 | ptr t' o ty cs hb=>obtain ⟨ty',cs',h1⟩:=hB.st t' ty cs hb; exact .ptr t' o ty' cs' h1
 | row t' n e k ty xs pins hb hn =>
  simp only [Go.Proofs.YtaknepbdbappdaaGreat.stale,cU]
  by_cases h:t' = t
  ·simp only [h,decide_true]; exact .junk _
  ·simp only [h,decide_false]; exact .row t' n e k ty xs pins (hB.rw t' h _ _ _ _ _ hb) hn
 | re t' p o n i e k ty xs pins pin hb hn hp hi =>
  simp only [Go.Proofs.YtaknepbdbappdaaGreat.stale,cU]
  by_cases h:t' = t
  ·simp only [h,decide_true]; exact .junk _
  ·simp only [h,decide_false]; exact .re t' p o n i e k ty xs pins pin (hB.rw t' h _ _ _ _ _ hb) hn hp hi
 | vw t' lo hi n e k ty xs pins hb hn =>
  simp only [Go.Proofs.YtaknepbdbappdaaGreat.stale,cU]
  by_cases h:t' = t
  ·simp only [h,decide_true]; exact .junk _
  ·simp only [h,decide_false]; exact .vw t' lo hi n e k ty xs pins (hB.rw t' h _ _ _ _ _ hb) hn
 | fe cs ds h hn=>exact .fe cs ds h hn
 | fn f ps qs ps' qs' hl hr hl2 hr2 ih ih2 =>
  refine .fn f _ _ ps' qs' (by rw [kH]; exact hl) (fun j c q h1 h2=>?_) (by rw [kH]; exact hl2) (fun j c q h1 h2=>?_)
  ·rw [mI,zm] at h1
   obtain ⟨c',h3,rfl⟩:=h1
   exact ih j c' q h3 h2
  ·rw [mI,zm] at h1
   obtain ⟨c',h3,rfl⟩:=h1
   exact ih2 j c' q h3 h2
theorem ce.stale {B':List (Nat×Option bc)} {t:Nat} {cs:List SV} {qs:List PV} (h:ce B cs qs) (hB:VV t B B') : ce B' (iY t cs) qs :=
 ⟨by rw [kH]; exact h.len,fun j c q h1 h2=>by
  rw [mI,zm] at h1
  obtain ⟨c',h3,rfl⟩:=h1
  exact (h.rep j c' q h3 h2).stale hB⟩
theorem Wa (hs:Sim s p) {dst:Option Nat} {v:SV} {q:PV} {t e k:Nat} {ty:Ty} {zs xs0:List ty.den} {pins0:List (Nat×Pin)} (h0:lkB s.bx t=some (.rw e k ty xs0 pins0)) (hv:bj ((t,some (.rw e k ty zs []))::oz t s.bx) v q) :
  Sim (s.upd dst v (.grow t (.rw e k ty zs []))) (p.upd dst q (some (t,.rw e k (zs.map (bH ty))))):=by
 have hX:VV t s.bx ((t,some (.rw e k ty zs []))::oz t s.bx):=by
  refine ⟨fun t' ht e2 k2 ty2 xs2 pins2 h=>?_,fun t' ty2 cs2 h=>?_⟩
  ·rw [av,if_neg ht,jE,h]
   rfl
  ·have : ¬ t' = t:=fun e=>by rw [e,h0] at h; cases h
   rw [av,if_neg this,jE,h]
   exact ⟨_,_,rfl⟩
 refine AJ (fun i _=>?_) (fun t'=>?_) hv
 ·rw [A7]
  exact (hs.sl i).stale hX
 ·rw [av]
  simp only [dc]
  split
  ·exact ⟨rfl,fun p pin h=>by cases h⟩
  ·rename_i ht
   rw [jE]
   have h:=hs.bx t'
   cases hb:lkB s.bx t' with
   | none=>rw [hb] at h; exact h
   | some b =>
    rw [hb] at h
    cases b with
    | st ty2 cs=>obtain ⟨qs,h1,h2⟩:=h; exact ⟨qs,h1,h2.stale hX⟩
    | rw e2 k2 ty2 xs2 pins2=>exact h
def kZ:Option bc→Option bc→Prop
 | some (.rw e k ty xs _),b=>∃ pins',b=some (.rw e k ty xs pins')
 | a,b=>b=a
theorem kZ.refl (a:Option bc) : kZ a a:=by
 match a with
 | none=>rfl
 | some (.st _ _)=>rfl
 | some (.rw _ _ _ _ pins)=>exact ⟨pins,rfl⟩
theorem kZ.trans {a b c:Option bc} (h:kZ a b) (h':kZ b c) : kZ a c:=by
 match a,h with
 | none,h=>cases h; exact h'
 | some (.st _ _),h=>cases h; exact h'
 | some (.rw _ _ _ _ _),⟨pins,h⟩ =>
  subst h
  obtain ⟨pins',h'⟩:=h'
  exact ⟨pins',h'⟩
mutual
def lr (pr:List Nat) : SV→Bool
 | .row t=>aF pr t
 | .re _ _ _=>false
 | .vw _ _ _=>false
 | .ag cs=>ei pr cs
 | .tup cs=>ei pr cs
 | .fn _ ps qs=>ei pr ps&&ei pr qs
 | _=>true
def ei (pr:List Nat) : List SV→Bool
 | []=>true
 | c::cs=>lr pr c&&ei pr cs
end
structure dN (sc W:List Nat) (s s':SS) : Prop where
 pr:s'.pr=s.pr
 ro:s'.ro=s.ro
 bx:∀ t,aF s.pr t=true→kZ (lkB s.bx t) (lkB s'.bx t)
 sl:∀ i,aF W i=false→lr s.pr (lkV s.sl i)=true→lkV s'.sl i=lkV s.sl i
 st:∀ t,aF sc t=true→∀ ty cs,lkB s.bx t=some (.st ty cs)→∃ cs',lkB s'.bx t=some (.st ty cs')∧cs'.length=cs.length
variable {sc:List Nat}
theorem dN.refl (W:List Nat) (s:SS) : dN sc W s s:=⟨rfl,rfl,fun _ _=>.refl _,fun _ _ _=>rfl,fun _ _ _ cs h=>⟨cs,h,rfl⟩⟩
theorem dN.trans {W:List Nat} {s s' s'':SS} (h:dN sc W s s') (h':dN sc W s' s'') : dN sc W s s'' :=
 ⟨h'.pr.trans h.pr,h'.ro.trans h.ro,fun t ht=>(h.bx t ht).trans (h'.bx t (by rw [h.pr]; exact ht)),fun i hi hsf=>by
  have e:=h.sl i hi hsf
  rw [h'.sl i hi (by rw [e,h.pr]; exact hsf),e],fun t ht ty cs h1=>by
  obtain ⟨cs1,h2,h3⟩:=h.st t ht ty cs h1
  obtain ⟨cs2,h4,h5⟩:=h'.st t ht ty cs1 h2
  exact ⟨cs2,h4,h5.trans h3⟩⟩
theorem dN.wide {W W':List Nat} {s s':SS} (h:dN sc W s s') (hW:∀ i,aF W i=true→aF W' i=true) : dN sc W' s s' :=
 ⟨h.pr,h.ro,h.bx,fun i hi hsf=>h.sl i (by cases e:aF W i; rfl; rw [hW i e] at hi; cases hi) hsf,h.st⟩
theorem ym {s:SS} {t:Nat} (h:wrB s t=true) : s.ro=false∧aF s.pr t=false:=by
 unfold wrB at h
 split at h
 ·cases h
 ·rename_i h1; exact ⟨h1,by simpa using h⟩
theorem mQ {s:SS} {t:Nat} (h:JW s t=true) : aF s.oc t=false∧aF s.pr t=false:=by
 unfold JW at h
 split at h
 ·cases h
 ·rename_i h1; exact ⟨h1,by simpa using h⟩
def OkU (s:SS) : Upd→Prop
 | .no=>True
 | .new t _=>aF s.pr t=false∧lkB s.bx t=none
 | .set t b=>aF s.pr t=false∧∀ ty cs,lkB s.bx t=some (.st ty cs)→∃ cs',b = .st ty cs'∧cs'.length=cs.length
 | .grow t _=>aF s.pr t=false∧∀ ty cs,lkB s.bx t≠some (.st ty cs)
 | .pin t b=>kZ (lkB s.bx t) (some b)
def OkW (s:SS) (dst:Option Nat) (u:Upd) (w:Option (Nat×Box)) : Prop:=∀ t b,w=some (t,b)→((lkB s.bx t=none∧dst=some t)∨s.ro=false)∧fL.memL (V4 u) t=true
theorem dF {s:SS} {dst:Option Nat} {u:Upd} : OkW s dst u none:=fun _ _ h=>by cases h
theorem EB (t:Nat) : fL.memL [t] t=true:=by rw [A4]; simp
theorem yK {s:SS} {dst:Option Nat} {t:Nat} {b:Box} {sb:bc} (h:lkB s.bx t=none) (hd:dst=some t) : OkW s dst (.new t sb) (some (t,b)):=fun t' b' e=>by injection e with e; injection e with e1 e2; subst e1; exact ⟨.inl ⟨h,hd⟩,EB t⟩
theorem Pu {s:SS} {dst:Option Nat} {t:Nat} {b:Box} {sb:bc} (h:s.ro=false) : OkW s dst (.set t sb) (some (t,b)):=fun t' b' e=>by injection e with e; injection e with e1 e2; subst e1; exact ⟨.inr h,EB t⟩
theorem aar {s:SS} {dst:Option Nat} {t:Nat} {b:Box} {sb:bc} (h:s.ro=false) : OkW s dst (.grow t sb) (some (t,b)):=fun t' b' e=>by injection e with e; injection e with e1 e2; subst e1; exact ⟨.inr h,EB t⟩
theorem Ex {pr:List Nat} {t t':Nat} (ht:aF pr t=false) (h:aF pr t' = true) : ¬ t' = t:=fun e=>by rw [e,ht] at h; cases h
mutual
theorem D1 {pr:List Nat} {t:Nat} (ht:aF pr t=false) : ∀ v:SV,lr pr v=true→stale t v=v
 | .junk,_=>rfl
 | .d _,_=>rfl
 | .fe _,_=>rfl
 | .ptr _ _,_=>rfl
 | .row t',h=>by
  have:=Ex ht (show aF pr t' = true from h)
  simp only [stale,cU,this,decide_false]
 | .re _ _ _,h=>by cases h
 | .vw _ _ _,h=>by cases h
 | .ag cs,h=>by simp only [stale]; rw [nW ht cs h]
 | .tup cs,h=>by simp only [stale]; rw [nW ht cs h]
 | .fn f ps qs,h=>by
  have h:(ei pr ps&&ei pr qs)=true:=h
  rw [Bool.and_eq_true] at h
  simp only [stale]; rw [nW ht ps h.1,nW ht qs h.2]
theorem nW {pr:List Nat} {t:Nat} (ht:aF pr t=false) : ∀ cs:List SV,ei pr cs=true→iY t cs=cs
 | [],_=>rfl
 | c::cs,h=>by
  simp only [ei,Bool.and_eq_true] at h
  simp only [iY]
  rw [D1 ht c h.1,nW ht cs h.2]
end
mutual
theorem LM {t:Nat} : ∀ v:SV,pO v=true→stale t v=v
 | .junk,_=>rfl
 | .d _,_=>rfl
 | .fe _,_=>rfl
 | .ptr _ _,_=>rfl
 | .row _,h=>by cases h
 | .re _ _ _,h=>by cases h
 | .vw _ _ _,h=>by cases h
 | .ag cs,h=>by simp only [stale]; rw [jD cs h]
 | .tup cs,h=>by simp only [stale]; rw [jD cs h]
 | .fn f ps qs,h=>by
  have h:(match cy ps with | true=>cy qs | false=>false)=true:=h
  split at h
  ·rename_i h1; simp only [stale]; rw [jD ps h1,jD qs h]
  ·cases h
theorem jD {t:Nat} : ∀ cs:List SV,cy cs=true→iY t cs=cs
 | [],_=>rfl
 | c::cs,h=>by
  simp only [cy] at h
  split at h
  ·rename_i h1
   simp only [iY]
   rw [LM c h1,jD cs h]
  ·cases h
end
def mp (s:SS) : Prop:=∀ t,aF s.pr t=true→∃ b,lkB s.bx t=some b∧yF b=true
theorem dN.prOk {W:List Nat} {s s':SS} (h:dN sc W s s') (hp:mp s) : mp s':=by
 intro t ht
 rw [h.pr] at ht
 obtain ⟨b,h1,h2⟩:=hp t ht
 have:=h.bx t ht
 rw [h1] at this
 cases b with
 | st ty cs=>exact ⟨_,this,h2⟩
 | rw e k ty xs pins =>
  obtain ⟨pins',h3⟩:=this
  exact ⟨_,h3,rfl⟩
theorem yS {W:List Nat} {dst:Option Nat} {v:SV} {u:Upd} (hu:OkU s u) (hW:∀ d,dst=some d→aF W d=true) (hpr:mp s) : dN sc W s (s.upd dst v u):=by
 have sl:∀ i,aF W i=false→lkV (sY s.sl dst v) i=lkV s.sl i:=fun i hi=>by
  rw [vK,if_neg (fun e=>by rw [hW i e] at hi; cases hi)]
 have one:∀ t b,aF s.pr t=false→∀ t',aF s.pr t' = true→kZ (lkB s.bx t') (lkB ((t,some b)::s.bx) t'):=fun t b ht t' ht'=>by
  rw [av,if_neg (fun e=>by rw [e,ht] at ht'; cases ht')]
  exact .refl _
 cases u with
 | no=>exact ⟨rfl,rfl,fun _ _=>.refl _,fun i hi _=>sl i hi,fun _ _ _ cs h=>⟨cs,h,rfl⟩⟩
 | new t b =>
  refine ⟨rfl,rfl,one t b hu.1,fun i hi _=>sl i hi,fun t' _ ty cs h=>⟨cs,?_,rfl⟩⟩
  show lkB ((t,some b)::s.bx) t' = _
  rw [av,if_neg (fun e=>by rw [e,hu.2] at h; cases h)]
  exact h
 | set t b =>
  refine ⟨rfl,rfl,one t b hu.1,fun i hi _=>sl i hi,fun t' _ ty cs h=>?_⟩
  show ∃ cs',lkB ((t,some b)::s.bx) t' = _∧_
  rw [av]
  by_cases e:t' = t
  ·rw [if_pos e]
   rw [e] at h
   obtain ⟨cs',h1,h2⟩:=hu.2 ty cs h
   exact ⟨cs',by rw [h1],h2⟩
  ·rw [if_neg e]; exact ⟨cs,h,rfl⟩
 | pin t b =>
  refine ⟨rfl,rfl,fun t' _=>?_,fun i hi _=>sl i hi,fun t' _ ty cs h=>?_⟩
  ·show kZ _ (lkB ((t,some b)::s.bx) t')
   rw [av]
   split
   ·rename_i e; subst e; exact hu
   ·exact .refl _
  ·show ∃ cs',lkB ((t,some b)::s.bx) t' = _∧_
   rw [av]
   by_cases e:t' = t
   ·rw [if_pos e]
    have hu:kZ (lkB s.bx t) (some b):=hu
    rw [← e,h] at hu
    exact ⟨cs,hu,rfl⟩
   ·rw [if_neg e]; exact ⟨cs,h,rfl⟩
 | grow t b =>
  refine ⟨rfl,rfl,fun t' ht'=>?_,fun i hi hsf=>?_,fun t' _ ty cs h=>?_⟩
  ·show kZ _ (lkB ((t,some b)::oz t s.bx) t')
   rw [av,if_neg (fun e=>by rw [e,hu.1] at ht'; cases ht'),jE]
   obtain ⟨b',h1,h2⟩:=hpr t' ht'
   rw [h1]
   cases b' with
   | st ty cs=>simp only [Option.map_some,LN]; rw [jD cs h2]; rfl
   | rw e k ty xs pins=>exact ⟨pins,rfl⟩
  ·show lkV (sY (D2 t s.sl) dst v) i = _
   rw [vK,if_neg (fun e=>by rw [hW i e] at hi; cases hi),A7]
   exact D1 hu.1 _ hsf
  ·show ∃ cs',lkB ((t,some b)::oz t s.bx) t' = _∧_
   rw [av,if_neg (fun e=>hu.2 ty cs (by rw [← e]; exact h)),jE,h]
   exact ⟨_,rfl,kH t cs⟩
end
section
variable {B:List (Nat×Option bc)} {s:SS} {p:PS} {P:Program} {ρ : Type}
theorem I1 {v:Value} {c:SD} (h:I2 v=some c) : Ly c (.v v)∧v.oneCell' = true:=by
 unfold I2 at h
 split at h
 ·injection h with h; subst h; exact ⟨rfl,rfl⟩
 ·injection h with h; subst h; exact ⟨rfl,rfl⟩
 ·injection h with h; subst h; exact ⟨rfl,rfl⟩
 ·injection h with h; subst h; exact ⟨rfl,rfl⟩
 ·cases h
theorem xP {B:List (Nat×Option bc)} : ∀ {l:List Value} {cs:List SV},FO l=some cs→ce B cs (l.map fun x=>.d (.v x))∧∀ x∈l,x.oneCell' = true
 | [],cs,h=>by injection h with h; subst h; exact ⟨.nil,fun x hx=>by cases hx⟩
 | v::l,cs,h=>by
  simp only [FO] at h
  split at h
  ·rename_i c cs' h1 h2
   injection h with h
   subst h
   obtain ⟨k1,k2⟩:=I1 h1
   obtain ⟨k3,k4⟩:=xP h2
   refine ⟨.cons (.d _ _ k1) k3,fun x hx=>?_⟩
   rcases List.mem_cons.1 hx with rfl | hx
   ·exact k2
   ·exact k4 x hx
  ·cases h
theorem Y6 {v:Value} (e:Ev v = .d (.v v)) : bj B (match I2 v with | some c=>.d c | none=>.junk) (Ev v):=by
 split
 ·rename_i c h
  rw [e]
  exact .d _ _ (I1 h).1
 ·exact .junk _
theorem FG (v:Value) : bj B (Ko v) (Ev v):=by
 have key:=Y6 (B:=B) (v:=v)
 cases v with
 | agg xs =>
  simp only [Ko]
  split
  ·rename_i cs h
   obtain ⟨h1,h2⟩:=xP (B:=B) h
   have:xs.all (·.oneCell')=true:=by
    rw [← Array.all_toList,List.all_eq_true]
    exact h2
   simp only [Ev,this,if_true]
   exact .ag _ _ h1.len h1.rep
  ·exact .junk _
 | tuple xs=>exact .junk _
 | _=>exact key rfl
theorem bW (hs:Sim s p) (x:Operand) : bj s.bx (evX s x) (ev p x):=by
 cases x with
 | tmp i=>exact hs.sl i
 | const v=>exact FG v
 | global g=>exact .junk _
 | func f=>exact .fn f [] [] [] [] rfl (fun j c q h=>by simp at h) rfl (fun j c q h=>by simp at h)
theorem jY {k:IntKind} {x:Int} {q:PV} (h:bj B (.d (.int k x)) q) : q = .d (.v (.int k x)):=by
 cases h with
 | d c y h=>rw [WL (show nrm y = .v _ from h)]
theorem ld {x:Bool} {q:PV} (h:bj B (.d (.bool x)) q) : q = .d (.v (.bool x)):=by
 cases h with
 | d c y h=>rw [WL (show nrm y = .v _ from h)]
theorem rl {x:ByteArray} {q:PV} (h:bj B (.d (.str x)) q) : q = .d (.v (.string x)):=by
 cases h with
 | d c y h=>rw [WL (show nrm y = .v _ from h)]
theorem R4 {q:PV} (h:bj B (.d .nl) q) : q = .d (.v (.slice none 0 0)):=by
 cases h with
 | d c y h=>rw [show y = .v (.slice none 0 0) from h]
theorem R3 {ty:Ty} {xs:List ty.den} {q:PV} (h:bj B (.d (.sl ty xs)) q) : q = .d (.sl (xs.map (bH ty)))∨(xs = []∧q = .d (.v (.slice none 0 0))):=by
 cases h with
 | d c y h =>
  rcases aat (show nrm y = .sl _ from h) with h | ⟨h1,h2⟩
  ·rw [h]; exact .inl rfl
  ·rw [h2]; exact .inr ⟨by simpa using h1,rfl⟩
theorem DQ {cs:List SV} {q:PV} (h:bj B (.ag cs) q) : ∃ qs,q = .ag qs∧ce B cs qs:=by
 cases h with
 | ag _ qs hl hr=>exact ⟨qs,rfl,hl,hr⟩
theorem VY {cs:List SV} {q:PV} (h:bj B (.tup cs) q) : ∃ qs,q = .tup qs∧ce B cs qs:=by
 cases h with
 | tup _ qs hl hr=>exact ⟨qs,rfl,hl,hr⟩
theorem fW (k:IntKind) (x:Int) : bj B (.d (.int k x)) (.d (.v (.int k x))):=.d _ _ rfl
theorem fc (x:Bool) : bj B (.d (.bool x)) (.d (.v (.bool x))):=.d _ _ rfl
theorem wI (x:ByteArray) : bj B (.d (.str x)) (.d (.v (.string x))):=.d _ _ rfl
theorem OQ (ty:Ty) (xs:List ty.den) : bj B (.d (.sl ty xs)) (.d (.sl (xs.map (bH ty)))):=.d _ _ rfl
theorem JI (hs:Sim s p) {t:Nat} {q:PV} {c:SD} (hv:bj s.bx (.row t) q) (h:YN s t=some c) : ∃ e k ty xs pins,lkB s.bx t=some (.rw e k ty xs pins)∧c = .sl ty xs∧q = .row t xs.length∧p.b t=some (.rw e k (xs.map (bH ty))):=by
 unfold YN at h
 split at h
 ·rename_i e k ty xs pins hb
  injection h with h
  have hbx:=hs.bx t
  rw [hb] at hbx
  cases hv with
  | row _ n e2 k2 ty2 xs2 pins2 hb2 hn =>
   rw [hb] at hb2
   injection hb2 with hb2
   injection hb2 with e1 e2 e3 e4 e5
   subst e3
   have e4:=eq_of_heq e4
   subst e4
   exact ⟨e,k,ty,xs,pins,hb,h.symm,by rw [hn],hbx.1⟩
 ·cases h
theorem Km (hs:Sim s p) {v:SV} {q:PV} {ty:Ty} {xs:List ty.den} (hv:bj s.bx v q) (h:sA s v=some (.sl ty xs)) : lc p.b q=some (xs.map (bH ty)):=by
 unfold sA at h
 split at h
 ·injection h with h
  subst h
  rcases R3 hv with rfl | ⟨rfl,rfl⟩
  ·rfl
  ·simp [lc]
 ·obtain ⟨e,k,ty2,xs2,pins,h1,h2,rfl,h4⟩:=JI hs hv h
  injection h2 with e1 e2
  subst e1
  have e2:=eq_of_heq e2
  subst e2
  simp [lc,h4]
 ·cases h
theorem ZA {v:SV} {q:PV} (hv:bj s.bx v q) (h:sA s v=some .nl) : q = .d (.v (.slice none 0 0)):=by
 unfold sA at h
 split at h
 ·injection h with h
  subst h
  exact R4 hv
 ·unfold YN at h
  split at h
  ·injection h with h; cases h
  ·cases h
 ·cases h
theorem XA (hs:Sim s p) {v:SV} {q:PV} {c:SD} (hv:bj s.bx v q) (h:sA s v=some c) : asData p.b q = .d c.toD∧(pO v=true→clean q=true∧asData eb q = .d c.toD):=by
 unfold sA at h
 split at h
 ·injection h with h
  subst h
  cases hv with
  | d c y h=>simp only [asData,h.nrm,clean,and_self,implies_true]
 ·obtain ⟨e,k,ty2,xs2,pins,h1,rfl,rfl,h4⟩:=JI hs hv h
  refine ⟨by simp [asData,h4,SD.toD],fun h=>by simp [pO] at h⟩
 ·cases h
theorem Tc (hs:Sim s p) : ∀ {cs:List SV} {qs:List PV} {ds:List SD},ce s.bx cs qs→Kl s cs=some ds→bO p.b qs=ds.map (fun c=>.d c.toD)∧(cy cs=true→cK qs=true∧bO eb qs=ds.map (fun c=>.d c.toD))
 | [],qs,ds,h,hd=>by
  rcases h.cases with ⟨_,rfl⟩ | ⟨_,_,_,_,h1,_⟩
  ·injection hd with hd; subst hd; simp [bO,cK]
  ·cases h1
 | c::cs,qs,ds,h,hd=>by
  rcases h.cases with ⟨h1,_⟩ | ⟨c',q,cs',qs',h1,rfl,h2,h3⟩
  ·cases h1
  ·injection h1 with e1 e2
   subst e1 e2
   simp only [Kl] at hd
   split at hd
   ·rename_i d ds' k1 k2
    injection hd with hd
    subst hd
    obtain ⟨m1,m2⟩:=XA hs h2 k1
    obtain ⟨m3,m4⟩:=Tc hs h3 k2
    refine ⟨by simp [bO,m1,m3],fun hn=>?_⟩
    simp only [cy] at hn
    split at hn
    ·rename_i hn1
     obtain ⟨n1,n2⟩:=m2 hn1
     obtain ⟨n3,n4⟩:=m4 hn
     simp [bO,cK,n1,n2,n3,n4]
    ·cases hn
   ·cases hd
theorem Bs {v:SV} {q:PV} {cs:List SV} (hv:bj B v q) (h:Kx v=some cs) : ∃ qs,Bt q=some qs∧ce B cs qs:=by
 cases hv with
 | junk q=>cases h
 | tup=>cases h
 | ag cs' qs hl hr=>injection h with h; subst h; exact ⟨qs,rfl,hl,hr⟩
 | d c y hd=>injection h with h; subst h; exact ⟨_,rfl,.cons (.d c y hd) .nil⟩
 | ptr t o ty cs' hb=>injection h with h; subst h; exact ⟨_,rfl,.cons (.ptr t o ty cs' hb) .nil⟩
 | row t n e k ty xs pins hb hn=>injection h with h; subst h; exact ⟨_,rfl,.cons (.row t n e k ty xs pins hb hn) .nil⟩
 | re t p o n i e k ty xs pins pin hb hn hp hi=>injection h with h; subst h; exact ⟨_,rfl,.cons (.re t p o n i e k ty xs pins pin hb hn hp hi) .nil⟩
 | vw t lo hi n e k ty xs pins hb hn=>injection h with h; subst h; exact ⟨_,rfl,.cons (.vw t lo hi n e k ty xs pins hb hn) .nil⟩
 | fe cs' ds hd hn=>injection h with h; subst h; exact ⟨_,rfl,.cons (.fe cs' ds hd hn) .nil⟩
 | fn f ps qs ps' qs' hl hr hl2 hr2=>injection h with h; subst h; exact ⟨_,rfl,.cons (.fn f ps qs ps' qs' hl hr hl2 hr2) .nil⟩
theorem Mc {cs:List SV} {qs:List PV} (h:ce B cs qs) {size:Nat} {agg:Bool} {v:SV} (hp:Sn size agg cs=some v) : ∃ q,B8 size agg qs=some q∧bj B v q:=by
 unfold Sn at hp
 unfold B8
 split at hp
 ·rename_i ha
  rw [if_pos ha]
  split at hp
  ·rename_i hl
   injection hp with hp
   subst hp
   rw [h.len] at hl
   rw [if_pos hl]
   have:=h.take size
   exact ⟨_,rfl,.ag _ _ this.len this.rep⟩
  ·cases hp
 ·rename_i ha
  rw [if_neg ha]
  rcases h.cases with ⟨rfl,rfl⟩ | ⟨c,q,cs',qs',rfl,rfl,h1,h2⟩
  ·cases hp
  ·injection hp with hp; subst hp; exact ⟨q,rfl,h1⟩
theorem EE (cs:List SD) (h:∀ c∈cs,c≠.nl) : ce B (A6 cs) ((cs.map SD.toD).map .d):=by
 induction cs with
 | nil=>exact .nil
 | cons c cs ih=>exact .cons (.d _ _ (Ly.of (h c List.mem_cons_self))) (ih fun c hc=>h c (List.mem_cons_of_mem _ hc))
end
section
variable {B:List (Nat×Option bc)} {s:SS} {p:PS} {P:Program} {ρ : Type}
def yl (s:SS) (k:SV→Option ρ) (res : ρ) (e:Option PV) : Prop:=∃ v q,e=some q∧k v=some res∧bj s.bx v q
theorem dr {k:SV→Option ρ} {res : ρ} {e:Option PV} {v:SV} {q:PV} (he:e=some q) (hk:k v=some res) (hv:bj s.bx v q) : yl s k res e:=⟨v,q,he,hk,hv⟩
theorem WW {x:Operand} {n:Int} {kd:IntKind} {y:Int} (h:W5 x=some n) (hy:evX s x = .d (.int kd y)) : y=n:=by
 unfold W5 at h
 split at h
 ·injection h with h
  subst h
  simp only [evX,Ko,I2] at hy
  injection hy with hy
  injection hy with _ hy
  exact hy.symm
 ·cases h
theorem UH {op:BinOp} {kd:IntKind} {lit:Option Int} {x y:Int} {k:SV→Option ρ} {res : ρ} (hl:∀ n,lit=some n→y=n) (h:P8 op kd lit x y k=some res) : yl s k res (za op kd x y):=by
 cases op <;> simp only [P8] at h
 case add=>exact dr rfl h (fW _ _)
 case sub=>exact dr rfl h (fW _ _)
 case mul=>exact dr rfl h (fW _ _)
 case quo =>
  split at h
  ·rename_i n
   obtain ⟨h1,h2⟩:=aq h
   have hy:=hl n rfl
   subst hy
   have : ¬ y=0:=by simpa using h1
   exact dr (by simp [za,this]) h2 (fW _ _)
  ·obtain ⟨q,h1,h2⟩:=bindS h
   split at h1
   ·cases h1
   ·rename_i hy
    injection h1 with h1
    subst h1
    exact dr (by simp [za,hy]) h2 (fW _ _)
 case rem =>
  split at h
  ·rename_i n
   obtain ⟨h1,h2⟩:=aq h
   have hy:=hl n rfl
   subst hy
   have : ¬ y=0:=by simpa using h1
   exact dr (by simp [za,this]) h2 (fW _ _)
  ·obtain ⟨q,h1,h2⟩:=bindS h
   unfold CU at h1
   split at h1
   ·cases h1
   ·rename_i hy
    injection h1 with h1
    subst h1
    exact dr (by simp [za,hy]) h2 (fW _ _)
 case eql=>exact dr rfl h (fc _)
 case neq=>exact dr rfl h (fc _)
 case lss=>exact dr rfl h (fc _)
 case leq=>exact dr rfl h (fc _)
 case gtr=>exact dr rfl h (fc _)
 case geq=>exact dr rfl h (fc _)
 case and=>exact dr rfl h (fW _ _)
 case or=>exact dr rfl h (fW _ _)
 case xor=>exact dr rfl h (fW _ _)
 all_goals cases h
theorem TA {op:BinOp} {kd:IntKind} {lit:Option Int} {x y:Int} {k:SV→Option ρ} {res : ρ} (hl:∀ n,lit=some n→y=n) (h:O6 op kd lit x y k=some res) : yl s k res (s6 op kd x y):=by
 unfold O6 at h
 split at h
 ·rename_i n
  obtain ⟨h1,h2⟩:=aq h
  have hy:=hl n rfl
  subst hy
  have : ¬ y < 0:=by have:=zd h1; omega
  split at h2
  ·exact dr (by simp [s6,this]) h2 (fW _ _)
  ·exact dr (by simp [s6,this]) h2 (fW _ _)
  ·cases h2
 ·obtain ⟨u,h1,h2⟩:=bindS h
  split at h1
  ·cases h1
  ·rename_i hy
   split at h2
   ·exact dr (by simp [s6,hy]) h2 (fW _ _)
   ·exact dr (by simp [s6,hy]) h2 (fW _ _)
   ·cases h2
theorem Tt {op:BinOp} {x y:ByteArray} {k:SV→Option ρ} {res : ρ} (h:OZ op x y k=some res) : yl s k res (LK op x y):=by
 cases op <;> simp only [OZ] at h
 case add =>
  obtain ⟨z,h1,h2⟩:=bindS h
  unfold mA at h1
  split at h1
  ·rename_i hz
   injection h1 with h1
   subst h1
   exact dr (by simp only [LK,hz,if_true]) h2 (wI _)
  ·cases h1
 case eql=>exact dr rfl h (fc _)
 case neq=>exact dr rfl h (fc _)
 case lss=>exact dr rfl h (fc _)
 case leq=>exact dr rfl h (fc _)
 case gtr=>exact dr rfl h (fc _)
 case geq=>exact dr rfl h (fc _)
 all_goals cases h
theorem OS {op:BinOp} {x y:Bool} {k:SV→Option ρ} {res : ρ} (h:Jw op x y k=some res) : yl s k res (rm op x y):=by
 cases op <;> simp only [Jw] at h
 case eql=>exact dr rfl h (fc _)
 case neq=>exact dr rfl h (fc _)
 all_goals cases h
theorem IH:∀ {l m:List Nat},Ka l m=true→l=m
 | [],[],_=>rfl
 | [],_ :: _,h=>by cases h
 | _ :: _,[],h=>by cases h
 | a::l,b::m,h=>by
  simp only [Ka,cU] at h
  by_cases e:a=b
  ·simp only [e,decide_true] at h; rw [e,IH h]
  ·simp only [e,decide_false] at h; cases h
theorem II {c d:SD} {q w:PV} {n:Nat} {r:Bool} (hc:bj B (.d c) q) (hd:bj B (.d d) w) (hn:Pz (.d c)=some n) (h:th c d=some r) : Bj n q w=some r:=by
 cases c with
 | int k a =>
  cases d <;> simp only [th] at h <;> try cases h
  rw [jY hc,jY hd]
  injection hn with hn
  subst hn
  exact h
 | bool a =>
  cases d <;> simp only [th] at h <;> try cases h
  rw [ld hc,ld hd]
  injection hn with hn
  subst hn
  rfl
 | str a =>
  cases d <;> simp only [th] at h <;> try cases h
  rw [rl hc,rl hd]
  injection hn with hn
  subst hn
  rfl
 | sl t xs=>cases hn
 | nl=>cases hn
theorem Zl:∀ {cs ds:List SV} {qs ws:List PV} {l:List Nat} {r:Bool},ce B cs qs→ce B ds ws→Du cs=some l→Ck cs ds=some r→kh l qs ws=some r:=by
 intro cs
 induction cs with
 | nil=>intro ds qs ws l r _ _ _ h; cases ds <;> simp [Ck] at h
 | cons c cs ih =>
  intro ds qs ws l r hc hd hl h
  rcases hc.cases with ⟨h1,_⟩ | ⟨c',q,cs',qs',h1,rfl,hcq,hcs⟩
  ·cases h1
  injection h1 with e1 e2
  subst e1 e2
  rcases hd.cases with ⟨rfl,_⟩ | ⟨d,w,ds',ws',rfl,rfl,hdw,hds⟩
  ·cases c <;> cases cs <;> simp [Ck] at h
  simp only [Du] at hl
  split at hl
  ·rename_i n l' hn hl'
   injection hl with hl
   subst hl
   cases c with
   | d c =>
    cases d with
    | d d =>
     by_cases hlast:cs = []∧ds' = []
     ·obtain ⟨rfl,rfl⟩:=hlast
      simp only [Ck] at h
      have:=II hcq hdw hn h
      rcases hcs.cases with ⟨_,rfl⟩ | ⟨_,_,_,_,h1,_⟩
      ·rcases hds.cases with ⟨_,rfl⟩ | ⟨_,_,_,_,h1,_⟩
       ·injection hl' with hl'
        subst hl'
        simp [kh,this]
       ·cases h1
      ·cases h1
     ·have h:(match th c d,Ck cs ds' with | some a,some r=>some (a&&r) | _,_=>none)=some r:=by
       cases cs with
       | nil=>cases ds' with
        | nil=>exact absurd ⟨rfl,rfl⟩ hlast
        | cons=>exact h
       | cons=>exact h
      split at h
      ·rename_i a r' k1 k2
       injection h with h
       subst h
       simp [kh,II hcq hdw hn k1,ih hcs hds hl' k2]
      ·cases h
    | _=>cases cs <;> simp [Ck] at h
   | _=>simp [Pz] at hn
  ·cases hl
theorem ZH {op:BinOp} {t:TypeId} {lit:Option Int} {v w:SV} {q r:PV} {k:SV→Option ρ} {res : ρ} (hv:bj s.bx v q) (hw:bj s.bx w r) (hl:∀ n kd y,lit=some n→w = .d (.int kd y)→y=n) (h:aaM P op t lit v w k=some res) : yl s k res (tr P op t q r):=by
 unfold aaM at h
 split at h
 ·rename_i kd x kd' y
  obtain rfl:=jY hv
  obtain rfl:=jY hw
  have e:tr P op t (.d (.v (.int kd x))) (.d (.v (.int kd' y)))=if J3 op then s6 op kd x y else if kd=kd' then za op kd x y else none:=rfl
  rw [e]
  split at h
  ·rename_i hs
   rw [if_pos hs]
   exact TA (fun n hn=>hl n kd' y hn rfl) h
  ·rename_i hs
   rw [if_neg (by simp [hs])]
   split at h
   ·rename_i hk
    rw [if_pos hk]
    exact UH (fun n hn=>hl n kd' y hn rfl) h
   ·cases h
 ·obtain rfl:=rl hv
  obtain rfl:=rl hw
  exact Tt h
 ·obtain rfl:=ld hv
  obtain rfl:=ld hw
  split at h
  ·rename_i hu
   rename_i x y _
   have e:tr P op t (.d (.v (.bool x))) (.d (.v (.bool y)))=rm op x y:=by simp [tr,asI,asS,asB,hu]
   rw [e]
   exact OS h
  ·cases h
 ·rename_i xs ys
  obtain ⟨qs,rfl,hq⟩:=DQ hv
  obtain ⟨ws,rfl,hws⟩:=DQ hw
  split at h
  ·rename_i l l' r h1 h2 h3
   obtain ⟨h4,h5⟩:=aq h
   obtain rfl:=IH h4
   have h6:=Zl hq hws h2 h3
   have e:tr P op t (.ag qs) (.ag ws)=rm op r true:=by simp [tr,asI,asS,asB,Kf,h1,h6]
   rw [e]
   split at h5
   ·exact dr (by simp [rm]) h5 (fc _)
   ·exact dr (by simp [rm]) h5 (fc _)
   ·cases h5
  ·cases h
 ·cases h
theorem aae {op:UnOp} {v:SV} {q:PV} {k:SV→Option ρ} {res : ρ} (hv:bj s.bx v q) (h:unX op v k=some res) : yl s k res (S3 op q):=by
 unfold unX at h
 split at h
 ·obtain rfl:=ld hv; exact dr rfl h (fc _)
 ·obtain rfl:=jY hv; exact dr rfl h (fW _ _)
 ·cases h
theorem Cn:∀ (xs:List Int) (acc:ByteArray),vP (List.map (bH (.int .u8)) xs) acc=some (xs.foldl (fun r n=>r.push (UInt8.ofNat n.toNat)) acc)
 | [],acc=>rfl
 | x::xs,acc=>Cn xs (acc.push (UInt8.ofNat x.toNat))
theorem Fv {b:Nat→Option Box} {src dst e:TypeId} {q:PV} {x:Int} {xs:List Int} (h1:P.underlying src=some (.slice e)) (h2:P.underlying dst=some .string) (h3:P.underlying e=some (.int .u8)) (h4:lc b q=some (List.map (bH (.int .u8)) (x::xs))) :
  iz P b src dst q=(vP (List.map (bH (.int .u8)) (x::xs)) ByteArray.empty).map fun s=>.d (.v (.string s)):=by
 unfold iz
 rw [h1,h2]
 simp only [h3,h4]
 rfl
theorem Ft {b:Nat→Option Box} {src dst:TypeId} {q:PV} {u:TypeDesc} (h1:P.underlying src=some u) (hne:∀ e,u = .slice e→False) : iz P b src dst q=tp P src dst q:=by
 unfold iz
 split
 ·rename_i e h3 h4
  rw [h1] at h3
  injection h3 with h3
  exact absurd h3 (hne e)
 ·rfl
theorem XG (hs:Sim s p) {src dst:TypeId} {v:SV} {q:PV} {k:SV→Option ρ} {res : ρ} (hv:bj s.bx v q) (h:XH P s src dst v k=some res) : yl s k res (iz P p.b src dst q):=by
 unfold XH at h
 split at h
 ·cases h
 ·rename_i e h1
  split at h
  ·rename_i h2
   split at h
   ·rename_i xs h3 h4
    obtain ⟨z,h5,h6⟩:=bindS h
    have h7:=Km hs hv h4
    unfold YM at h5
    split at h5
    ·cases h5
    ·rename_i hne
     injection h5 with h5
     cases xs with
     | nil=>exact absurd rfl hne
     | cons x xs =>
      refine dr ?_ h6 (wI _)
      rw [Fv h1 h2 h3 h7]
      exact congrArg (Option.map _) ((Cn _ _).trans (congrArg some h5))
   ·cases h
  ·cases h
 ·rename_i u hne h1
  rw [show iz P p.b src dst q=tp P src dst q from Ft h1 (fun e he=>hne e he)]
  split at h
  ·rename_i h2
   obtain rfl:=jY hv
   exact dr (by simp [tp,h1,h2,asI]) h (fW _ _)
  ·rename_i h2
   obtain rfl:=rl hv
   exact dr (by simp [tp,h1,h2,asS]) h (wI _)
  ·cases h
theorem G8 {t:TypeId} {f:Nat} {v:SV} {q:PV} {k:SV→Option ρ} {res : ρ} (hv:bj s.bx v q) (h:xI P t v f k=some res) : yl s k res (hJ P t q f):=by
 unfold xI at h
 split at h
 ·rename_i off size agg hf
  obtain ⟨h1,h2⟩:=aq h
  have hsz : ¬ size=0:=by simpa using h1
  split at h2
  ·cases hv with
   | ptr _ _ ty cs hb=>exact dr (by simp [hJ,hf,hsz]) h2 (.ptr _ _ ty cs hb)
  ·cases hv with
   | fe cs ds hd hn=>exact dr (q:=.fe (ds.drop off)) (by simp [hJ,hf,hsz]) h2 (.fe _ _ (by rw [hd,List.map_drop]) (fun c hc=>hn c (List.mem_of_mem_drop hc)))
  ·cases hv with
   | re _ _ _ n i e k ty xs pins pin hb hn hp hi=>exact dr (q:=.re _ n i (_ + off)) (by simp [hJ,hf,hsz]) h2 (.re _ _ _ n i e k ty xs pins pin hb hn hp hi)
  ·cases h2
 ·cases h
theorem Y9 {v:SV} {q:PV} {k:SV→Option ρ} {res : ρ} (hv:bj s.bx v q) (h:aav v k=some res) : yl s k res (xK q):=by
 unfold aav at h
 split at h
 ·cases hv with
  | ptr _ _ ty cs hb=>exact dr (by simp [xK]) h (.ptr _ _ ty cs hb)
 ·cases hv with
  | re _ _ _ n i e k ty xs pins pin hb hn hp hi=>exact dr (q:=.re _ n i _) (by simp [xK]) h (.re _ _ _ n i e k ty xs pins pin hb hn hp hi)
 ·cases hv with
  | fe cs ds hd hn=>exact dr (q:=.fe ds) (by simp [xK]) h (.fe _ _ hd hn)
 ·cases h
theorem Um {t:TypeId} {f:Nat} {v:SV} {q:PV} {k:SV→Option ρ} {res : ρ} (hv:bj s.bx v q) (h:PQ P t v f k=some res) : yl s k res (uT P t q f):=by
 unfold PQ at h
 split at h
 ·rename_i off size agg cs hf
  obtain ⟨qs,rfl,hq⟩:=DQ hv
  split at h
  ·rename_i v' h1
   obtain ⟨q',h2,h3⟩:=Mc (hq.drop off) h1
   exact dr (by simp [uT,hf,h2]) h h3
  ·cases h
 ·cases h
theorem XX (hs:Sim s p) {v:SV} {q:PV} {cs:List SV} (hv:bj s.bx v q) (h:XY s v=some cs) : ∃ qs,u4 p.b q=some qs∧ce s.bx cs qs:=by
 unfold XY at h
 split at h
 ·rename_i t off
  cases hv
  split at h
  ·rename_i ty cs' hb
   injection h with h
   subst h
   have:=hs.bx t
   rw [hb] at this
   obtain ⟨qs,h1,h2⟩:=this
   exact ⟨qs.drop off,by simp [u4,h1],h2.drop off⟩
  ·cases h
 ·injection h with h
  subst h
  cases hv with
  | fe _ ds hd hn=>exact ⟨_,rfl,by rw [hd]; exact EE _ hn⟩
 ·rename_i t pi off
  split at h
  ·rename_i e k ty xs pins hb
   split at h
   ·rename_i j cs' hp
    injection h with h
    subst h
    have hbx:=hs.bx t
    rw [hb] at hbx
    obtain ⟨h1,h2⟩:=hbx
    obtain ⟨h3,h4⟩:=h2 pi _ hp
    obtain ⟨x,h5,h6⟩:=h4 cs' rfl
    cases hv with
    | re _ _ _ n i e2 k2 ty2 xs2 pins2 pin2 hb2 hn2 hp2 hi2 =>
     rw [hb] at hb2
     injection hb2 with hb2
     injection hb2 with e1 e2 e3 e4 e5
     subst e3
     have e4:=eq_of_heq e4
     subst e4 e5
     rw [hp] at hp2
     injection hp2 with hp2
     subst hp2
     refine ⟨((bH ty x).drop off).map .d,by simp [u4,h1,hn2,hi2,h5],?_⟩
     have:=EE (B:=s.bx) (cs'.drop off) (fun c hc=>by rw [h6] at hc; exact S0 ty x c (List.mem_of_mem_drop hc))
     rw [h6] at this ⊢
     rw [List.map_drop,Dw] at this
     simpa [List.map_drop] using this
   ·cases h
  ·cases h
 ·cases h
theorem Mq (hs:Sim s p) {t:TypeId} {v w:SV} {q:PV} (hv:bj s.bx v q) (h:SB P s t v=some w) : ∃ r,qU P p.b t q=some r∧bj s.bx w r:=by
 unfold SB at h
 split at h
 ·rename_i i cl h1 h2
  obtain ⟨qs,h3,h4⟩:=XX hs hv h2
  obtain ⟨r,h5,h6⟩:=Mc h4 h
  exact ⟨r,by simp [qU,h1,h3,h5],h6⟩
 ·cases h
theorem Ua {v:SV} {q:PV} {i:Int} (hv:bj B v q) (h:Ba v=some i) : ∃ k,q = .d (.v (.int k i)):=by
 unfold Ba at h
 split at h
 ·injection h with h; subst h; exact ⟨_,jY hv⟩
 ·cases h
theorem ly {q:PV} {k:IntKind} {i:Int} {n:Nat} (h:q = .d (.v (.int k i))) (h0 : 0≤i) : wj (some q) n=some i.toNat:=by
 subst h
 simp [wj,asI,h0]
end
section
variable {B:List (Nat×Option bc)} {s:SS} {p:PS} {P:Program} {ρ : Type}
def OL (s:SS) (p:PS) (dst:Option Nat) (k:SV→Upd→Option ρ) (res : ρ) (e:Option (PV×Option (Nat×Box))) : Prop :=
 ∃ v u q w,e=some (q,w)∧k v u=some res∧Sim (s.upd dst v u) (p.upd dst q w)∧OkU s u∧OkW s dst u w
theorem yl.done (hs:Sim s p) {dst:Option Nat} {k:SV→Upd→Option ρ} {res : ρ} {e:Option PV} (h:yl s (fun v=>k v .no) res e) : OL s p dst k res (e.map fun r=>(r,none)):=by
 obtain ⟨v,q,rfl,h2,h3⟩:=h
 exact ⟨v,.no,q,none,rfl,h2,kI hs h3,trivial,dF⟩
theorem Bb {α : Type} {xs:List α} {i:Int} {x : α} (h:aw xs i=some x) : 0≤i∧xs[i.toNat]? = some x∧i.toNat < xs.length:=by
 unfold aw at h
 split at h
 ·rename_i h0
  exact ⟨h0,h,(zg.1 h).1⟩
 ·cases h
theorem G6 (hs:Sim s p) {dst:Option Nat} {t:TypeId} {v w:SV} {q r:PV} {k:SV→Upd→Option ρ} {res : ρ} (hv:bj s.bx v q) (hw:bj s.bx w r) (h:xE P s dst t v w k=some res) :
  OL s p dst k res ((ek P p.b t q r).map fun r=>(r,none)):=by
 unfold xE at h
 split at h
 ·rename_i e kd i d hu
  obtain rfl:=jY hw
  split at h
  ·rename_i ie hie
   split at h
   ·rename_i ty xs
    obtain ⟨h1,h2⟩:=aq h
    obtain ⟨x,h3,h4⟩:=bindS h2
    obtain ⟨k0,k1,k2⟩:=Bb h3
    have hl:(bH ty x).length=ie.size:=by rw [lG]; simpa using h1
    rcases R3 hv with rfl | ⟨rfl,_⟩
    ·refine ⟨_,.no,.fe (bH ty x),none,?_,h4,kI hs (.fe _ _ (Dw ty x).symm (S0 ty x)),trivial,dF⟩
     simp [ek,hu,asI,hie,k0,k1,hl]
    ·simp at k2
   ·rename_i t'
    split at h
    ·rename_i e' kk ty xs pins hb
     obtain ⟨h1,h2⟩:=aq h
     obtain ⟨h2,h3⟩:=aq h2
     obtain ⟨x,h4,h5⟩:=bindS h3
     obtain ⟨k0,k1,k2⟩:=Bb h4
     have hbx:=hs.bx t'
     rw [hb] at hbx
     obtain ⟨hbx,hpins⟩:=hbx
     have hkk:kk=ie.size:=by simpa using h1
     have hnp:lkP pins d=none:=by simpa using h2
     cases hv with
     | row _ n e2 k2' ty2 xs2 pins2 hb2 hn2 =>
      rw [hb] at hb2
      injection hb2 with hb2
      injection hb2 with e1 e2 e3 e4 e5
      subst e3
      have e4:=eq_of_heq e4
      subst e4 e5 hn2
      refine ⟨_,_,.re t' xs.length i.toNat 0,none,?_,h5,?_,(show kZ (lkB s.bx t') _ from by rw [hb]; exact ⟨_,rfl⟩),dF⟩
      ·simp [ek,hu,asI,hie,k0,hbx,hkk,k2]
      ·have hble:BLe s.bx ((t',some (.rw e' kk ty xs ((d,⟨i,some (Bl ty x)⟩)::pins)))::s.bx):=P7 hb rfl (fun p pin hp=>⟨pin,by
        rw [si,if_neg (fun e=>by rw [e,hnp] at hp; cases hp)]; exact hp,rfl⟩)
       refine YL hs hble (fun _=>⟨hbx,fun p pin hp=>?_⟩) (.re t' d 0 xs.length i.toNat e' kk ty xs _ ⟨i,some (Bl ty x)⟩ (by rw [av,if_pos rfl]) rfl (by rw [si,if_pos rfl]) rfl)
       rw [si] at hp
       split at hp
       ·injection hp with hp
        subst hp
        exact ⟨k2,fun cs hc=>⟨x,k1,by injection hc with hc; exact hc.symm⟩⟩
       ·exact hpins p pin hp
    ·cases h
   ·cases h
  ·cases h
 ·cases h
theorem vH {cs:List SV} {qs:List PV} {ds:List SD} (h:ce B cs qs) (hd:tS cs=some ds) : qs.mapM toD=some (ds.map SD.toD):=by
 induction cs generalizing qs ds with
 | nil =>
  rcases h.cases with ⟨_,rfl⟩ | ⟨_,_,_,_,h1,_⟩
  ·injection hd with hd; subst hd; rfl
  ·cases h1
 | cons c cs ih =>
  rcases h.cases with ⟨h1,_⟩ | ⟨c',q,cs',qs',h1,rfl,h2,h3⟩
  ·cases h1
  ·injection h1 with e1 e2
   subst e1 e2
   simp only [tS] at hd
   split at hd
   ·rename_i d ds' k1 k2
    injection hd with hd
    subst hd
    have:=ih h3 k2
    unfold aaj at k1
    split at k1
    ·injection k1 with k1
     subst k1
     cases h2 with
     | d _ y hy=>simp [List.mapM_cons,toD,hy.nrm,this]
    ·cases k1
   ·cases hd
theorem AN:∀ {cs:List SV} {ds:List SD},tS cs=some ds→cs.length=ds.length
 | [],ds,h=>by injection h with h; subst h; rfl
 | c::cs,ds,h=>by
  simp only [tS] at h
  split at h
  ·rename_i d ds' k1 k2
   injection h with h
   subst h
   simp [AN k2]
  ·cases h
theorem mS:∀ (l:List (Nat×Pin)) (i:Nat),lkP (wJ l) i=(lkP l i).map fun pin=>⟨pin.i,none⟩
 | [],_=>rfl
 | (j,⟨n,cs⟩)::l,i=>by simp only [wJ,si,mS l i]; split <;> rfl
theorem Tv (hs:Sim s p) {dst:Option Nat} (hd:dst=none) {t:TypeId} {v w:SV} {q r:PV} {k:SV→Upd→Option ρ} {res : ρ} (hv:bj s.bx v q) (hw:bj s.bx w r) (h:O2 P s t v w k=some res) :
  OL s p dst k res ((lH P p.b t q r).map fun u=>(.junk,some u)):=by
 unfold O2 at h
 split at h
 ·rename_i i ns hi hns
  obtain ⟨ws,hws,hcs⟩:=Bs hw hns
  split at h
  ·rename_i x off
   cases hv
   split at h
   ·rename_i ty cs hb
    obtain ⟨h1,h2⟩:=aq h
    obtain ⟨h2,h3⟩:=aq h2
    obtain ⟨h3,h4⟩:=aq h3
    have h1:ns.length=i.size:=by simpa using h1
    have h2:=zd h2
    obtain ⟨hro,h3⟩:=ym h3
    have hbx:=hs.bx x
    rw [hb] at hbx
    obtain ⟨qs,hq1,hq2⟩:=hbx
    have l1:=hcs.len
    have l2:=hq2.len
    refine ⟨_,_,.junk,some (x,.st ty (splice qs off ws)),?_,h4,?_,⟨h3,fun ty2 cs2 h=>?_⟩,Pu hro⟩
    ·simp only [lH,hi,hws,hq1]
     rw [if_pos ⟨by omega,by omega⟩]
     rfl
    ·refine o0 hs (P6 hb) (fun _=>⟨_,rfl,?_⟩) (.junk _)
     rw [mL cs off ns h2]
     exact (hq2.splice hcs off).mono (P6 hb)
    ·rw [hb] at h
     injection h with h
     injection h with e1 e2
     subst e1 e2
     refine ⟨_,rfl,?_⟩
     rw [mL cs off ns h2]
     unfold splice
     simp
     omega
   ·cases h
  ·rename_i x pi off
   split at h
   ·rename_i e kk ty xs pins ds hb hds
    split at h
    ·rename_i j cs0 hp
     obtain ⟨h1,h2⟩:=aq h
     obtain ⟨h2,h3⟩:=aq h2
     obtain ⟨h3,h4⟩:=aq h3
     have h1:ns.length=i.size:=by simpa using h1
     have h2:=zd h2
     obtain ⟨hro,h3⟩:=ym h3
     split at h4
     ·rename_i cs' hcs'
      split at h4
      ·rename_i y hy
       have hbx:=hs.bx x
       rw [hb] at hbx
       obtain ⟨hbx,hpins⟩:=hbx
       obtain ⟨k1,k2⟩:=hpins pi _ hp
       have hy2:=Kh hy
       cases hv with
       | re _ _ _ n i2 e2 k2' ty2 xs2 pins2 pin2 hb2 hn2 hp2 hi2 =>
        rw [hb] at hb2
        injection hb2 with hb2
        injection hb2 with e1 e2 e3 e4 e5
        subst e3
        have e4:=eq_of_heq e4
        subst e4 e5 hn2
        rw [hp] at hp2
        injection hp2 with hp2
        subst hp2
        simp only at hi2 k1 k2
        subst hi2
        obtain ⟨x0,hx0⟩ : ∃ x0,xs[j.toNat]? = some x0:=⟨xs[j.toNat],by simp [k1]⟩
        have hds':ws.mapM toD=some (ds.map SD.toD):=vH hcs hds
        have hlen0:(bH ty x0).length=tyN ty:=lG ty x0
        have hsp:splice (bH ty x0) off (ds.map SD.toD)=bH ty y:=by
         split at hcs'
         ·rename_i hfull
          injection hcs' with hcs'
          subst hcs'
          have h0:off=0:=by omega
          subst h0
          rw [← hy2]
          have:(ds.map SD.toD).length=(bH ty x0).length:=by simp [hfull,hlen0]
          simp [splice,this]
         ·cases cs0 with
          | none=>cases hcs'
          | some cs0 =>
           injection hcs' with hcs'
           obtain ⟨x1,h7,h8⟩:=k2 cs0 rfl
           rw [hx0] at h7
           injection h7 with h7
           subst h7
           have h9:cs0.length=tyN ty:=by
            have:=Dw ty x0
            rw [← h8] at this
            have:=congrArg List.length this
            simpa [hlen0] using this
           rw [← hy2,← hcs']
           show _ = List.map SD.toD (nB cs0 off ds)
           rw [mL cs0 off ds (by omega),xm,h8,Dw]
        have hble:BLe s.bx ((x,some (.rw e kk ty (xs.set j.toNat y) ((pi,⟨j,some (Bl ty y)⟩)::wJ pins)))::s.bx):=P7 hb (by simp) (fun p2 pin2 hp2=>by
         rw [si]
         by_cases e:p2=pi
         ·subst e
          rw [hp] at hp2
          injection hp2 with hp2
          subst hp2
          exact ⟨_,if_pos rfl,rfl⟩
         ·rw [if_neg e,mS,hp2]
          exact ⟨_,rfl,rfl⟩)
        refine ⟨_,_,.junk,some (x,.rw e kk ((xs.map (bH ty)).set j.toNat (splice (bH ty x0) off (ds.map SD.toD)))),?_,h4,?_,⟨h3,fun ty2 cs2 h=>by rw [hb] at h; cases h⟩,Pu hro⟩
        ·have hl2:(ds.map SD.toD).length=i.size:=by rw [List.length_map,← AN hds]; exact h1
         have hl3:off + (ds.map SD.toD).length≤(bH ty x0).length:=by rw [hlen0,List.length_map]; exact h2
         simp only [lH,hi,hws,hbx,hds',List.getElem?_map,hx0,Option.map_some,List.length_map]
         rw [List.length_map] at hl2 hl3
         rw [if_pos ⟨trivial,hl2,hl3⟩]
         rfl
        ·rw [hsp,← List.map_set]
         refine o0 hs hble (fun _=>⟨rfl,fun p2 pin2 hp2=>?_⟩) (.junk _)
         rw [si] at hp2
         split at hp2
         ·injection hp2 with hp2
          subst hp2
          exact ⟨by simpa using k1,fun cs hc=>⟨y,by simp [k1],by injection hc with hc; exact hc.symm⟩⟩
         ·rw [mS,zm] at hp2
          obtain ⟨pin3,h7,rfl⟩:=hp2
          exact ⟨by simpa using (hpins p2 pin3 h7).1,fun cs hc=>by cases hc⟩
      ·cases h4
     ·cases h4
    ·cases h
   ·cases h
  ·cases h
 ·cases h
end
section
variable {B:List (Nat×Option bc)} {s:SS} {p:PS} {P:Program} {ρ : Type}
theorem E9 (hs:Sim s p) (place:Nat→Option (Nat×Nat)) : ∀ {l:List (Nat×Operand)} {cs cs':List SV} {qs:List PV},ce s.bx cs qs→MO place cs (xw s l)=some cs'→∃ qs',Fa place qs (l.map fun (i,x)=>(i,ev p x))=some qs'∧ce s.bx cs' qs'
 | [],cs,cs',qs,h,hf=>by injection hf with hf; subst hf; exact ⟨qs,rfl,h⟩
 | (i,x)::l,cs,cs',qs,h,hf=>by
  simp only [xw,MO] at hf
  split at hf
  ·rename_i off size ns h1 h2
   obtain ⟨h3,h4⟩:=aq hf
   obtain ⟨h4,h5⟩:=aq h4
   obtain ⟨ws,h6,h7⟩:=Bs (bW hs x) h2
   replace h3:ns.length=size:=by simpa using h3
   replace h4:=zd h4
   rw [mL cs off ns h4] at h5
   obtain ⟨qs',h8,h9⟩:=E9 hs place (h.splice h7 off) h5
   refine ⟨qs',?_,h9⟩
   have l1:=h7.len
   have l2:=h.len
   simp only [List.map_cons,Fa,h1,h6]
   rw [if_pos ⟨by omega,by omega⟩]
   exact h8
  ·cases hf
theorem vF {i:TI} {z:List SV} (h:DM i=some z) : ce B z (pG i):=(xP h).1
theorem LW {cs:List SV} {qs:List PV} (h:ce B cs qs) : ∀ n,ce B (Wl n cs) (List.replicate n qs).flatten
 | 0=>.nil
 | n + 1=>by rw [List.replicate_succ,List.flatten_cons]; exact h.append (LW h n)
theorem I0 (k:Nat) : ∀ (n:Nat) (l:List SD),(Kv k n l).map (List.map SD.toD)=sB k n (l.map SD.toD)
 | 0,_=>rfl
 | n + 1,l=>by simp only [Kv,sB,List.map_cons,List.map_take,I0 k n,List.map_drop]
theorem IY {t:Ty} : ∀ {l:List (List SD)} {xs:List t.den},Kk t l=some xs→l.map (List.map SD.toD)=xs.map (bH t)
 | [],xs,h=>by injection h with h; subst h; rfl
 | c::l,xs,h=>by
  simp only [Kk] at h
  split at h
  ·rename_i x xs' h1 h2
   injection h with h
   subst h
   simp only [List.map_cons,Kh h1,IY h2]
  ·cases h
theorem FR (hs:Sim s p) {dst:Option Nat} {t:TypeId} {n:Nat} {l:List (Nat×Operand)} {k:SV→Upd→Option ρ} {res : ρ} (h:uY P s dst t n (xw s l) k=some res) :
  OL s p dst k res (iU P p.b dst t n (l.map fun (i,x)=>(i,ev p x))):=by
 unfold uY at h
 split at h
 ·rename_i d e hu
  split at h
  ·rename_i i ty hi hb hty
   split at h
   ·rename_i z hz
    have h1:=(aq h).1
    replace h:=(aq h).2
    have h2:=(aq h).1
    replace h:=(aq h).2
    have h3:=(aq h).1
    replace h:=(aq h).2
    have h4:=(aq h).1
    replace h:=(aq h).2
    replace h1:=zd h1
    replace h2:=zd h2
    replace h3:=zd h3
    obtain ⟨hfr,h4⟩:=mQ h4
    split at h
    ·rename_i cs hcs
     split at h
     ·rename_i ds hds
      split at h
      ·rename_i xs hxs
       obtain ⟨h5,h6⟩:=aq h
       obtain ⟨qs,h7,h8⟩:=E9 hs _ (LW (vF (B:=s.bx) hz) n) hcs
       have h9:=vH h8 hds
       have hbd:p.b d=none:=by have:=hs.bx d; rw [hb] at this; exact this hfr
       have hch:sB i.size n (ds.map SD.toD)=xs.map (bH ty):=by rw [← I0,IY hxs]
       have hlen:xs.length=n:=by
        have:=congrArg List.length hch
        rw [Br,List.length_map] at this
        exact this.symm
       refine ⟨_,_,.row d n,some (d,.rw e i.size (xs.map (bH ty))),?_,h6,?_,⟨h4,hb⟩,yK hb rfl⟩
       ·simp only [iU,hu,hi,hbd]
        rw [if_pos ⟨h1,h2,h3⟩]
        simp only [h7,h9,hch]
       ·exact o0 hs (qX hb) (fun _=>⟨rfl,fun p pin hp=>by cases hp⟩) (.row d n e i.size ty xs [] (by rw [av,if_pos rfl]) hlen)
      ·cases h
     ·cases h
    ·cases h
   ·cases h
  ·cases h
 ·cases h
theorem I8 {α : Type} {l m z:List α} (h:aX l m=some z) : l.length + m.length≤1000000∧z=l++m:=by
 unfold aX at h
 split at h
 ·rename_i hl; injection h with h; exact ⟨hl,h.symm⟩
 ·cases h
theorem I3 {t:Ty} (h:t=t) (xs:List t.den) : y6 h xs=xs:=rfl
theorem P9 (hs:Sim s p) {dst:Option Nat} {t:TypeId} {v w:SV} {q r:PV} {k:SV→Upd→Option ρ} {res : ρ} (hv:bj s.bx v q) (hw:bj s.bx w r) (h:KE P s dst t v w k=some res) :
  OL s p dst k res (jG P p.b dst t q r)∧True:=by
 refine ⟨?_,trivial⟩
 unfold KE at h
 split at h
 ·rename_i e ty ys hu hdw
  have hr:=Km hs hw hdw
  split at h
  ·rename_i i hi
   have h1:=(aq h).1
   replace h:=(aq h).2
   have h2:=(aq h).1
   replace h:=(aq h).2
   have h3:=(aq h).1
   replace h:=(aq h).2
   have h4:=(aq h).1
   replace h:=(aq h).2
   replace h1:=zd h1
   replace h2:=zd h2
   replace h3:=zd h3
   replace h4:tyN ty=i.size:=by simpa using h4
   have hla:xB i.size (ys.map (bH ty)):=by
    intro x hx
    obtain ⟨y,_,rfl⟩:=List.mem_map.1 hx
    rw [lG,h4]
   have sm:∀ n,n≤1000000→small n i.bytes:=fun n hn=>by
    unfold small
    exact Nat.le_trans (Nat.mul_le_mul hn h3) (by decide)
   split at h
   ·rename_i x
    split at h
    ·rename_i e' kk ty' xs pins hb
     split at h
     ·rename_i hty hsame
      obtain rfl:=hty
      have h5:=(aq h).1
      replace h:=(aq h).2
      have h6:=(aq h).1
      replace h:=(aq h).2
      have h7:=(aq h).1
      replace h:=(aq h).2
      replace h5:e' = e:=by simpa using h5
      replace h6:kk=i.size:=by simpa using h6
      obtain ⟨hfr,h7⟩:=ym h7
      obtain ⟨zs,h8,h9⟩:=bindS h
      rw [I3] at h8
      obtain ⟨h10,rfl⟩:=I8 h8
      have hbx:=hs.bx x
      rw [hb] at hbx
      obtain ⟨hbx,_⟩:=hbx
      cases hv with
      | row _ n e2 k2 ty2 xs2 pins2 hb2 hn2 =>
       rw [hb] at hb2
       injection hb2 with hb2
       injection hb2 with q1 q2 q3 q4 q5
       subst q3
       have q4:=eq_of_heq q4
       subst q4 hn2
       refine ⟨_,_,.row x (xs.length + ys.length),some (x,.rw e' kk (xs.map (bH ty)++ys.map (bH ty))),?_,h9,?_,⟨h7,fun ty2 cs2 h=>by rw [hb] at h; cases h⟩,aar hfr⟩
       ·simp only [jG,hu,hr,hi,hbx]
        rw [if_pos ⟨h1,h2,hla⟩,if_pos ⟨by simp,h5,h6,by simpa using sm _ h10⟩]
        simp [h5]
       ·rw [← List.map_append]
        exact Wa hs hb (.row x _ e' kk ty (xs++ys) [] (by rw [av,if_pos rfl]) (by simp))
     ·cases h
    ·cases h
   ·obtain rfl:=R4 hv
    split at h
    ·rename_i d
     split at h
     ·rename_i hb
      have h7:=(aq h).1
      replace h:=(aq h).2
      obtain ⟨hfr,h7⟩:=mQ h7
      obtain ⟨zs,h8,h9⟩:=bindS h
      obtain ⟨h10,rfl⟩:=I8 h8
      have hbd:p.b d=none:=by have:=hs.bx d; rw [hb] at this; exact this hfr
      refine ⟨_,_,.row d zs.length,some (d,.rw e i.size (zs.map (bH ty))),?_,h9,?_,⟨h7,hb⟩,yK hb rfl⟩
      ·simp only [jG,hu,hr,hi,hbd]
       rw [if_pos ⟨h1,h2,hla⟩,if_pos ⟨trivial,trivial⟩,if_pos (by simpa using sm _ (by simpa using h10))]
       simp
      ·exact o0 hs (qX hb) (fun _=>⟨rfl,fun p pin hp=>by cases hp⟩) (.row d _ e i.size ty _ [] (by rw [av,if_pos rfl]) (by simp))
     ·cases h
    ·cases h
   ·cases h
  ·cases h
 ·cases h
theorem Tz (hs:Sim s p) {t:TypeId} {v:SV} {q:PV} {lo hi:Option Operand} {k:SV→Option ρ} {res : ρ} (hv:bj s.bx v q) (h:O5 P s t v (lo.map (evX s)) (hi.map (evX s)) k=some res) : yl s k res (eG P p.b t q (lo.map (ev p)) (hi.map (ev p))):=by
 have int:∀ {x:Operand} {i:Int},Ba (evX s x)=some i→∃ kd,ev p x = .d (.v (.int kd i)):=fun {x i} h=>Ua (bW hs x) h
 unfold O5 at h
 split at h
 ·rename_i e ty xs hu
  have hq:lc p.b q=some (xs.map (bH ty))∧∃ y,q = .d y:=by
   rcases R3 hv with rfl | ⟨rfl,rfl⟩
   ·exact ⟨rfl,_,rfl⟩
   ·exact ⟨by simp [lc],_,rfl⟩
  obtain ⟨hq,y,rfl⟩:=hq
  split at h
  ·rename_i i hi'
   have h1:=(aq h).1
   replace h:=(aq h).2
   replace h1:tyN ty=i.size:=by simpa using h1
   have hla:xB i.size (xs.map (bH ty)):=by
    intro x hx
    obtain ⟨y,_,rfl⟩:=List.mem_map.1 hx
    rw [lG,h1]
   split at h
   ·rename_i hl hh
    rw [Option.map_eq_none_iff] at hl hh
    subst hl hh
    refine dr ?_ h (OQ ty xs)
    simp only [eG,hu,hi',hq,Option.map_none,wj]
    rw [if_pos ⟨Nat.zero_le _,Nat.le_refl _,hla⟩]
    simp [List.take_of_length_le]
   ·rename_i l hl hh
    rw [Option.map_eq_none_iff] at hh
    rw [zm] at hl
    obtain ⟨lo,rfl,rfl⟩:=hl
    subst hh
    split at h
    ·rename_i li hli
     obtain ⟨kd,hkd⟩:=int hli
     obtain ⟨z,h2,h3⟩:=bindS h
     unfold loO at h2
     split at h2
     ·rename_i hc
      injection h2 with h2
      subst h2
      refine dr ?_ h3 (OQ ty _)
      simp only [eG,hu,hi',hq,Option.map_none,Option.map_some,hkd,ly rfl hc.1]
      simp only [wj,List.length_map]
      rw [if_pos ⟨hc.2,Nat.le_refl _,hla⟩]
      rw [← List.map_drop,← List.map_take,List.take_of_length_le (by simp)]
     ·cases h2
    ·cases h
   ·rename_i l hl hh
    rw [Option.map_eq_none_iff] at hl
    rw [zm] at hh
    obtain ⟨hi2,rfl,rfl⟩:=hh
    subst hl
    split at h
    ·rename_i li hli
     obtain ⟨kd,hkd⟩:=int hli
     obtain ⟨z,h2,h3⟩:=bindS h
     unfold hiO at h2
     split at h2
     ·rename_i hc
      injection h2 with h2
      subst h2
      refine dr ?_ h3 (OQ ty _)
      simp only [eG,hu,hi',hq,Option.map_none,Option.map_some,hkd,ly rfl hc.1]
      simp only [wj,List.length_map]
      rw [if_pos ⟨Nat.zero_le _,hc.2,hla⟩]
      simp
     ·cases h2
    ·cases h
   ·rename_i l l' hl hh
    rw [zm] at hl hh
    obtain ⟨lo,rfl,rfl⟩:=hl
    obtain ⟨hi2,rfl,rfl⟩:=hh
    split at h
    ·rename_i li hi3 hli hhi
     obtain ⟨kd,hkd⟩:=int hli
     obtain ⟨kd2,hkd2⟩:=int hhi
     obtain ⟨z,h2,h3⟩:=bindS h
     unfold lhO at h2
     split at h2
     ·rename_i hc
      injection h2 with h2
      subst h2
      refine dr ?_ h3 (OQ ty _)
      simp only [eG,hu,hi',hq,Option.map_some,hkd,hkd2,ly rfl hc.1,ly rfl hc.2.1,List.length_map]
      rw [if_pos ⟨hc.2.2.1,hc.2.2.2,hla⟩]
      simp
     ·cases h2
    ·cases h
  ·cases h
 ·rename_i e x hu
  split at h
  ·rename_i i e' kk ty xs pins hi' hb
   have h1:=(aq h).1
   replace h:=(aq h).2
   replace h1:kk=i.size:=by simpa using h1
   have hbx:=hs.bx x
   rw [hb] at hbx
   obtain ⟨hbx,_⟩:=hbx
   have ox:∀ {o:Option Operand} {n:Nat} {l:Int},aaq (o.map (evX s)) (n:Int)=some l→0≤l→wj (o.map (ev p)) n=some l.toNat:=by
    intro o n l ho h0
    cases o with
    | none=>injection ho with ho; subst ho; rfl
    | some y =>
     obtain ⟨kd,hkd⟩:=int (show Ba (evX s y)=some l from ho)
     rw [Option.map_some,ly hkd h0]
   cases hv with
   | row _ n e2 k2 ty2 xs2 pins2 hb2 hn2 =>
    rw [hb] at hb2
    injection hb2 with hb2
    injection hb2 with q1 q2 q3 q4 q5
    subst q3
    have q4:=eq_of_heq q4
    subst q4 hn2
    split at h
    ·rename_i l h' hl hh
     obtain ⟨_,h2,h3⟩:=bindS h
     unfold vwO at h2
     split at h2
     ·rename_i hc
      refine dr (q:=.vw x xs.length l.toNat h'.toNat) ?_ h3 (.vw x _ _ _ e' kk ty xs pins hb rfl)
      have hl':=ox (n:=0) hl hc.1
      have hh':=ox (n:=xs.length) hh hc.2.1
      simp only [eG,hu,hi',hbx,hl',hh',List.length_map]
      rw [if_pos ⟨trivial,h1,hc.2.2.1,hc.2.2.2⟩]
     ·cases h2
    ·cases h
  ·cases h
 ·rename_i x hu
  obtain rfl:=rl hv
  split at h
  ·rename_i l hl hh
   rw [Option.map_eq_none_iff] at hh
   rw [zm] at hl
   obtain ⟨lo,rfl,rfl⟩:=hl
   subst hh
   split at h
   ·rename_i li hli
    obtain ⟨kd,hkd⟩:=int hli
    obtain ⟨z,h2,h3⟩:=bindS h
    unfold TB at h2
    split at h2
    ·rename_i hc
     injection h2 with h2
     subst h2
     refine dr ?_ h3 (wI _)
     simp only [eG,hu,asS,Option.map_none,Option.map_some,hkd,ly rfl hc.1]
     simp only [wj]
     rw [if_pos ⟨hc.2,Nat.le_refl _⟩]
    ·cases h2
   ·cases h
  ·rename_i l hl hh
   rw [Option.map_eq_none_iff] at hl
   rw [zm] at hh
   obtain ⟨hi2,rfl,rfl⟩:=hh
   subst hl
   split at h
   ·rename_i li hli
    obtain ⟨kd,hkd⟩:=int hli
    obtain ⟨z,h2,h3⟩:=bindS h
    unfold Pa at h2
    split at h2
    ·rename_i hc
     injection h2 with h2
     subst h2
     refine dr ?_ h3 (wI _)
     simp only [eG,hu,asS,Option.map_none,Option.map_some,hkd,ly rfl hc.1]
     simp only [wj]
     rw [if_pos ⟨Nat.zero_le _,hc.2⟩]
    ·cases h2
   ·cases h
  ·rename_i l l' hl hh
   rw [zm] at hl hh
   obtain ⟨lo,rfl,rfl⟩:=hl
   obtain ⟨hi2,rfl,rfl⟩:=hh
   split at h
   ·rename_i li hi3 hli hhi
    obtain ⟨kd,hkd⟩:=int hli
    obtain ⟨kd2,hkd2⟩:=int hhi
    obtain ⟨z,h2,h3⟩:=bindS h
    unfold JG at h2
    split at h2
    ·rename_i hc
     injection h2 with h2
     subst h2
     refine dr ?_ h3 (wI _)
     simp only [eG,hu,asS,Option.map_some,hkd,hkd2,ly rfl hc.1,ly rfl hc.2.1]
     rw [if_pos ⟨hc.2.2.1,hc.2.2.2⟩]
    ·cases h2
   ·cases h
  ·cases h
 ·cases h
theorem YK (hs:Sim s p) {v:SV} {q:PV} {ty:Ty} {ys:List ty.den} (hv:bj s.bx v q) (h:aah s v=some (.sl ty ys)) : lc p.b q=some (ys.map (bH ty)):=by
 unfold aah at h
 split at h
 ·rename_i t lo hi
  split at h
  ·rename_i e kk ty2 xs pins hb
   injection h with h
   injection h with e1 e2
   subst e1
   have e2:=eq_of_heq e2
   subst e2
   have hbx:=hs.bx t
   rw [hb] at hbx
   obtain ⟨hbx,_⟩:=hbx
   cases hv with
   | vw _ _ _ n e2 k2 ty2 xs2 pins2 hb2 hn2 =>
    rw [hb] at hb2
    injection hb2 with hb2
    injection hb2 with q1 q2 q3 q4 q5
    subst q3
    have q4:=eq_of_heq q4
    subst q4 hn2
    simp only [lc,hbx,List.length_map,if_true]
    rw [← List.map_drop,← List.map_take]
  ·cases h
 ·exact Km hs hv h
theorem Ww (hs:Sim s p) {v:SV} {q:PV} {x lo hi:Nat} {e kk:Nat} {ty:Ty} {xs:List ty.den} {pins:List (Nat×Pin)} (hb:lkB s.bx x=some (.rw e kk ty xs pins)) (hv:bj s.bx v q) (h:Wx s v=some (x,lo,hi)) : Sm q=some (x,xs.length,lo,hi):=by
 unfold Wx at h
 split at h
 ·rename_i t
  split at h
  ·rename_i e2 k2 ty2 xs2 pins2 hb2
   injection h with h
   injection h with q1 q2
   injection q2 with q2 q3
   subst q1 q2 q3
   cases hv with
   | row _ n e3 k3 ty3 xs3 pins3 hb3 hn3 =>
    rw [hb] at hb2 hb3
    injection hb2 with hb2
    injection hb2 with r1 r2 r3 r4 r5
    subst r3
    have r4:=eq_of_heq r4
    subst r4
    injection hb3 with hb3
    injection hb3 with r1 r2 r3 r4 r5
    subst r3
    have r4:=eq_of_heq r4
    subst r4 hn3
    rfl
  ·cases h
 ·injection h with h
  injection h with q1 q2
  injection q2 with q2 q3
  subst q1 q2 q3
  cases hv with
  | vw _ _ _ n e3 k3 ty3 xs3 pins3 hb3 hn3 =>
   rw [hb] at hb3
   injection hb3 with hb3
   injection hb3 with r1 r2 r3 r4 r5
   subst r3
   have r4:=eq_of_heq r4
   subst r4 hn3
   rfl
 ·cases h
theorem T3 {α β : Type} (f : α→β) (xs ys:List α) (lo:Nat) : (ka xs lo ys).map f=ka (xs.map f) lo (ys.map f):=by
 simp [ka,List.map_take,List.map_drop]
theorem XE (hs:Sim s p) {dst:Option Nat} {t:TypeId} {v w:SV} {q r:PV} {k:SV→Upd→Option ρ} {res : ρ} (hv:bj s.bx v q) (hw:bj s.bx w r) (h:XF P s t v w k=some res) :
  OL s p dst k res ((qV P p.b t q r).map fun r=>(r.1,some r.2)):=by
 unfold XF at h
 split at h
 ·rename_i e ty ys x lo hi hu hsrc hpart
  split at h
  ·rename_i i e' kk ty' xs pins hi' hb
   split at h
   ·rename_i hty hsame
    obtain rfl:=hty
    have h1:=(aq h).1
    replace h:=(aq h).2
    have h2:=(aq h).1
    replace h:=(aq h).2
    have h3:=(aq h).1
    replace h:=(aq h).2
    replace h1:kk=i.size:=by simpa using h1
    replace h2:tyN ty=i.size:=by simpa using h2
    obtain ⟨hro,h3⟩:=ym h3
    obtain ⟨zs,h4,h5⟩:=bindS h
    rw [I3] at h4
    unfold oV at h4
    split at h4
    ·rename_i hc
     injection h4 with h4
     subst h4
     have hbx:=hs.bx x
     rw [hb] at hbx
     obtain ⟨hbx,hpins⟩:=hbx
     have hr:=YK hs hw hsrc
     have hp:=Ww hs hb hv hpart
     have hla:xB i.size (ys.map (bH ty)):=by
      intro x hx
      obtain ⟨y,_,rfl⟩:=List.mem_map.1 hx
      rw [lG,h2]
     have hlen:(ka xs lo (ys.take (hi - lo))).length=xs.length:=H9 (by rw [List.length_take]; omega)
     have hble:BLe s.bx ((x,some (.rw e' kk ty (ka xs lo (ys.take (hi - lo))) (wJ pins)))::s.bx):=P7 hb hlen (fun p2 pin2 hp2=>by
      rw [mS,hp2]
      exact ⟨_,rfl,rfl⟩)
     refine ⟨_,_,.d (.v (.int .i64 (min ys.length (hi - lo) : Nat))),some (x,.rw e' kk ((ka xs lo (ys.take (hi - lo))).map (bH ty))),?_,h5,?_,⟨h3,fun ty2 cs2 h=>by rw [hb] at h; cases h⟩,Pu hro⟩
     ·simp only [qV,hu,hr,hp,hi',hbx,List.length_map]
      rw [if_pos ⟨trivial,h1,hla,hc.1,hc.2⟩,T3,List.map_take]
      rfl
     ·refine o0 hs hble (fun _=>⟨rfl,fun p2 pin2 hp2=>?_⟩) (fW _ _)
      rw [mS,zm] at hp2
      obtain ⟨pin3,h7,rfl⟩:=hp2
      exact ⟨by rw [hlen]; exact (hpins p2 pin3 h7).1,fun cs hc=>by cases hc⟩
    ·cases h4
   ·cases h
  ·cases h
 ·cases h
theorem DN:∀ (l:List Value),(l.map fun z=>PV.d (.v z)).mapM toD=some (l.map fun z=>nrm (.v z))
 | []=>rfl
 | z::l=>by simp only [List.map_cons,List.mapM_cons,DN l,toD]; rfl
theorem WT (hs:Sim s p) {dst:Option Nat} {t:TypeId} {x y:Operand} {k:SV→Upd→Option ρ} {res : ρ} (h:WU P s dst t (O8 x y) (evX s x) k=some res) :
  OL s p dst k res (vN P p.b dst t (ev p x) (ev p y)):=by
 unfold WU at h
 split at h
 ·rename_i d e kd n hu hx hsame
  have hpx:=bW hs x
  rw [hx] at hpx
  have hpx:=jY hpx
  have hpy:∃ kd',ev p y = .d (.v (.int kd' n)):=by
   unfold O8 at hsame
   split at hsame
   ·rename_i i j hq
    have:i=j:=by simpa using hsame
    subst this
    exact ⟨kd,hpx⟩
   ·rename_i k1 n1 k2 m1 hq
    have:n1=m1:=by simpa using hsame
    subst this
    have:ev p (.const (.int k1 n1)) = .d (.v (.int k1 n1)):=rfl
    rw [this] at hpx
    injection hpx with hpx
    injection hpx with hpx
    injection hpx with q1 q2
    subst q2
    exact ⟨k2,rfl⟩
   ·cases hsame
  obtain ⟨kd',hpy⟩:=hpy
  split at h
  ·rename_i i ty hi hb hty
   split at h
   ·rename_i z hz
    split at h
    ·rename_i ds hds
     split at h
     ·rename_i z0 hz0
      have h1:=(aq h).1
      replace h:=(aq h).2
      have h2:=(aq h).1
      replace h:=(aq h).2
      have h3:=(aq h).1
      replace h:=(aq h).2
      have h4:=(aq h).1
      replace h:=(aq h).2
      replace h1:=zd h1
      replace h2:=zd h2
      obtain ⟨hfr,h4⟩:=mQ h4
      obtain ⟨xs,h5,h6⟩:=bindS h
      unfold mkO at h5
      split at h5
      ·rename_i hc
       injection h5 with h5
       subst h5
       have hbd:p.b d=none:=by have:=hs.bx d; rw [hb] at this; exact this hfr
       have e1:(i.zero.map fun z=>nrm (.v z))=bH ty z0:=by
        have h7:=vH (vF (B:=s.bx) hz) hds
        rw [show pG i=i.zero.map (fun z=>PV.d (.v z)) from rfl,DN] at h7
        injection h7 with h7
        rw [h7]; exact Kh hz0
       refine ⟨_,_,.row d n.toNat,some (d,.rw e i.size ((List.replicate n.toNat z0).map (bH ty))),?_,h6,?_,⟨h4,hb⟩,yK hb rfl⟩
       ·simp only [vN,hu,hpx,hpy,asI,hi,hbd]
        rw [if_pos ⟨trivial,hc.1,hc.2,h1,h2⟩,List.map_replicate,e1]
       ·exact o0 hs (qX hb) (fun _=>⟨rfl,fun p pin hp=>by cases hp⟩) (.row d _ e i.size ty _ [] (by rw [av,if_pos rfl]) (by simp))
      ·cases h5
     ·cases h
    ·cases h
   ·cases h
  ·cases h
 ·cases h
theorem A1 (mx:Bool) : ∀ (l:List SV) (v w:SV) (q:PV) (qs:List PV),bj B v q→ce B l qs→yM mx v l=some w→∃ r,(match mx with | true=>tm q qs | false=>tj q qs)=some r∧bj B w r
 | [],v,w,q,qs,hv,hl,h=>by
  rcases hl.cases with ⟨_,rfl⟩ | ⟨_,_,_,_,h1,_⟩
  ·have:v=w:=by cases v <;> (injection h)
   subst this
   exact ⟨q,by cases mx <;> rfl,hv⟩
  ·cases h1
 | u::l,v,w,q,qs,hv,hl,h=>by
  rcases hl.cases with ⟨h1,_⟩ | ⟨u',r,l',qs',h1,rfl,h2,h3⟩
  ·cases h1
  ·injection h1 with e1 e2
   subst e1 e2
   unfold yM at h
   split at h
   ·rename_i heq; cases heq
   ·rename_i k x k' y l2 heq
    injection heq with e1 e2
    subst e1 e2
    obtain rfl:=jY hv
    obtain rfl:=jY h2
    obtain ⟨r',h4,h5⟩:=A1 mx l _ w _ qs' (fW _ _) h3 h
    refine ⟨r',?_,h5⟩
    cases mx
    ·simp only [tj,Fk,asI]; exact h4
    ·simp only [tm,Fo,asI]; exact h4
   ·cases h
theorem Zf (hs:Sim s p) {t:TypeId} {v:SV} {q:PV} {k:SV→Option ρ} {res : ρ} (hv:bj s.bx v q) (h:aax P s t v k=some res) : yl s k res (uS P t q):=by
 unfold aax at h
 split at h
 ·rename_i e hu
  split at h
  ·rename_i ty xs hd
   refine dr ?_ h (fW _ _)
   have:Py q=some xs.length:=by
    unfold sA at hd
    split at hd
    ·injection hd with hd
     subst hd
     rcases R3 hv with rfl | ⟨rfl,rfl⟩
     ·simp [Py]
     ·rfl
    ·obtain ⟨e,k,ty2,xs2,pins,h1,h2,rfl,h4⟩:=JI hs hv hd
     injection h2 with e1 e2
     subst e1
     have e2:=eq_of_heq e2
     subst e2
     rfl
    ·cases hd
   simp [uS,hu,this]
  ·rename_i hd
   obtain rfl:=ZA hv hd
   exact dr (by simp [uS,hu,Py]) h (fW _ _)
  ·split at h
   ·cases hv
    exact dr (by simp [uS,hu,Py]) h (fW _ _)
   ·cases h
 ·rename_i hu
  split at h
  ·obtain rfl:=rl hv
   exact dr (by simp [uS,hu,asS]) h (fW _ _)
  ·cases h
 ·cases h
end
section
mutual
def qJ:PV→PV
 | .d x=>.d (nrm x)
 | .ag cs=>.ag (dP cs)
 | .tup cs=>.tup (dP cs)
 | .fn f ps qs=>.fn f (dP ps) (dP qs)
 | p=>p
def dP:List PV→List PV
 | []=>[]
 | c::cs=>qJ c::dP cs
end
def sg:Box→Box
 | .st ty cs=>.st ty (dP cs)
 | b=>b
theorem gg:∀ cs:List PV,(dP cs).length=cs.length
 | []=>rfl
 | c::cs=>by simp [dP,gg cs]
theorem kW:∀ (cs:List PV) (j:Nat) (c:PV),(dP cs)[j]? = some c→∃ d,cs[j]? = some d∧c=qJ d
 | [],j,c,h=>by simp [dP] at h
 | d::cs,0,c,h=>by simp [dP] at h; exact ⟨d,rfl,h.symm⟩
 | d::cs,j + 1,c,h=>by simp [dP] at h; simpa using kW cs j c h
section
variable {P:Program} {ρ ρ' ρ2:Nat→Value} {b b' b2:Nat→Option Box} {w w':World} {w0:WM} {F F' F0:Nat→Prop} {n:Nat} {σ τ : Nat→Nat}
theorem aR.nrmd {x:Value} {p:PV} (h:aR ρ b w F x p) : aR ρ b w F x (qJ p):=by
 induction h with
 | junk x=>exact .junk x
 | d x d h=>exact .d x _ h.nrm
 | ag xs cs hl h1 hr ih=>exact .ag xs _ (by rw [gg]; exact hl) h1 (fun j x c h2 h3=>by obtain ⟨d,h4,rfl⟩:=kW cs j c h3; exact ih j x d h2 h4)
 | tup xs cs hl hr ih=>exact .tup xs _ (by rw [gg]; exact hl) (fun j x c h2 h3=>by obtain ⟨d,h4,rfl⟩:=kW cs j c h3; exact ih j x d h2 h4)
 | ptr t off g ty cs hb hρ=>exact .ptr t off g ty cs hb hρ
 | row t n A c e k es hb hn hc hA hρ=>exact .row t n A c e k es hb hn hc hA hρ
 | re t n i off a e k es hb hn hi hρ=>exact .re t n i off a e k es hb hn hi hρ
 | vw t n lo hi A m c e k es hb hn hl hh hm hρ=>exact .vw t n lo hi A m c e k es hb hn hl hh hm hρ
 | fe a cs us hF hcell hrep=>exact .fe a cs us hF hcell hrep
 | fn f xs ys ps qs hl hr hl2 hr2 ih ih2 =>
  exact .fn f xs ys _ _ (by rw [gg]; exact hl) (fun j x c h2 h3=>by obtain ⟨d,h4,rfl⟩:=kW ps j c h3; exact ih j x d h2 h4)
   (by rw [gg]; exact hl2) (fun j x c h2 h3=>by obtain ⟨d,h4,rfl⟩:=kW qs j c h3; exact ih2 j x d h2 h4)
end
mutual
def mz (σ : Nat→Nat) : PV→PV
 | .ptr t o=>.ptr (σ t) o
 | .row t n=>.row (σ t) n
 | .re t n i o=>.re (σ t) n i o
 | .vw t n i o=>.vw (σ t) n i o
 | .ag cs=>.ag (fp σ cs)
 | .tup cs=>.tup (fp σ cs)
 | .fn f ps qs=>.fn f (fp σ ps) (fp σ qs)
 | p=>p
def fp (σ : Nat→Nat) : List PV→List PV
 | []=>[]
 | c::cs=>mz σ c::fp σ cs
end
def wi (σ : Nat→Nat) : Box→Box
 | .st ty cs=>.st ty (fp σ cs)
 | b=>b
def LZ:Box→List Nat
 | .st _ cs=>bK cs
 | .rw ..=>[]
def my (σ : Nat→Nat) : BU→BU
 | []=>[]
 | (t,B)::l=>(σ t,wi σ B)::my σ l
def bZ:BU→List Nat
 | []=>[]
 | (t,_)::l=>t::bZ l
theorem kV (σ : Nat→Nat) : ∀ cs:List PV,(fp σ cs).length=cs.length
 | []=>rfl
 | c::cs=>by simp [fp,kV σ cs]
theorem mN (σ : Nat→Nat) : ∀ (cs:List PV) (j:Nat) (c:PV),(fp σ cs)[j]? = some c→∃ d,cs[j]? = some d∧c=mz σ d
 | [],j,c,h=>by simp [fp] at h
 | d::cs,0,c,h=>by simp [fp] at h; exact ⟨d,rfl,h.symm⟩
 | d::cs,j + 1,c,h=>by simp [fp] at h; simpa using mN σ cs j c h
theorem dU {t:Nat} : ∀ {cs:List PV} {j:Nat} {c:PV},cs[j]? = some c→t∈bk c→t∈bK cs
 | [],j,c,h,_=>by simp at h
 | d::cs,0,c,h,ht=>by simp at h; subst h; simp [bK,ht]
 | d::cs,j + 1,c,h,ht=>by simp [bK]; exact .inr (dU (by simpa using h) ht)
theorem cO:∀ {l:BU} {t:Nat},t∈bZ l↔∃ B,lkU l t=some B
 | [],t=>by simp [bZ,lkU]
 | (j,B)::l,t=>by
  simp only [bZ,List.mem_cons,lkU]
  by_cases h:t=j
  ·subst h; simp
  ·simp only [h,false_or,if_false]; exact cO
mutual
theorem LX (σ : Nat→Nat) : ∀ p:PV,bk (mz σ p)=(bk p).map σ
 | .junk=>rfl
 | .d _=>rfl
 | .ptr _ _=>rfl
 | .row _ _=>rfl
 | .re _ _ _ _=>rfl
 | .vw _ _ _ _=>rfl
 | .fe _=>rfl
 | .ag cs=>by simp only [mz,bk,po σ cs]
 | .tup cs=>by simp only [mz,bk,po σ cs]
 | .fn f ps qs=>by simp only [mz,bk,po σ ps,po σ qs,List.map_append]
theorem po (σ : Nat→Nat) : ∀ cs:List PV,bK (fp σ cs)=(bK cs).map σ
 | []=>rfl
 | c::cs=>by simp only [fp,bK,LX σ c,po σ cs,List.map_append]
end
mutual
theorem Sg {σ τ : Nat→Nat} : ∀ (p:PV),(∀ t∈bk p,σ (τ t)=t)→mz σ (mz τ p)=p
 | .junk,_=>rfl
 | .d _,_=>rfl
 | .ptr t o,h=>by simp only [mz]; rw [h t (by simp [bk])]
 | .row t o,h=>by simp only [mz]; rw [h t (by simp [bk])]
 | .re t _ _ _,h=>by simp only [mz]; rw [h t (by simp [bk])]
 | .vw t _ _ _,h=>by simp only [mz]; rw [h t (by simp [bk])]
 | .fe _,_=>rfl
 | .ag cs,h=>by simp only [mz]; rw [se cs h]
 | .tup cs,h=>by simp only [mz]; rw [se cs h]
 | .fn f ps qs,h=>by simp only [mz]; rw [se ps (fun t ht=>h t (by simp [bk,ht])),se qs (fun t ht=>h t (by simp [bk,ht]))]
theorem se {σ τ : Nat→Nat} : ∀ (cs:List PV),(∀ t∈bK cs,σ (τ t)=t)→fp σ (fp τ cs)=cs
 | [],_=>rfl
 | c::cs,h=>by simp only [fp]; rw [Sg c (fun t ht=>h t (by simp [bK,ht])),se cs (fun t ht=>h t (by simp [bK,ht]))]
end
theorem Ds {σ : Nat→Nat} : ∀ {l:BU} {t:Nat} {B:Box},(∀ s∈bZ l,∀ s'∈bZ l,σ s = σ s'→s=s')→lkU l t=some B→lkU (my σ l) (σ t)=some (wi σ B)
 | [],t,B,_,h=>by cases h
 | (j,C)::l,t,B,hinj,h=>by
  simp only [lkU] at h
  simp only [my,lkU]
  by_cases ht:t=j
  ·subst ht
   rw [if_pos rfl] at h
   injection h with h
   subst h
   rw [if_pos rfl]
  ·rw [if_neg ht] at h
   have hm:t∈bZ l:=cO.2 ⟨B,h⟩
   rw [if_neg (fun e=>ht (hinj t (by simp [bZ,hm]) j (by simp [bZ]) e))]
   exact Ds (fun s hs s' hs' e=>hinj s (by simp [bZ,hs]) s' (by simp [bZ,hs']) e) h
theorem uL {σ : Nat→Nat} : ∀ {l:BU} {i:Nat} {B:Box},lkU (my σ l) i=some B→∃ t∈bZ l,i = σ t
 | [],i,B,h=>by cases h
 | (j,C)::l,i,B,h=>by
  simp only [my,lkU] at h
  by_cases hi:i = σ j
  ·exact ⟨j,by simp [bZ],hi⟩
  ·rw [if_neg hi] at h
   obtain ⟨t,h1,h2⟩:=uL h
   exact ⟨t,by simp [bZ,h1],h2⟩
section
variable {P:Program} {ρ ρ' ρ2:Nat→Value} {b b' b2:Nat→Option Box} {w w':World} {w0:WM} {F F' F0:Nat→Prop} {n:Nat} {σ τ : Nat→Nat}
theorem aR.ren {x:Value} {p:PV} (h:aR ρ b w F x p) : (∀ t∈bk p,∀ B,b t=some B→b2 (σ t)=some (wi σ B)∧ρ2 (σ t) = ρ t)→aR ρ2 b2 w F x (mz σ p):=by
 induction h with
 | junk x=>exact fun _=>.junk x
 | d x d h=>exact fun _=>.d x d h
 | ag xs cs hl h1 hr ih=>exact fun hc=>.ag xs _ (by rw [kV]; exact hl) h1 (fun j x c h2 h3=>by obtain ⟨d,h4,rfl⟩:=mN σ cs j c h3; exact ih j x d h2 h4 (fun t ht=>hc t (dU h4 ht)))
 | tup xs cs hl hr ih=>exact fun hc=>.tup xs _ (by rw [kV]; exact hl) (fun j x c h2 h3=>by obtain ⟨d,h4,rfl⟩:=mN σ cs j c h3; exact ih j x d h2 h4 (fun t ht=>hc t (dU h4 ht)))
 | ptr t off g ty cs hb hρ =>
  intro hc
  obtain ⟨h1,h2⟩:=hc t (by simp [bk]) _ hb
  exact .ptr _ off g ty _ h1 (h2.trans hρ)
 | row t n A c e k es hb hn hcc hA hρ =>
  intro hc
  obtain ⟨h1,h2⟩:=hc t (by simp [bk]) _ hb
  exact .row _ n A c e k es h1 hn hcc hA (fun h=>h2.trans (hρ h))
 | re t n i off a e k es hb hn hi hρ =>
  intro hc
  obtain ⟨h1,h2⟩:=hc t (by simp [bk]) _ hb
  exact .re _ n i off a e k es h1 hn hi (fun h=>by obtain ⟨g,c,h3,h4⟩:=hρ h; exact ⟨g,c,h2.trans h3,h4⟩)
 | vw t n lo hi A m c e k es hb hn hl hh hm hρ =>
  intro hc
  obtain ⟨h1,h2⟩:=hc t (by simp [bk]) _ hb
  exact .vw _ n lo hi A m c e k es h1 hn hl hh hm (fun h=>by obtain ⟨g,c,h3,h4⟩:=hρ h; exact ⟨g,c,h2.trans h3,h4⟩)
 | fe a cs us hF hcell hrep=>exact fun _=>.fe a cs us hF hcell hrep
 | fn f xs ys ps qs hl hr hl2 hr2 ih ih2 =>
  intro hc
  exact .fn f xs ys _ _ (by rw [kV]; exact hl) (fun j x c h2 h3=>by obtain ⟨d,h4,rfl⟩:=mN σ ps j c h3; exact ih j x d h2 h4 (fun t ht=>hc t (by simp only [bk,List.mem_append]; exact .inl (dU h4 ht))))
   (by rw [kV]; exact hl2) (fun j x c h2 h3=>by obtain ⟨d,h4,rfl⟩:=mN σ qs j c h3; exact ih2 j x d h2 h4 (fun t ht=>hc t (by simp only [bk,List.mem_append]; exact .inr (dU h4 ht))))
theorem jC.ren {own own':Nat→Prop} {t:Nat} {B:Box} (h:jC ρ b own w F t B) (hρ : ρ2 (σ t) = ρ t) (ho:∀ g,blk (ρ t)=some g→own' g) (hc:∀ t∈LZ B,∀ B,b t=some B→b2 (σ t)=some (wi σ B)∧ρ2 (σ t) = ρ t) : jC ρ2 b2 own' w F (σ t) (wi σ B):=by
 cases h with
 | st ty cs g xs hr0 hg hF0 hh hl h1 hr =>
  exact .st ty _ g xs (hρ.trans hr0) (ho g (by rw [hr0]; rfl)) hF0 hh (by rw [kV]; exact hl) h1 (fun j x c h2 h3=>by obtain ⟨d,h4,rfl⟩:=mN σ cs j c h3; exact (hr j x d h2 h4).ren (fun t ht=>hc t (dU h4 ht)))
 | rw e k es xs hk0 h1 hF0 hk hl hr hown =>
  exact .rw e k es xs hk0 (by rw [hρ]; exact h1) (by rw [hρ]; exact hF0) hk hl hr (by rw [hρ]; exact ho)
 | gn e k es hr0=>exact .gn e k es (hρ.trans hr0)
theorem aR.nb {x:Value} {p:PV} (h:aR ρ b w F x p) : aR ρ (fun i=>(b i).map sg) w F x p:=by
 induction h with
 | junk x=>exact .junk x
 | d x d h=>exact .d x d h
 | ag xs cs hl h1 hr ih=>exact .ag xs _ hl h1 ih
 | tup xs cs hl hr ih=>exact .tup xs _ hl ih
 | ptr t off g ty cs hb hρ=>exact .ptr _ off g ty (dP cs) (by rw [hb]; rfl) hρ
 | row t n A c e k es hb hn hcc hA hρ=>exact .row _ n A c e k es (by rw [hb]; rfl) hn hcc hA hρ
 | re t n i off a e k es hb hn hi hρ=>exact .re _ n i off a e k es (by rw [hb]; rfl) hn hi hρ
 | vw t n lo hi A m c e k es hb hn hl hh hm hρ=>exact .vw _ n lo hi A m c e k es (by rw [hb]; rfl) hn hl hh hm hρ
 | fe a cs us hF hcell hrep=>exact .fe a cs us hF hcell hrep
 | fn f xs ys ps qs hl hr hl2 hr2 ih ih2=>exact .fn f xs ys _ _ hl ih hl2 ih2
theorem jC.nb {own:Nat→Prop} {t:Nat} {B:Box} (h:jC ρ b own w F t B) : jC ρ (fun i=>(b i).map sg) own w F t (sg B):=by
 cases h with
 | st ty cs g xs hr0 hg hF0 hh hl h1 hr=>exact .st ty _ g xs hr0 hg hF0 hh (by rw [gg]; exact hl) h1 (fun j x c h2 h3=>by obtain ⟨d,h4,rfl⟩:=kW cs j c h3; exact (hr j x d h2 h4).nb.nrmd)
 | rw e k es xs hk0 h1 hF0 hk hl hr hown=>exact .rw e k es xs hk0 h1 hF0 hk hl hr hown
 | gn e k es hr0=>exact .gn e k es hr0
def C1 (ρ : Nat→Value) (b:Nat→Option Box) : Nat→Prop:=fun g=>∃ t B,b t=some B∧blk (ρ t)=some g
def EM (bi:BU) (K:List Nat) : Nat→Option Box:=fun t=>if t∈K then lkU bi t else none
def PCm (P:Program) (f:FuncId) (args:List PV) (bi:BU) (K:List Nat) (Q:PV→BU→Prop) : Prop :=
 d9 P f=true∧∀ (w:World) (F:Nat→Prop) (ρ : Nat→Value) (vs:Array Value),Inv ⟨w,C1 ρ (lkU bi),fun _=>none⟩ F ρ (lkU bi) w F→cG ρ (lkU bi) w F vs.toList args →
  Calls P f vs w fun e w'=>∃ v ρ' F' r bo,Q r bo∧e = .returned v∧Inv ⟨w,C1 ρ (lkU bi),fun _=>none⟩ F ρ' (lkU bo) w' F'∧Stp ρ (EM bi K) w F ρ' (lkU bo) w' F'∧aR ρ' (lkU bo) w' F' v r
def Kp (l:BU) : Prop:=∀ t B,lkU l t=some B→∀ s∈LZ B,s∈bZ l
structure abw (τi τ : Nat→Nat) (bi bo:BU) (K:List Nat) (u:BU) : Prop where
 out:∀ s B,lkU bo s=some B→lkU u (τ s)=some (wi τ B)
 gone:∀ s B,lkU bi s=some B→s ∉ K→∃ e k es es',B = .rw e k es∧lkU u (τi s)=some (.rw e k es')∧es.length < es'.length
 only:∀ i B,lkU u i=some B→(∃ s∈bZ bo,i = τ s)∨(∃ s∈bZ bi,s ∉ K∧i = τi s)
structure abz (τi τ : Nat→Nat) (bi bo:BU) (K:List Nat) : Prop where
 ii:∀ s∈bZ bi,∀ s'∈bZ bi,τi s = τi s'→s=s'
 oo:∀ s∈bZ bo,∀ s'∈bZ bo,τ s = τ s'→s=s'
 io:∀ s∈bZ bi,∀ s'∈bZ bo,τi s = τ s'→s=s'∧s∈K
 k:∀ s∈K,s∈bZ bi∧s∈bZ bo∧τi s = τ s
theorem XN {f:FuncId} {τi:Nat→Nat} {args args':List PV} {bi u:BU} {K N:List Nat} {Q:PV→BU→Prop} {r':PV} (h:PCm P f args bi K Q) (hii:∀ s∈bZ bi,∀ s'∈bZ bi,τi s = τi s'→s=s')
  (hQ:∀ r bo,Q r bo→∃ τ,abz τi τ bi bo K∧abw τi τ bi bo K u∧mz τ r=r'∧∀ s∈bZ bo,s ∉ K→τ s∈N) (hnew:∀ t∈N,t < 1000000)
  (ha:∀ s∈bK args,s∈bZ bi) (hargs:dP args' = fp τi args) (hbi:Kp bi)
  (w0:WM) (F0:Nat→Prop) (ρ : Nat→Value) (b:Nat→Option Box) (w:World) (F:Nat→Prop) (vs:Array Value) (hb:∀ s B,lkU bi s=some B→∃ B',b (τi s)=some B'∧sg B' = wi τi B) (hbn:∀ t∈N,b t=none)
  (hi:Inv w0 F0 ρ b w F) (hv:cG ρ b w F vs.toList args') :
  Calls P f vs w fun e w'=>∃ v ρ' F',e = .returned v∧Inv w0 F0 ρ' (dB b u) w' F'∧Stp ρ b w F ρ' (dB b u) w' F'∧aR ρ' (dB b u) w' F' v r':=by
 classical
 obtain ⟨_,hcall⟩:=h
 have mkσ : ∀ (τ : Nat→Nat) (dom:Nat→Prop),(∀ s,dom s→∀ s',dom s'→τ s = τ s'→s=s')→∃ σ : Nat→Nat,∀ s,dom s→σ (τ s)=s:=fun τ dom hinj=>by
  refine ⟨fun i=>if h:∃ s,dom s∧τ s=i then h.choose else i,fun s hs=>?_⟩
  have hex:∃ s',dom s'∧τ s' = τ s:=⟨s,hs,rfl⟩
  show (if h:∃ s',dom s'∧τ s' = τ s then h.choose else τ s)=s
  rw [dif_pos hex]
  exact hinj _ hex.choose_spec.1 s hs hex.choose_spec.2
 obtain ⟨σ,hσ⟩:=mkσ τi (fun s=>s∈bZ bi) hii
 let ρ0:Nat→Value:=fun s=>ρ (τi s)
 let bn:Nat→Option Box:=fun i=>(b i).map sg
 have hbt:∀ s B,lkU bi s=some B→bn (τi s)=some (wi τi B):=fun s B hs=>by
  obtain ⟨B',h1,h2⟩:=hb s B hs
  show (b (τi s)).map sg = _
  rw [h1,← h2]; rfl
 have hdi:∀ {s B},lkU bi s=some B→s∈bZ bi:=fun h=>cO.2 ⟨_,h⟩
 have hback:∀ s B,lkU bi s=some B→wi σ (wi τi B)=B:=fun s B hs=>by
  cases B with
  | st ty cs=>simp only [wi]; rw [se cs (fun t ht=>hσ t (hbi s _ hs t ht))]
  | rw=>rfl
 have hgo:∀ s∈bZ bi,∀ B',bn (τi s)=some B'→lkU bi (σ (τi s))=some (wi σ B')∧ρ0 (σ (τi s)) = ρ (τi s):=fun s hs B' hB'=>by
  obtain ⟨B,hB⟩:=cO.1 hs
  rw [hbt s B hB] at hB'
  injection hB' with hB'
  subst hB'
  rw [hσ s hs,hback s B hB]
  exact ⟨hB,rfl⟩
 have hin:∀ {x:Value} {p:PV},(∀ s∈bk p,s∈bZ bi)→aR ρ bn w F x (mz τi p)→aR ρ0 (lkU bi) w F x p:=fun {x p} hp hx=>by
  have:=hx.ren (σ:=σ) (b2:=lkU bi) (ρ2:=ρ0) (fun t ht B hB=>by
   rw [LX] at ht
   obtain ⟨s,hs,rfl⟩:=List.mem_map.1 ht
   exact hgo s (hp s hs) B hB)
  rw [Sg p (fun t ht=>hσ t (hp t ht))] at this
  exact this
 have hown:∀ s B g,lkU bi s=some B→blk (ρ0 s)=some g→g < w.heap.size∧w0.own g∧¬ F g:=fun s B g hs hg=>by
  obtain ⟨B',h1,_⟩:=hb s B hs
  exact (hi.box _ _ h1).lt hg
 have hi0:Inv ⟨w,C1 ρ0 (lkU bi),fun _=>none⟩ F ρ0 (lkU bi) w F:=by
  refine ⟨.of w rfl,fun _ h=>h,hi.flt,fun _ h=>.inl h,fun s B hs=>?_,fun s s' B B' g h1 h2 hne hg=>?_,fun t q h=>by cases h⟩
  ·obtain ⟨B1,h1,h2⟩:=hb s B hs
   have hbx:=(hi.box _ _ h1).nb
   rw [h2] at hbx
   have:=hbx.ren (σ:=σ) (ρ2:=ρ0) (b2:=lkU bi) (own':=WM.own ⟨w,C1 ρ0 (lkU bi),fun _=>none⟩) (by show ρ (τi (σ (τi s))) = ρ (τi s); rw [hσ s (hdi hs)]) (fun g hg=>.inr ⟨s,B,hs,hg⟩) (fun t ht B' hB'=>by
    have ht:t∈(LZ B).map τi:=by
     cases B with
     | st ty cs=>show t∈(bK cs).map τi; rw [← po]; exact ht
     | rw=>exact ht
    obtain ⟨s',hs',rfl⟩:=List.mem_map.1 ht
    exact hgo s' (hbi s B hs s' hs') B' hB')
   rw [hσ s (hdi hs),hback s B hs] at this
   exact this
  ·obtain ⟨B1,m1,_⟩:=hb s B h1
   obtain ⟨B2,m2,_⟩:=hb s' B' h2
   exact hi.dist _ _ _ _ g m1 m2 (fun e=>hne (hii s (hdi h1) s' (hdi h2) e)) hg
 have hv0:cG ρ0 (lkU bi) w F vs.toList args:=by
  have hlen:args'.length=args.length:=by rw [← gg args',hargs,kV]
  refine ⟨by rw [hv.len,hlen],fun j x c h1 h2=>hin (fun s hs=>ha s (dU h2 hs)) ?_⟩
  have hlt:j < args.length:=(zg.1 h2).1
  have h3:args'[j]? = some args'[j]:=by simp [hlen,hlt]
  have h4:=(hv.rep j x _ h1 h3).nb.nrmd
  have h5:(dP args')[j]? = some (qJ args'[j]):=by
   have hl2:j < (dP args').length:=by rw [gg,hlen]; exact hlt
   obtain ⟨d,h6,h7⟩:=kW args' j _ (zq hl2)
   rw [h3] at h6
   injection h6 with h6
   rw [zq hl2,h7,h6]
  have h8:(fp τi args)[j]? = some (mz τi c):=by
   have hl2:j < (fp τi args).length:=by rw [kV]; exact hlt
   obtain ⟨d,h6,h7⟩:=mN τi args j _ (zq hl2)
   rw [h2] at h6
   injection h6 with h6
   rw [zq hl2,h7,h6]
  rw [hargs,h8] at h5
  injection h5 with h5
  rw [h5]
  exact h4
 refine (hcall w F ρ0 vs hi0 hv0).mono ?_
 rintro e w' ⟨v,ρ1,F',r,bo,hq,rfl,k1,k2,k3⟩
 obtain ⟨τ,hfit,hu,hr',hN⟩:=hQ r bo hq
 rw [← hr']
 have hnew:∀ s∈bZ bo,s ∉ K→τ s < 1000000:=fun s h1 h2=>hnew _ (hN s h1 h2)
 have hbn:∀ s∈bZ bo,s ∉ K→b (τ s)=none:=fun s h1 h2=>hbn _ (hN s h1 h2)
 obtain ⟨σo,hσo⟩:=mkσ τ (fun s=>s∈bZ bo) hfit.oo
 have hdo:∀ {s B},lkU bo s=some B→s∈bZ bo:=fun h=>cO.2 ⟨_,h⟩
 let ρ':Nat→Value:=fun i=>match lkU u i with | none=>ρ i | some _=>if ∃ s,s∈bZ bo∧τ s=i then ρ1 (σo i) else .tuple #[]
 have hρin:∀ s B,lkU bo s=some B→ρ' (τ s) = ρ1 s:=fun s B hs=>by
  show (match lkU u (τ s) with | none=>ρ (τ s) | some _=>if ∃ s',s'∈bZ bo∧τ s' = τ s then ρ1 (σo (τ s)) else .tuple #[]) = ρ1 s
  rw [hu.out s B hs]
  simp only [hσo s (hdo hs)]
  rw [if_pos ⟨s,hdo hs,rfl⟩]
 have hρgone:∀ s B,lkU bi s=some B→s ∉ K→ρ' (τi s) = .tuple #[]:=fun s B hs hn=>by
  obtain ⟨e,k,es,es',_,h1,_⟩:=hu.gone s B hs hn
  show (match lkU u (τi s) with | none=>ρ (τi s) | some _=>if ∃ s',s'∈bZ bo∧τ s' = τi s then ρ1 (σo (τi s)) else .tuple #[]) = .tuple #[]
  rw [h1]
  simp only
  rw [if_neg]
  rintro ⟨s',h2,h3⟩
  exact hn (hfit.io s (hdi hs) s' h2 h3.symm).2
 have hρout:∀ i,lkU u i=none→ρ' i = ρ i:=fun i h=>by
  show (match lkU u i with | none=>ρ i | some _=>if ∃ s,s∈bZ bo∧τ s=i then ρ1 (σo i) else .tuple #[]) = ρ i
  rw [h]
 have hbin:∀ s B,lkU bo s=some B→dB b u (τ s)=some (wi τ B):=fun s B hs=>by
  simp only [dB,hu.out s B hs]
 have hbout:∀ i,lkU u i=none→dB b u i=b i:=fun i h=>by simp only [dB,h]
 have hgo':∀ s B,lkU bo s=some B→dB b u (τ s)=some (wi τ B)∧ρ' (τ s) = ρ1 s:=fun s B hs=>⟨hbin s B hs,hρin s B hs⟩
 have huse:∀ s B,lkU bi s=some B→∃ C,lkU u (τi s)=some C:=fun s B hs=>by
  by_cases hk:s∈K
  ·obtain ⟨_,h2,h3⟩:=hfit.k s hk
   obtain ⟨C,hC⟩:=cO.1 h2
   exact ⟨_,by rw [h3]; exact hu.out s C hC⟩
  ·obtain ⟨e,k,es,es',_,h1,_⟩:=hu.gone s B hs hk; exact ⟨_,h1⟩
 have houtside:∀ i B,lkU u i=none→b i=some B→∀ g,blk (ρ i)=some g→g < w.heap.size∧¬ C1 ρ0 (lkU bi) g:=fun i B h hB g hg=>by
  refine ⟨((hi.box i B hB).lt hg).1,?_⟩
  rintro ⟨s,C,hs,hg2⟩
  obtain ⟨B1,m1,_⟩:=hb s C hs
  refine hi.dist i (τi s) B _ g hB m1 (fun e=>?_) hg hg2
  obtain ⟨D,hD⟩:=huse s C hs
  rw [e,hD] at h
  cases h
 have hown':∀ g,WM.own ⟨w,C1 ρ0 (lkU bi),fun _=>none⟩ g→w0.own g:=by
  rintro g (hg | ⟨s,B,hs,hg⟩)
  ·exact .inl (Nat.le_trans hi.ext.size hg)
  ·exact (hown s B g hs hg).2.1
 have hcase:∀ i B,dB b u i=some B→(∃ s C,lkU bo s=some C∧i = τ s∧B=wi τ C)∨(lkU u i=none∧b i=some B)∨(∃ e k es,B = .rw e k es∧ρ' i = .tuple #[]):=fun i B hB=>by
  cases hl:lkU u i with
  | none=>exact .inr (.inl ⟨rfl,by rw [hbout i hl] at hB; exact hB⟩)
  | some C =>
   rcases hu.only i C hl with ⟨s,hs,rfl⟩ | ⟨s,hs,hk,rfl⟩
   ·obtain ⟨C',hC'⟩:=cO.1 hs
    rw [hbin s C' hC'] at hB
    injection hB with hB
    exact .inl ⟨s,C',hC',rfl,hB.symm⟩
   ·obtain ⟨B0,hB0⟩:=cO.1 hs
    obtain ⟨e,k,es,es',_,h1,_⟩:=hu.gone s B0 hB0 hk
    simp only [dB,h1] at hB
    injection hB with hB
    exact .inr (.inr ⟨e,k,es',hB.symm,hρgone s B0 hB0 hk⟩)
 have hold:∀ s∈bZ bo,∀ B,b (τ s)=some B→∃ B0,lkU bi s=some B0∧sg B=wi τi B0∧EM bi K s=some B0∧ρ (τ s) = ρ0 s:=fun s hs B hB=>by
  by_cases hk:s∈K
  ·obtain ⟨h1,h2,h3⟩:=hfit.k s hk
   obtain ⟨B0,hB0⟩:=cO.1 h1
   obtain ⟨B1,m1,m2⟩:=hb s B0 hB0
   rw [h3,hB] at m1
   injection m1 with m1
   subst m1
   exact ⟨B0,hB0,m2,by unfold EM; rw [if_pos hk]; exact hB0,by show ρ (τ s) = ρ (τi s); rw [h3]⟩
  ·rw [hbn s hs hk] at hB
   cases hB
 have hs:Stp ρ b w F ρ' (dB b u) w' F':=by
  refine ⟨k2.hF,k2.hw,fun t ty cs ht=>?_,fun t e k es ht=>?_⟩
  ·cases hl:lkU u t with
   | none=>exact ⟨⟨ty,cs,by rw [hbout t hl]; exact ht⟩,hρout t hl⟩
   | some C =>
    rcases hu.only t C hl with ⟨s,hs,rfl⟩ | ⟨s,hs,hk,rfl⟩
    ·obtain ⟨B0,h1,h2,h3,h4⟩:=hold s hs _ ht
     cases B0 with
     | rw=>cases h2
     | st ty0 cs0 =>
      obtain ⟨⟨ty1,cs1,h5⟩,h6⟩:=k2.hst s ty0 cs0 h3
      exact ⟨⟨ty1,_,hbin s _ h5⟩,by rw [hρin s _ h5,h6,h4]⟩
    ·exfalso
     obtain ⟨B0,hB0⟩:=cO.1 hs
     obtain ⟨e,k,es,es',rfl,_⟩:=hu.gone s B0 hB0 hk
     obtain ⟨B1,m1,m2⟩:=hb s _ hB0
     rw [m1] at ht
     injection ht with ht
     subst ht
     cases m2
  ·cases hl:lkU u t with
   | none=>exact ⟨e,es,by rw [hbout t hl]; exact ht,Nat.le_refl _,fun _=>hρout t hl⟩
   | some C =>
    rcases hu.only t C hl with ⟨s,hs,rfl⟩ | ⟨s,hs,hk,rfl⟩
    ·obtain ⟨B0,h1,h2,h3,h4⟩:=hold s hs _ ht
     cases B0 with
     | st=>cases h2
     | rw e0 k0 es0 =>
      injection h2 with q1 q2 q3
      subst q1 q2 q3
      obtain ⟨e1,es1,h5,h6,h7⟩:=k2.hrw s _ _ _ h3
      exact ⟨e1,es1,hbin s _ h5,h6,fun he=>by rw [hρin s _ h5,h7 he,h4]⟩
    ·obtain ⟨B0,hB0⟩:=cO.1 hs
     obtain ⟨e1,k1',es1,es',rfl,h1,h2⟩:=hu.gone s B0 hB0 hk
     obtain ⟨B1,m1,m2⟩:=hb s _ hB0
     rw [m1] at ht
     injection ht with ht
     subst ht
     injection m2 with q1 q2 q3
     subst q1 q2 q3
     exact ⟨e,es',by simp only [dB,h1],Nat.le_of_lt h2,fun he=>by omega⟩
 refine ⟨v,ρ',F',rfl,⟨?_,fun g hg=>k1.f0 g (hi.f0 g hg),k1.flt,fun g hg=>?_,fun i B hB=>?_,fun i i' B B' g hB hB' hne hg=>?_,hi.reg_stp hs fun t ht hn=>?_⟩,hs,k3.ren fun t ht B hB=>hgo' t B hB⟩
 ·exact hi.ext.step k1.ext.os k1.ext.tape k1.ext.output k1.ext.size fun g hg hM=>k1.ext.block g (Nat.lt_of_lt_of_le hg hi.ext.size) fun ⟨s,B,hs,hg2⟩=>vI hg hM (hown s B g hs hg2).2.1
 ·rcases k1.fnew g hg with h | h
  ·exact hi.fnew g h
  ·exact .inr (hown' g h)
 ·rcases hcase i B hB with ⟨s,C,hC,rfl,rfl⟩ | ⟨hl,hB⟩ | ⟨e,k,es,rfl,hg⟩
  ·exact (k1.box s C hC).ren (hρin s C hC) (fun g hg=>hown' g ((k1.box s C hC).lt hg).2.1) (fun t ht B hB=>hgo' t B hB)
  ·refine (hi.box i B hB).mono hs (hρout i hl) (fun g hg=>?_) (fun g hg hF=>?_)
   ·obtain ⟨h1,h2⟩:=houtside i B hl hB g hg
    exact k1.ext.block g h1 h2
   ·obtain ⟨h1,h2⟩:=houtside i B hl hB g hg
    rcases k1.fnew g hF with h | h | h
    ·exact ((hi.box i B hB).lt hg).2.2 h
    ·exact absurd h1 (Nat.not_lt.2 h)
    ·exact h2 h
  ·exact .gn e k es hg
 ·have mixed:∀ s C i B,lkU bo s=some C→lkU u i=none→b i=some B→blk (ρ1 s)=some g→blk (ρ i)≠some g:=fun s C i B hC hl hB h1 h2=>by
   obtain ⟨m1,m2⟩:=houtside i B hl hB g h2
   rcases ((k1.box s C hC).lt h1).2.1 with h | h
   ·exact absurd m1 (Nat.not_lt.2 h)
   ·exact m2 h
  rcases hcase i B hB with ⟨s,C,hC,rfl,rfl⟩ | ⟨hl,hB⟩ | ⟨e,k,es,rfl,hgo⟩
  ·rw [hρin s C hC] at hg
   rcases hcase i' B' hB' with ⟨s',C',hC',rfl,rfl⟩ | ⟨hl',hB'⟩ | ⟨e,k,es,rfl,hgo⟩
   ·rw [hρin s' C' hC']
    exact k1.dist s s' C C' g hC hC' (fun e=>hne (by rw [e])) hg
   ·rw [hρout i' hl']
    exact mixed s C i' B' hC hl' hB' hg
   ·rw [hgo]; exact fun h=>by cases h
  ·rw [hρout i hl] at hg
   rcases hcase i' B' hB' with ⟨s',C',hC',rfl,rfl⟩ | ⟨hl',hB'⟩ | ⟨e,k,es,rfl,hgo⟩
   ·rw [hρin s' C' hC']
    exact fun h=>mixed s' C' i B hC' hl hB h hg
   ·rw [hρout i' hl']
    exact hi.dist i i' B B' g hB hB' hne hg
   ·rw [hgo]; exact fun h=>by cases h
  ·rw [hgo] at hg; cases hg
 ·cases hl:lkU u t with
  | none=>rw [hbout t hl]; exact hn
  | some C =>
   exfalso
   rcases hu.only t C hl with ⟨s,hs,rfl⟩ | ⟨s,hs,hk,rfl⟩
   ·by_cases hk:s∈K
    ·obtain ⟨h1,h2,h3⟩:=hfit.k s hk
     obtain ⟨B0,hB0⟩:=cO.1 h1
     obtain ⟨B1,m1,_⟩:=hb s B0 hB0
     rw [h3,hn] at m1
     cases m1
    ·have:=hnew s hs hk
     omega
   ·obtain ⟨B0,hB0⟩:=cO.1 hs
    obtain ⟨B1,m1,_⟩:=hb s B0 hB0
    rw [m1] at hn
    cases hn
end
end
section
section
variable {P:Program} {ρ ρ' ρ2:Nat→Value} {b b' b2:Nat→Option Box} {w w':World} {w0:WM} {F F' F0:Nat→Prop} {n:Nat}
theorem aR.to {x:Value} {p:PV} (h:aR ρ b w F x p) : (∀ t∈bk p,(∀ ty cs,b t=some (.st ty cs)→∃ cs',b2 t=some (.st ty cs'))∧∀ e k es,b t=some (.rw e k es)→b2 t=some (.rw e k es))→aR ρ b2 w F x p:=by
 induction h with
 | junk x=>exact fun _=>.junk x
 | d x d h=>exact fun _=>.d x d h
 | ag xs cs hl h1 hr ih=>exact fun hc=>.ag xs _ hl h1 (fun j x c h2 h3=>ih j x c h2 h3 (fun t ht=>hc t (dU h3 ht)))
 | tup xs cs hl hr ih=>exact fun hc=>.tup xs _ hl (fun j x c h2 h3=>ih j x c h2 h3 (fun t ht=>hc t (dU h3 ht)))
 | ptr t off g ty cs hb hρ =>
  intro hc
  obtain ⟨cs',h1⟩:=(hc t (by simp [bk])).1 _ _ hb
  exact .ptr _ off g ty _ h1 hρ
 | row t n A c e k es hb hn hcc hA hρ =>
  intro hc
  exact .row _ n A c e k es ((hc t (by simp [bk])).2 _ _ _ hb) hn hcc hA hρ
 | re t n i off a e k es hb hn hi hρ =>
  intro hc
  exact .re _ n i off a e k es ((hc t (by simp [bk])).2 _ _ _ hb) hn hi hρ
 | vw t n lo hi A m c e k es hb hn hl hh hm hρ =>
  intro hc
  exact .vw _ n lo hi A m c e k es ((hc t (by simp [bk])).2 _ _ _ hb) hn hl hh hm hρ
 | fe a cs us hF hcell hrep=>exact fun _=>.fe a cs us hF hcell hrep
 | fn f xs ys ps qs hl hr hl2 hr2 ih ih2 =>
  intro hc
  exact .fn f xs ys _ _ hl (fun j x c h2 h3=>ih j x c h2 h3 (fun t ht=>hc t (by simp only [bk,List.mem_append]; exact .inl (dU h3 ht))))
   hl2 (fun j x c h2 h3=>ih2 j x c h2 h3 (fun t ht=>hc t (by simp only [bk,List.mem_append]; exact .inr (dU h3 ht))))
mutual
theorem LY:∀ p:PV,bk (qJ p)=bk p
 | .junk=>rfl
 | .d _=>rfl
 | .ptr _ _=>rfl
 | .row _ _=>rfl
 | .re _ _ _ _=>rfl
 | .vw _ _ _ _=>rfl
 | .fe _=>rfl
 | .ag cs=>by simp only [qJ,bk,pq cs]
 | .tup cs=>by simp only [qJ,bk,pq cs]
 | .fn f ps qs=>by simp only [qJ,bk,pq ps,pq qs]
theorem pq:∀ cs:List PV,bK (dP cs)=bK cs
 | []=>rfl
 | c::cs=>by simp only [dP,bK,LY c,pq cs]
end
def yD (ρ : Nat→Value) (bi:BU) (K:List Nat) : Nat→Option (Value×Option (Nat×Nat)):=fun t=>if t∈K then (match lkU bi t with
 | some (.st _ _)=>some (ρ t,none)
 | some (.rw _ k es)=>some (ρ t,some (k,es.length))
 | none=>none) else none
def abu (P:Program) (fn:Func) (K:List Nat) (Q:PV→BU→Prop) (e:Exit) (s:PS) : Prop :=
 (match e with | .normal=>True | .ret=>True | _=>False)∧∃ r bo,Q r bo∧(∀ t∈K,t∈bZ bo)∧(∀ s∈bk r,s∈bZ bo)∧Kp bo∧(∃ p,rp P fn s=some p∧qJ p=r)∧∀ t B,lkU bo t=some B→∃ B',s.b t=some B'∧sg B' = B
theorem TX {f:FuncId} {fn:Func} {c:Code} {args:List PV} {bi:BU} {K:List Nat} {Q:PV→BU→Prop} (hf:P.funcs[f]? = some fn) (hb:fn.body=some c) (hcb:d9 P f=true) (hlen:args.length≤fn.ntmps)
  (hid:∀ t∈K,1000000≤t) (h:PWP P fn.ntmps c (abu P fn K Q) ⟨mD args,lkU bi⟩) : PCm P f args bi K Q:=by
 refine ⟨hcb,fun w F ρ vs hi0 hv=>?_⟩
 refine calls_of_wp hf hb ?_
 have hl:vs.size=args.length:=by have:=hv.len; simpa using this
 have hi1:Inv ⟨w,C1 ρ (lkU bi),yD ρ bi K⟩ F ρ (lkU bi) w F:=by
  refine ⟨⟨hi0.ext.os,hi0.ext.tape,hi0.ext.output,hi0.ext.size,hi0.ext.block⟩,hi0.f0,hi0.flt,hi0.fnew,hi0.box,hi0.dist,fun t q hq=>?_⟩
  have hq:yD ρ bi K t=some q:=hq
  unfold yD at hq
  split at hq
  ·rename_i hk
   split at hq
   ·rename_i ty cs hB
    injection hq with hq
    subst hq
    exact ⟨hid t hk,.inr ⟨⟨ty,cs,hB⟩,rfl⟩⟩
   ·rename_i e k es hB
    injection hq with hq
    subst hq
    exact ⟨hid t hk,.inr ⟨e,es,hB,Nat.le_refl _,fun _=>rfl⟩⟩
   ·cases hq
  ·cases hq
 have hc:ow fn.ntmps ⟨w,C1 ρ (lkU bi),yD ρ bi K⟩ F ⟨mD args,lkU bi⟩ { tmps:=vs++Array.replicate (fn.ntmps - vs.size) undef,defers:=[] } w:=by
  refine ⟨by simp; omega,rfl,ρ,F,hi1,fun i=>?_⟩
  by_cases hi:i < vs.size
  ·have e1:(vs++Array.replicate (fn.ntmps - vs.size) undef).getD i undef=vs[i]:=by simp [Array.getElem?_append,hi]
   show aR ρ (lkU bi) w F _ (mD args i)
   rw [e1]
   have hia:i < args.length:=by omega
   unfold mD
   rw [zq hia]
   exact hv.rep i _ _ (by simp [hi]) (zq hia)
  ·show aR ρ (lkU bi) w F _ (mD args i)
   unfold mD
   rw [List.getElem?_eq_none (by omega)]
   exact .junk _
 refine wp_mono (h ⟨w,C1 ρ (lkU bi),yD ρ bi K⟩ F _ w hc) fun e a' w' ⟨s',⟨hex,r,bo,hq,hid2,hr,hbo,⟨p,h1,h2⟩,h3⟩,_,hd,ρ',F',hi,hev⟩=>?_
 obtain ⟨v,hv1,hv2⟩:=Eb (P:=P) hi hev h1
 have hto:∀ t∈bZ bo,(∀ ty cs,s'.b t=some (.st ty cs)→∃ cs',lkU bo t=some (.st ty cs'))∧∀ e k es,s'.b t=some (.rw e k es)→lkU bo t=some (.rw e k es):=fun t ht=>by
  obtain ⟨B,hB⟩:=cO.1 ht
  obtain ⟨B',hB',hn⟩:=h3 t B hB
  refine ⟨fun ty cs k=>?_,fun e k es k1=>?_⟩
  ·rw [hB'] at k
   injection k with k
   subst k
   exact ⟨_,by rw [hB,← hn]; rfl⟩
  ·rw [hB'] at k1
   injection k1 with k1
   subst k1
   rw [hB,← hn]; rfl
 have hbox:∀ t B,lkU bo t=some B→jC ρ' (lkU bo) (WM.own ⟨w,C1 ρ (lkU bi),fun _=>none⟩) w' F' t B:=fun t B hB=>by
  obtain ⟨B',hB',rfl⟩:=h3 t B hB
  have hbx:=hi.box t B' hB'
  have hcl:=hbo t _ hB
  cases hbx with
  | st ty cs g xs hr0 hg hF0 hh hl h1 hr =>
   refine .st ty _ g xs hr0 hg hF0 hh (by rw [gg]; exact hl) h1 (fun j x c k1 k2=>?_)
   obtain ⟨d,k3,rfl⟩:=kW cs j c k2
   refine ((hr j x d k1 k3).to fun s hs=>hto s (hcl s ?_)).nrmd
   show s∈bK (dP cs)
   rw [pq]
   exact dU k3 hs
  | rw e k es xs hk0 m1 m2 m3 m4 m5 m6=>exact .rw e k es xs hk0 m1 m2 m3 m4 m5 m6
  | gn e k es m1=>exact .gn e k es m1
 have hstp:Stp ρ (EM bi K) w F ρ' (lkU bo) w' F':=by
  have hk:∀ t B,EM bi K t=some B→lkU bi t=some B∧t∈K∧t∈bZ bo:=fun t B ht=>by
   unfold EM at ht
   split at ht
   ·rename_i hk; exact ⟨ht,hk,hid2 t hk⟩
   ·cases ht
  refine ⟨fun g hg=>hi.f0 g hg,fun g hg=>?_,fun t ty cs ht=>?_,fun t e k es ht=>?_⟩
  ·exact hi.ext.block g (hi0.flt g hg) fun ⟨t,B,hB,hg2⟩=>((hi0.box t B hB).lt hg2).2.2 hg
  ·obtain ⟨ht,hkt,m1⟩:=hk t _ ht
   have m2:=(hi.reg t (ρ t,none) (by show yD ρ bi K t = _; unfold yD; rw [if_pos hkt,ht])).2
   rcases m2 with m2 | ⟨⟨ty',cs',m2⟩,m3⟩
   ·obtain ⟨B,hB⟩:=cO.1 m1
    obtain ⟨B',hB',_⟩:=h3 t B hB
    rw [m2] at hB'
    cases hB'
   ·obtain ⟨cs2,h5⟩:=(hto t m1).1 _ _ m2
    exact ⟨⟨_,_,h5⟩,m3⟩
  ·obtain ⟨ht,hkt,m1⟩:=hk t _ ht
   have m2:=(hi.reg t (ρ t,some (k,es.length)) (by show yD ρ bi K t = _; unfold yD; rw [if_pos hkt,ht])).2
   rcases m2 with m2 | ⟨e',es',m2,m3,m4⟩
   ·obtain ⟨B,hB⟩:=cO.1 m1
    obtain ⟨B',hB',_⟩:=h3 t B hB
    rw [m2] at hB'
    cases hB'
   ·exact ⟨e',es',(hto t m1).2 _ _ _ m2,m3,m4⟩
 have hinv:Inv ⟨w,C1 ρ (lkU bi),fun _=>none⟩ F ρ' (lkU bo) w' F':=by
  refine ⟨⟨hi.ext.os,hi.ext.tape,hi.ext.output,hi.ext.size,hi.ext.block⟩,hi.f0,hi.flt,hi.fnew,hbox,fun t t' B B' g k1 k2 hne hg=>?_,fun t q hq=>by cases hq⟩
  obtain ⟨_,m1,_⟩:=h3 t B k1
  obtain ⟨_,m2,_⟩:=h3 t' B' k2
  exact hi.dist t t' _ _ g m1 m2 hne hg
 have hres:aR ρ' (lkU bo) w' F' v r:=by
  rw [← h2]
  exact (hv2.to fun s hs=>hto s (hr s (by rw [← h2,LY]; exact hs))).nrmd
 have fin:a'.defers = []∧∃ v,(results fn a'.tmps).run P w' = .ok v w'∧∃ v' ρ'' F'' r bo,Q r bo∧Ending.returned v = .returned v'∧Inv ⟨w,C1 ρ (lkU bi),fun _=>none⟩ F ρ'' (lkU bo) w' F''∧Stp ρ (EM bi K) w F ρ'' (lkU bo) w' F''∧aR ρ'' (lkU bo) w' F'' v' r :=
  ⟨hd,v,hv1,v,ρ',F',r,bo,hq,rfl,hinv,hstp,hres⟩
 cases e with
 | normal=>exact fin
 | ret=>exact fin
 | exit _=>exact hex.elim
 | goto _=>exact hex.elim
 | panic _=>exact hex.elim
 | outgrown=>exact hex.elim
end
end
section
variable {B:List (Nat×Option bc)} {s:SS} {p:PS} {P:Program} {ρ : Type}
theorem n9 (hs:Sim s p) : ∀ l:List Operand,ce s.bx (wl s l) (l.map (ev p))
 | []=>.nil
 | x::l=>.cons (bW hs x) (n9 hs l)
theorem Wt {c:Bool} {v w z:SV} {q r:PV} (hv:bj B v q) (hw:bj B w r) (h:Wu c v w=some z) : bj B z (if c then q else r):=by
 unfold Wu at h
 split at h
 ·split at h
  ·rename_i hk
   subst hk
   injection h with h
   subst h
   obtain rfl:=jY hv
   obtain rfl:=jY hw
   cases c
   ·exact fW _ _
   ·exact fW _ _
  ·cases h
 ·injection h with h
  subst h
  obtain rfl:=ld hv
  obtain rfl:=ld hw
  cases c
  ·exact fc _
  ·exact fc _
 ·injection h with h
  subst h
  obtain rfl:=rl hv
  obtain rfl:=rl hw
  cases c
  ·exact wI _
  ·exact wI _
 ·cases c
  ·injection h with h; subst h; exact hw
  ·injection h with h; subst h; exact hv
theorem TC {x:ByteArray} {i z:Int} (h:lu x i=some z) : 0≤i∧∃ c:UInt8,x.data.toList[i.toNat]? = some c∧z=(c.toNat:Int):=by
 unfold lu at h
 split at h
 ·rename_i h0
  rw [zm] at h
  obtain ⟨c,h1,h2⟩:=h
  exact ⟨h0,c,h1,h2.symm⟩
 ·cases h
theorem Iq {B:List (Nat×Option bc)} {kd:IntKind} : ∀ (cs:List SV) (xs:List Int),SH kd cs=some xs→∀ (j:Nat) (z:Int),xs[j]? = some z→∀ qs,ce B cs qs→∃ q,qs[j]? = some q∧q = .d (.v (.int kd z))
 | [],xs,h,j,z,hj,qs,hq=>by
  injection h with h
  subst h
  cases hj
 | c::cs,xs,h,j,z,hj,qs,hq=>by
  unfold SH at h
  split at h
  ·rename_i hc0
   cases hc0
  ·rename_i kd' x l hcl
   injection hcl with e1 e2
   subst e1 e2
   split at h
   ·rename_i hk
    subst hk
    split at h
    ·rename_i r hr
     injection h with h
     subst h
     have hlen : 0 < qs.length:=by rw [← hq.len]; exact Nat.succ_pos _
     match qs,hlen with
     | q::qs,_ =>
     cases j with
     | zero =>
      injection hj with hj
      subst hj
      exact ⟨q,rfl,jY (hq.rep 0 _ _ rfl rfl)⟩
     | succ j =>
      exact Iq _ r hr j z hj qs ⟨by simpa using hq.len,fun i a b ha hb=>hq.rep (i + 1) a b ha hb⟩
    ·cases h
   ·cases h
  ·cases h
theorem Zo {o:Oper} (hs:Sim s p) {k:SV→Upd→Option ρ} {res : ρ} (hst:∀ t x y,o.op = .store t x y→o.dst=none) (h:Zp P o s k=some res) : OL s p o.dst k res (eff P o p):=by
 unfold Zp at h
 unfold eff
 split at h
 all_goals
  rename_i ho
  simp only [ho]
 ·exact ⟨_,.no,_,none,rfl,h,kI hs (bW hs _),trivial,dF⟩
 ·exact ⟨_,.no,_,none,rfl,h,kI hs (bW hs _),trivial,dF⟩
 ·rename_i c x y
  split at h
  ·rename_i t hc
   split at h
   ·rename_i v hv
    have hq:=bW hs c
    rw [hc] at hq
    have hb:asB (ev p c)=some t:=by rw [ld hq]; rfl
    simp only [hb]
    exact ⟨_,.no,_,none,rfl,h,kI hs (Wt (bW hs x) (bW hs y) hv),trivial,dF⟩
   ·cases h
  ·cases h
 ·rename_i e
  split at h
  ·rename_i t i hd hi
   split at h
   ·rename_i z hb hz
    obtain ⟨h1,h2⟩:=aq h
    obtain ⟨hfr,h1⟩:=mQ h1
    have hbd:p.b t=none:=by have:=hs.bx t; rw [hb] at this; exact this hfr
    refine ⟨_,_,.ptr t 0,some (t,.st e (pG i)),?_,h2,?_,⟨h1,hb⟩,yK hb hd⟩
    ·simp [uU,hd,hi,hbd]
    ·exact o0 hs (qX hb) (fun _=>⟨_,rfl,vF hz⟩) (.ptr t 0 _ _ (by rw [av,if_pos rfl]))
   ·cases h
  ·cases h
 ·rename_i e x
  split at h
  ·rename_i t cs hd hc
   split at h
   ·rename_i hb
    obtain ⟨h1,h2⟩:=aq h
    obtain ⟨hfr,h1⟩:=mQ h1
    have hbd:p.b t=none:=by have:=hs.bx t; rw [hb] at this; exact this hfr
    obtain ⟨qs,h3,h4⟩:=Bs (bW hs x) hc
    refine ⟨_,_,.ptr t 0,some (t,.st e qs),?_,h2,?_,⟨h1,hb⟩,yK hb hd⟩
    ·simp [Fw,hd,h3,hbd]
    ·exact o0 hs (qX hb) (fun _=>⟨_,rfl,h4.mono (qX hb)⟩) (.ptr t 0 _ _ (by rw [av,if_pos rfl]))
   ·cases h
  ·cases h
 ·rename_i t ps
  split at h
  ·rename_i i pl hi hf
   split at h
   ·rename_i z hz
    split at h
    ·rename_i cs hcs
     obtain ⟨qs,h1,h2⟩:=E9 hs _ (vF hz) hcs
     refine ⟨_,.no,.ag qs,none,?_,h,kI hs (.ag _ _ h2.len h2.rep),trivial,dF⟩
     simp only [y5,hi,hf,h1]
     rfl
    ·cases h
   ·cases h
  ·cases h
 ·exact FR hs h
 ·rename_i t x
  split at h
  ·rename_i v hv
   obtain ⟨r,h1,h2⟩:=Mq hs (bW hs x) hv
   exact ⟨_,.no,r,none,by simp [h1],h,kI hs h2,trivial,dF⟩
  ·cases h
 ·rename_i t x y
  exact Tv hs (hst _ _ _ ho) (bW hs x) (bW hs y) h
 ·rename_i op t x y yt
  exact (ZH (bW hs x) (bW hs y) (fun n kd z hn hz=>WW hn hz) h).done hs
 ·rename_i op t x
  exact (aae (bW hs x) h).done hs
 ·rename_i src dst x
  exact (XG hs (bW hs x) h).done hs
 ·rename_i t x lo hi
  exact (Tz hs (bW hs x) h).done hs
 ·rename_i t x f
  exact (G8 (bW hs x) h).done hs
 ·rename_i t x f
  exact (Um (bW hs x) h).done hs
 ·rename_i t x i
  exact G6 hs (bW hs x) (bW hs i) h
 ·rename_i x i
  split at h
  ·rename_i vs hv
   split at h
   ·rename_i v hvi
    have hq:=bW hs x
    rw [hv] at hq
    obtain ⟨qs,h1,h2⟩:=VY hq
    have hlt:i < qs.length:=by rw [← h2.len]; exact (zg.1 hvi).1
    have hqi:qs[i]? = some qs[i]:=by simp [hlt]
    refine ⟨_,.no,qs[i],none,?_,h,kI hs (h2.rep i _ _ hvi hqi),trivial,dF⟩
    simp [tn,h1,hqi]
   ·cases h
  ·cases h
 ·rename_i t x i
  split at h
  ·rename_i sx kd ix hu hx hi
   obtain ⟨z,h1,h2⟩:=bindS h
   obtain ⟨h3,c,h4,rfl⟩:=TC h1
   have hq:=bW hs x
   rw [hx] at hq
   have hr:=bW hs i
   rw [hi] at hr
   refine ⟨_,.no,_,none,?_,h2,kI hs (fW .u8 _),trivial,dF⟩
   simp [Fq,Dy,hu,rl hq,jY hr,asS,asI,h3,h4]
  ·rename_i n e cs kd0 ix hu hx hi
   split at h
   ·rename_i ie kd hie hue
    split at h
    ·rename_i xs hxs
     obtain ⟨hsz,h⟩:=aq h
     obtain ⟨hln,h⟩:=aq h
     obtain ⟨z,h1,h2⟩:=bindS h
     obtain ⟨h3,h4,h5⟩:=Bb h1
     have hq:=bW hs x
     rw [hx] at hq
     have hr:=bW hs i
     rw [hi] at hr
     obtain ⟨qs,hq1,hq2⟩:=DQ hq
     have hsz:=Nat.eq_of_beq_eq_true hsz
     have hln:=Nat.eq_of_beq_eq_true hln
     obtain ⟨q,hq3,rfl⟩:=Iq cs xs hxs ix.toNat z h4 qs hq2
     refine ⟨_,.no,.d (.v (.int kd z)),none,?_,h2,kI hs (fW kd _),trivial,dF⟩
     have hagg:ie.agg=false:=by
      obtain ⟨_,_,_,_,_,_,_,_,_,ha,_⟩:=dm hie
      rw [ha]; unfold jc; rw [hue]
     have hd:(qs.drop ix.toNat).head? = some (.d (.v (.int kd z))):=by
      rw [List.head?_drop]; exact hq3
     simp [Fq,hu,hq1,jY hr,asI,hie,hsz,hagg,B8,hd,h3,show ix < (n:Int) by omega]
    ·cases h
   ·cases h
  ·cases h
 ·rename_i c
  split at h
  ·rename_i f hf
   simp only [hf]
   unfold Nm at h
   unfold tq
   have hargs:=n9 hs c.args.toList
   split at h
   ·split at h
    ·rename_i x t hx ht
     rw [hx] at hargs
     rcases hargs.cases with ⟨h1,_⟩ | ⟨v,q,vs,qs,h1,h2,h3,h4⟩
     ·cases h1
     ·injection h1 with e1 e2
      subst e1 e2
      rcases h4.cases with ⟨_,rfl⟩ | ⟨_,_,_,_,h5,_⟩
      ·simp only [h2,ht]
       exact (Zf hs h3 h).done hs
      ·cases h5
    ·cases h
   ·split at h
    ·rename_i x y t t' hx ht
     rw [hx] at hargs
     rcases hargs.cases with ⟨h1,_⟩ | ⟨v,q,vs,qs,h1,h2,h3,h4⟩
     ·cases h1
     ·injection h1 with e1 e2
      subst e1 e2
      rcases h4.cases with ⟨h5,_⟩ | ⟨v2,q2,vs2,qs2,h5,h6,h7,h8⟩
      ·cases h5
      ·injection h5 with e1 e2
       subst e1 e2
       rcases h8.cases with ⟨_,rfl⟩ | ⟨_,_,_,_,h9,_⟩
       ·subst h6
        simp only [h2,ht]
        split at h
        ·rename_i htt
         have htt:t' = t:=by simpa using htt
         rw [if_pos htt]
         exact (P9 hs h3 h7 h).1
        ·cases h
       ·cases h9
    ·cases h
   ·split at h
    ·rename_i x xs hx
     rw [hx] at hargs
     rcases hargs.cases with ⟨h1,_⟩ | ⟨v,q,vs,qs,h1,h2,h3,h4⟩
     ·cases h1
     ·injection h1 with e1 e2
      subst e1 e2
      split at h
      ·rename_i w hw
       obtain ⟨r,h5,h6⟩:=A1 false xs x w q qs h3 h4 hw
       simp only [h2]
       exact ⟨_,.no,r,none,by simp [show tj q qs=some r from h5],h,kI hs h6,trivial,dF⟩
      ·cases h
    ·cases h
   ·split at h
    ·rename_i x xs hx
     rw [hx] at hargs
     rcases hargs.cases with ⟨h1,_⟩ | ⟨v,q,vs,qs,h1,h2,h3,h4⟩
     ·cases h1
     ·injection h1 with e1 e2
      subst e1 e2
      split at h
      ·rename_i w hw
       obtain ⟨r,h5,h6⟩:=A1 true xs x w q qs h3 h4 hw
       simp only [h2]
       exact ⟨_,.no,r,none,by simp [show tm q qs=some r from h5],h,kI hs h6,trivial,dF⟩
      ·cases h
    ·cases h
   ·split at h
    ·rename_i x y t t' hx ht
     rw [hx] at hargs
     rcases hargs.cases with ⟨h1,_⟩ | ⟨v,q,vs,qs,h1,h2,h3,h4⟩
     ·cases h1
     ·injection h1 with e1 e2
      subst e1 e2
      rcases h4.cases with ⟨h5,_⟩ | ⟨v2,q2,vs2,qs2,h5,h6,h7,h8⟩
      ·cases h5
      ·injection h5 with e1 e2
       subst e1 e2
       rcases h8.cases with ⟨_,rfl⟩ | ⟨_,_,_,_,h9,_⟩
       ·subst h6
        simp only [h2,ht]
        exact XE hs h3 h7 h
       ·cases h9
    ·cases h
   ·cases h
  ·cases h
 ·rename_i f ps qs
  have h1:=n9 hs ps.toList
  have h2:=n9 hs qs.toList
  exact ⟨_,.no,_,none,rfl,h,kI hs (.fn f _ _ _ _ h1.len h1.rep h2.len h2.rep),trivial,dF⟩
 ·rename_i t x y
  exact WT hs h
 ·rename_i x
  exact (Y9 (bW hs x) h).done hs
 ·cases h
def toC:(c:CT)→c.den→PV
 | .v t,x=>.d (qK t x).toD
 | .a i,x=>.ag ((stD i x).map .d)
 | .pl t,x=>.fe [(qK t x).toD]
 | .ps i,x=>.fe (stD i x)
def DY:(cs:List CT)→uW cs→List PV
 | [],_=>[]
 | c::cs,x=>toC c x.1::DY cs x.2
def pH:(p:PT)→p.den→PV
 | .lf t,x=>.d (qK t x).toD
 | .ag i,x=>.ag ((stD i x).map .d)
 | .pl t,x=>.fe [(qK t x).toD]
 | .ps i,x=>.fe (stD i x)
 | .fn f a b,x=>.fn f (DY a x.1) (DY b x.2)
 | .own ..,_=>.junk
 | .mv ..,_=>.junk
 | .bx ..,_=>.junk
 | .agr ..,_=>.junk
 | .io _,_=>.junk
def rU:(ps:List PT)→cE ps→List PV
 | [],_=>[]
 | p::ps,x=>pH p x.1::rU ps x.2
def yy:(rs:List PT)→bl rs→List PV
 | [],_=>[]
 | [p],x=>[pH p x]
 | p::q::l,x=>pH p x.1::yy (q::l) x.2
def toR (rs:List PT) (x:bl rs) : PV:=match rs,x with
 | [p],x=>pH p x
 | rs,x=>.tup (yy rs x)
def ej (rows:List (Nat×Nat×Nat×Nat×Ty)) : Nat→List D→List PV
 | _,[]=>[]
 | j,d::ds=>(match pV rows j with
  | some (R,_,_,_)=>(match d with | .sl es=>.row R es.length | .v _=>.junk)
  | none=>.d d)::ej rows (j + 1) ds
def ci (rows:List (Nat×Nat×Nat×Nat×Ty)) : Nat→List D→BU
 | _,[]=>[]
 | j,d::ds=>match pV rows j with
  | some (R,e,k,_)=>(match d with | .sl es=>(R,.rw e k es)::ci rows (j + 1) ds | .v _=>ci rows (j + 1) ds)
  | none=>ci rows (j + 1) ds
def rwU (e k:Nat) (t:Ty) (xs:List t.den) : Box:=.rw e k (xs.map (bH t))
def toI:(p:PT)→List Nat→p.den→PV×BU
 | .own e k t,is,xs=>(match is with | [i]=>(.row i (show List t.den from xs).length,[(i,rwU e k t xs)]) | _=>(.junk,[]))
 | .mv e k t,is,xs=>(match is with | [i]=>(.row i (show List t.den from xs).length,[(i,rwU e k t xs)]) | _=>(.junk,[]))
 | .bx ty n rows,is,x=>(match is with | i::is=>(.ptr i 0,(i,.st ty (ej (mu rows is) 0 (stD n x)))::ci (mu rows is) 0 (stD n x)) | _=>(.junk,[]))
 | .agr n rows,is,x=>(.ag (ej (mu rows is) 0 (stD n x)),ci (mu rows is) 0 (stD n x))
 | .io _,_,_=>(.junk,[])
 | .lf t,_,x=>(pH (.lf t) x,[])
 | .ag i,_,x=>(pH (.ag i) x,[])
 | .pl t,_,x=>(pH (.pl t) x,[])
 | .ps i,_,x=>(pH (.ps i) x,[])
 | .fn f a b,_,x=>(pH (.fn f a b) x,[])
def dS:(ps:List PT)→List (List Nat)→cE ps→List PV×BU
 | [],_,_=>([],[])
 | p::ps,is::iss,x=>((toI p is x.1).1::(dS ps iss x.2).1,(toI p is x.1).2++(dS ps iss x.2).2)
 | _ :: _,[],_=>([],[])
def ZX:Box→Box
 | .rw e k es=>.rw e k (es ++ [[]])
 | B=>B
def Cf (l:BU) : List Nat→BU
 | []=>[]
 | t::ts=>(t,match lkU l t with | some B=>ZX B | none=>.st 0 [])::Cf l ts
def toO:(p:PT)→(b:IB)→List Nat→List Nat→p.den→b.den→BU
 | .own ..,.own e k t,is,_,_,xs=>(match is with | [i]=>[(i,rwU e k t xs)] | _=>[])
 | .bx ..,.bx ty n rows,is,js,_,x=>(match is with | i :: _=>(i,.st ty (ej (mu rows js) 0 (stD n x)))::ci (mu rows js) 0 (stD n x) | _=>[])
 | _,_,_,_,_,_=>[]
def EV:PT→List Nat→List Nat
 | .mv ..,is=>is
 | .bx ..,_ :: is=>is
 | _,_=>[]
def oS:List PT→List (List Nat)→List Nat
 | p::ps,is::iss=>EV p is++oS ps iss
 | _,_=>[]
def OV:(ps:List PT)→(ls:List IB)→List (List Nat)→List (List Nat)→cE ps→yI ls→BU
 | p::ps,b::ls,is::iss,js::kss,x,o=>toO p b is js x.1 o.1++OV ps ls iss kss x.2 o.2
 | _,_,_,_,_,_=>[]
def cR:(rs:List PT)→List (List Nat)→bl rs→List PV×BU
 | [p],is :: _,x=>([(toI p is x).1],(toI p is x).2)
 | p::q::l,is::iss,x=>((toI p is x.1).1::(cR (q::l) iss x.2).1,(toI p is x.1).2++(cR (q::l) iss x.2).2)
 | _,_,_=>([],[])
def yJ:List PV→PV
 | [v]=>v
 | vs=>.tup vs
def aba:(p:PT)→(b:IB)→p.den→b.den→Prop
 | .own _ _ t,.own _ _ t',x,o=>(show List t'.den from o).length=(show List t.den from x).length
 | _,_,_,_=>True
def Mt:(ps:List PT)→(ls:List IB)→cE ps→yI ls→Prop
 | p::ps,b::ls,x,o=>aba p b x.1 o.1∧Mt ps ls x.2 o.2
 | _,_,_,_=>True
def i8:List PT→List (List Nat)→Prop
 | [],[]=>True
 | p::ps,is::iss=>is.length=p.nI∧i8 ps iss
 | _,_=>False
def kp:List IB→List (List Nat)→Prop
 | [],[]=>True
 | b::ls,js::kss=>js.length=b.nJ∧kp ls kss
 | _,_=>False
def pR (ps rs:List PT) (iss kss jss:List (List Nat)) (x:cE ps) (r:bl rs) : BU:=OV ps (cw rs) iss kss x (jX rs r)++((cR (ff rs) jss (ja rs r)).2++Cf (dS ps iss x).2 (oS ps iss))
def abA (P:Program) (f:FuncId) (ps rs:List PT) (x:cE ps) (r:bl rs) : Prop :=
 Mt ps (cw rs) x (jX rs r)∧∀ iss kss jss,i8 ps iss→kp (cw rs) kss→i8 (ff rs) jss→(bu iss++(bu kss++bu jss)).Nodup→(∀ j∈bu kss++bu jss,j < 1000000)→(∀ i∈bu iss,i∈bZ (dS ps iss x).2)→d9 P f=true ∧
  ∀ (w0:WM) (F0:Nat→Prop) (ρ : Nat→Value) (b:Nat→Option Box) (w:World) (F:Nat→Prop) (vs:Array Value) (args:List PV),dP args=(dS ps iss x).1→(∀ t B,lkU (dS ps iss x).2 t=some B→∃ B',b t=some B'∧sg B' = B)→(∀ t∈bu kss++bu jss,b t=none) →
   Inv w0 F0 ρ b w F→cG ρ b w F vs.toList args→Calls P f vs w fun e w'=>∃ v ρ' F',e = .returned v∧Inv w0 F0 ρ' (dB b (pR ps rs iss kss jss x r)) w' F'∧Stp ρ b w F ρ' (dB b (pR ps rs iss kss jss x r)) w' F'∧aR ρ' (dB b (pR ps rs iss kss jss x r)) w' F' v (yJ (cR (ff rs) jss (ja rs r)).1)
def bR (P:Program) (f:FuncId) (ps rs:List PT) (F:cE ps→Option (bl rs)) : Prop:=∀ x r,F x=some r→((pd ps||pd rs)=false→PC P f (rU ps x) (toR rs r))∧((pd ps||pd rs)=true→abA P f ps rs x r)
def qY (P:Program) (T:List (Nat×Ent)) : Prop:=∀ f vs en,lkE T f vs=some en→bR P f en.ps en.rs en.f
theorem qY.nil:qY P []:=fun f vs en h=>by cases h
theorem qY.cons {T:List (Nat×Ent)} {f:FuncId} {ps rs:List PT} {F:cE ps→Option (bl rs)} (h:bR P f ps rs F) (hT:qY P T) : qY P ((f,⟨ps,rs,F⟩)::T):=by
 intro g vs en hg
 simp only [lkE,cU] at hg
 by_cases e:g=f
 ·subst e
  simp only [decide_true] at hg
  split at hg
  ·injection hg with hg
   subst hg
   exact h
  ·exact hT g vs en hg
 ·simp only [e,decide_false] at hg
  exact hT g vs en hg
theorem Dx {t:Ty} {c:SD} {x:t.den} (h:c.as t=some x) : (qK t x).toD=c.toD:=by
 have h1:=SD.as_ok h
 cases t with
 | st i=>simp [SD.as] at h
 | _=>simp only [bH,List.cons.injEq,and_true] at h1; exact h1
theorem XB (hs:Sim s p) {t:Ty} {v:SV} {q:PV} {x:t.den} (hv:bj s.bx v q) (h:Zt s t v=some x) : asData p.b q = .d (qK t x).toD∧(pO v=true→clean q=true∧asData eb q = .d (qK t x).toD):=by
 unfold Zt at h
 split at h
 ·rename_i c hc
  have:=XA hs hv hc
  simp only [Dx h]
  exact this
 ·cases h
theorem abt (hs:Sim s p) {i:Nat} {v:SV} {q:PV} {x:ST i} (hv:bj s.bx v q) (h:Zw s i v=some x) : asData p.b q = .ag ((stD i x).map .d)∧(pO v=true→clean q=true∧asData eb q = .ag ((stD i x).map .d)):=by
 unfold Zw at h
 split at h
 ·rename_i cs
  split at h
  ·rename_i ds hds
   obtain ⟨qs,rfl,hq⟩:=DQ hv
   obtain ⟨h1,h2⟩:=Tc hs hq hds
   have h3:=AI h
   have e:ds.map (fun c=>PV.d c.toD)=(stD i x).map .d:=by rw [← h3,List.map_map]; rfl
   refine ⟨by simp only [asData,h1,e],fun hn=>?_⟩
   obtain ⟨h4,h5⟩:=h2 hn
   exact ⟨by simpa [clean] using h4,by simp only [asData,h5,e]⟩
  ·cases h
 ·cases h
theorem abi {cs:List SD} {q:PV} (b:Nat→Option Box) (hv:bj B (.fe cs) q) : asData b q = .fe (cs.map SD.toD)∧clean q=true:=by
 cases hv with
 | fe _ ds h hn=>subst h; exact ⟨rfl,rfl⟩
theorem Un {t:Ty} {v:SV} {q:PV} {x:t.den} (b:Nat→Option Box) (hv:bj B v q) (h:Ta t v=some x) : asData b q = .fe [(qK t x).toD]∧clean q=true:=by
 unfold Ta at h
 split at h
 ·rename_i c
  have e:(qK t x).toD=c.toD:=Dx h
  rw [e]
  exact abi b hv
 ·cases h
theorem Ue {i:Nat} {v:SV} {q:PV} {x:ST i} (b:Nat→Option Box) (hv:bj B v q) (h:S9 i v=some x) : asData b q = .fe (stD i x)∧clean q=true:=by
 unfold S9 at h
 split at h
 ·rename_i cs
  rw [← AI h]
  exact abi b hv
 ·cases h
theorem Zx (hs:Sim s p) {t:CT} {v:SV} {q:PV} {x:t.den} (hv:bj s.bx v q) (h:abm s t v=some x) : asData p.b q=toC t x∧(pO v=true→clean q=true∧asData eb q=toC t x):=by
 cases t with
 | v t=>exact XB hs hv h
 | a i=>exact abt hs hv h
 | pl t=>exact ⟨(Un p.b hv h).1,fun _=>⟨(Un p.b hv h).2,(Un eb hv h).1⟩⟩
 | ps i=>exact ⟨(Ue p.b hv h).1,fun _=>⟨(Ue p.b hv h).2,(Ue eb hv h).1⟩⟩
theorem FC (hs:Sim s p) : ∀ {ps:List CT} {vs:List SV} {qs:List PV} {x:uW ps},ce s.bx vs qs→Nc s ps vs=some x→bO p.b qs=DY ps x∧(cy vs=true→cK qs=true∧bO eb qs=DY ps x)
 | [],[],qs,x,hv,h=>by
  rcases hv.cases with ⟨_,rfl⟩ | ⟨_,_,_,_,h1,_⟩
  ·simp [bO,DY,cK]
  ·cases h1
 | [],_ :: _,_,_,_,h=>by cases h
 | _ :: _,[],_,_,_,h=>by cases h
 | t::ps,v::vs,qs,x,hv,h=>by
  rcases hv.cases with ⟨h1,_⟩ | ⟨v',q,vs',qs',h1,rfl,h2,h3⟩
  ·cases h1
  ·injection h1 with e1 e2
   subst e1 e2
   simp only [Nc] at h
   obtain ⟨y,h4,h5⟩:=bindS h
   obtain ⟨ys,h6,h7⟩:=bindS h5
   injection h7 with h7
   subst h7
   obtain ⟨m1,m2⟩:=Zx hs h2 h4
   obtain ⟨m3,m4⟩:=FC hs h3 h6
   refine ⟨by simp [bO,DY,m1,m3],fun hn=>?_⟩
   simp only [cy] at hn
   split at hn
   ·rename_i hn1
    obtain ⟨n1,n2⟩:=m2 hn1
    obtain ⟨n3,n4⟩:=m4 hn
    simp [bO,cK,DY,n1,n2,n3,n4]
   ·cases hn
theorem ZN {f:FuncId} {ps qs:List SV} {q:PV} (h:bj B (.fn f ps qs) q) : ∃ ps' qs',q = .fn f ps' qs'∧ce B ps ps'∧ce B qs qs':=by
 cases h with
 | fn _ _ _ ps' qs' hl hr hl2 hr2=>exact ⟨ps',qs',rfl,⟨hl,hr⟩,hl2,hr2⟩
theorem DB (hs:Sim s p) {t:PT} {v:SV} {q:PV} {x:t.den} (hv:bj s.bx v q) (h:Ng s t v=some x) : asData p.b q=pH t x∧(pO v=true→clean q=true∧asData eb q=pH t x):=by
 cases t with
 | lf t=>exact XB hs hv h
 | ag i=>exact abt hs hv h
 | pl t=>exact ⟨(Un p.b hv h).1,fun _=>⟨(Un p.b hv h).2,(Un eb hv h).1⟩⟩
 | ps i=>exact ⟨(Ue p.b hv h).1,fun _=>⟨(Ue p.b hv h).2,(Ue eb hv h).1⟩⟩
 | fn f a b =>
  have h:aaJ s f a b v=some x:=h
  unfold aaJ at h
  split at h
  ·rename_i f' ps qs
   split at h
   ·rename_i hf
    rw [cU] at hf
    have hf:=zd hf
    subst hf
    obtain ⟨y,h4,h5⟩:=bindS h
    obtain ⟨ys,h6,h7⟩:=bindS h5
    injection h7 with h7
    subst h7
    obtain ⟨ps',qs',rfl,k1,k2⟩:=ZN hv
    obtain ⟨m1,m2⟩:=FC hs k1 h4
    obtain ⟨m3,m4⟩:=FC hs k2 h6
    refine ⟨by simp only [asData,pH,m1,m3],fun hn=>?_⟩
    simp only [pO] at hn
    split at hn
    ·rename_i hn1
     obtain ⟨n1,n2⟩:=m2 hn1
     obtain ⟨n3,n4⟩:=m4 hn
     exact ⟨by simp only [clean,n1,n3,Bool.and_self],by simp only [asData,pH,n2,n4]⟩
    ·cases hn
   ·cases h
  ·cases h
 | own=>exact dQ (x:=x) h
 | mv=>exact dQ (x:=x) h
 | bx=>exact dQ (x:=x) h
 | agr=>exact dQ (x:=x) h
 | io=>exact dQ (x:=x) h
theorem Nf (hs:Sim s p) : ∀ {ps:List PT} {vs:List SV} {qs:List PV} {x:cE ps},ce s.bx vs qs→Tb s ps vs=some x→bO p.b qs=rU ps x∧(cy vs=true→cK qs=true∧bO eb qs=rU ps x)
 | [],[],qs,x,hv,h=>by
  rcases hv.cases with ⟨_,rfl⟩ | ⟨_,_,_,_,h1,_⟩
  ·simp [bO,rU,cK]
  ·cases h1
 | [],_ :: _,_,_,_,h=>by cases h
 | _ :: _,[],_,_,_,h=>by cases h
 | t::ps,v::vs,qs,x,hv,h=>by
  rcases hv.cases with ⟨h1,_⟩ | ⟨v',q,vs',qs',h1,rfl,h2,h3⟩
  ·cases h1
  ·injection h1 with e1 e2
   subst e1 e2
   simp only [Tb] at h
   obtain ⟨y,h4,h5⟩:=bindS h
   obtain ⟨ys,h6,h7⟩:=bindS h5
   injection h7 with h7
   subst h7
   obtain ⟨m1,m2⟩:=DB hs h2 h4
   obtain ⟨m3,m4⟩:=Nf hs h3 h6
   refine ⟨by simp [bO,rU,m1,m3],fun hn=>?_⟩
   simp only [cy] at hn
   split at hn
   ·rename_i hn1
    obtain ⟨n1,n2⟩:=m2 hn1
    obtain ⟨n3,n4⟩:=m4 hn
    simp [bO,cK,rU,n1,n2,n3,n4]
   ·cases hn
theorem JC (i:Nat) (x:ST i) : ce B (A6 (stC i x)) ((stD i x).map .d):=by
 rw [← ut i x]
 exact EE _ (xk i x)
theorem SX {t:Ty} (x:t.den) (h:∀ i,t≠.st i) : bj B (.fe [qK t x]) (.fe [(qK t x).toD]):=by
 refine .fe _ _ rfl fun c hc=>?_
 simp only [List.mem_cons,List.not_mem_nil,or_false] at hc
 subst hc
 cases t with
 | st i=>exact absurd rfl (h i)
 | _=>exact fun e=>by cases e
theorem Xw:∀ (t:CT) (x:t.den),abn t=true→bj B (abk t x) (toC t x)
 | .v (.int _),x,_=>fW _ _
 | .v .bool,x,_=>fc _
 | .v .str,x,_=>wI _
 | .v (.sl t),x,_=>OQ t x
 | .v (.st i),x,h=>by cases h
 | .a i,x,_=>.ag _ _ (JC (B:=B) i x).len (JC i x).rep
 | .pl t,x,h=>SX x fun i e=>by subst e; cases h
 | .ps i,x,_=>.fe _ _ (ut i x).symm (xk i x)
theorem Bn:∀ (ps:List CT) (x:uW ps),FF ps=true→ce B (IL ps x) (DY ps x)
 | [],_,_=>.nil
 | p::ps,x,h=>by
  simp only [FF] at h
  split at h
  ·rename_i hp; exact .cons (Xw p x.1 hp) (Bn ps x.2 h)
  ·cases h
theorem yY:∀ (t:PT) (x:t.den),TU t=true→bj B (Up t x) (pH t x)
 | .lf (.int _),x,_=>fW _ _
 | .lf .bool,x,_=>fc _
 | .lf .str,x,_=>wI _
 | .lf (.sl t),x,_=>OQ t x
 | .lf (.st i),x,h=>by cases h
 | .ag i,x,_=>.ag _ _ (JC (B:=B) i x).len (JC i x).rep
 | .pl t,x,h=>SX x fun i e=>by subst e; cases h
 | .ps i,x,_=>.fe _ _ (ut i x).symm (xk i x)
 | .fn f a b,x,h=>by
  have h:(match FF a with | true=>FF b | false=>false)=true:=h
  split at h
  ·rename_i h1
   have k1:=Bn (B:=B) a x.1 h1
   have k2:=Bn (B:=B) b x.2 h
   exact .fn f _ _ _ _ k1.len k1.rep k2.len k2.rep
  ·cases h
 | .own ..,x,h=>by cases h
 | .mv ..,x,h=>by cases h
 | .bx ..,x,h=>by cases h
 | .agr ..,x,h=>by cases h
 | .io _,x,h=>by cases h
theorem IM:∀ (ps:List PT) (x:cE ps),uE ps=true→ce B (Cl ps x) (rU ps x)
 | [],_,_=>.nil
 | p::ps,x,h=>by
  simp only [uE] at h
  split at h
  ·rename_i hp; exact .cons (yY p x.1 hp) (IM ps x.2 h)
  ·cases h
theorem Bm:∀ (rs:List PT) (x:bl rs),uE rs=true→ce B (S1 rs x) (yy rs x)
 | [],_,_=>.nil
 | [p],x,h=>by
  simp only [uE] at h
  split at h
  ·rename_i hp; exact .cons (yY p x hp) .nil
  ·cases h
 | p::q::l,x,h=>by
  have h':TU p=true∧uE (q::l)=true:=by
   rw [uE] at h
   split at h
   ·rename_i hp; exact ⟨hp,h⟩
   ·cases h
  exact .cons (yY p x.1 h'.1) (Bm (q::l) x.2 h'.2)
theorem Xv (rs:List PT) (x:bl rs) (h:uE rs=true) : bj B (abj rs x) (toR rs x):=by
 match rs,x,h with
 | [],x,h=>exact .tup _ _ rfl (fun j c q h1=>by simp [S1] at h1)
 | [p],x,h =>
  have:=Bm (B:=B) [p] x h
  exact this.head
 | p::q::l,x,h =>
  have:=Bm (B:=B) (p::q::l) x h
  exact .tup _ _ this.len this.rep
theorem E7:∀ {ds:List D},(∀ d∈ds,∃ x,d = .v x)→uR (ds.map .d)=true
 | [],_=>rfl
 | d::ds,h=>by
  obtain ⟨x,rfl⟩:=h d List.mem_cons_self
  simp [uR,flat,E7 (fun d hd=>h d (List.mem_cons_of_mem _ hd))]
theorem Iz:∀ (t:PT) (x:t.den),t.flat=true→flat (pH t x)=true
 | .lf (.int _),_,_=>rfl
 | .lf .bool,_,_=>rfl
 | .lf .str,_,_=>rfl
 | .lf (.sl _),_,h=>by cases h
 | .lf (.st _),_,h=>by cases h
 | .ag i,x,h=>by
  simp only [pH,flat]
  exact E7 (aag i x h)
 | .pl _,_,h=>by cases h
 | .ps _,_,h=>by cases h
 | .fn _ _ _,_,h=>by cases h
 | .own ..,_,h=>by cases h
 | .mv ..,_,h=>by cases h
 | .bx ..,_,h=>by cases h
 | .agr ..,_,h=>by cases h
 | .io _,_,h=>by cases h
theorem Iy:∀ (rs:List PT) (x:bl rs),qT rs=true→uR (yy rs x)=true
 | [],_,_=>rfl
 | [p],x,h=>by
  simp only [qT] at h
  split at h
  ·rename_i hp; simp [yy,uR,Iz p x hp]
  ·cases h
 | p::q::l,x,h=>by
  have h':p.flat=true∧qT (q::l)=true:=by
   rw [qT] at h
   split at h
   ·rename_i hp; exact ⟨hp,h⟩
   ·cases h
  simp [yy,uR,Iz p x.1 h'.1,Iy (q::l) x.2 h'.2]
theorem uV:∀ (ds:List D),cK (ds.map .d)=true
 | []=>rfl
 | d::ds=>by simp [cK,clean,uV ds]
theorem UD:∀ (t:CT) (x:t.den),clean (toC t x)=true
 | .v _,_=>rfl
 | .a i,x=>by simp [toC,clean,uV]
 | .pl _,_=>rfl
 | .ps _,_=>rfl
theorem FL:∀ (cs:List CT) (x:uW cs),cK (DY cs x)=true
 | [],_=>rfl
 | c::cs,x=>by simp only [DY,cK,UD c x.1,FL cs x.2,Bool.and_self]
theorem dV:∀ (t:PT) (x:t.den),clean (pH t x)=true
 | .lf _,_=>rfl
 | .ag i,x=>by simp [pH,clean,uV]
 | .pl _,_=>rfl
 | .ps _,_=>rfl
 | .fn _ a b,x=>by simp only [pH,clean,FL,Bool.and_self]
 | .own ..,_=>rfl
 | .mv ..,_=>rfl
 | .bx ..,_=>rfl
 | .agr ..,_=>rfl
 | .io _,_=>rfl
theorem FK:∀ (rs:List PT) (x:bl rs),cK (yy rs x)=true
 | [],_=>rfl
 | [p],x=>by simp only [yy,cK,Bool.and_true]; exact dV p x
 | p::q::l,x=>by simp only [yy,cK,Bool.and_eq_true]; exact ⟨dV p x.1,FK (q::l) x.2⟩
theorem rT (rs:List PT) (x:bl rs) : (∃ p,yy rs x = [p]∧toR rs x=p)∨toR rs x = .tup (yy rs x):=by
 match rs,x with
 | [],x=>exact .inr rfl
 | [p],x=>exact .inl ⟨_,rfl,rfl⟩
 | p::q::l,x=>exact .inr rfl
theorem Xo (rs:List PT) (x:bl rs) (h:qT rs=true) : flat (toR rs x)=true:=by
 have:=Iy rs x h
 rcases rT rs x with ⟨p,h1,h2⟩ | h1
 ·rw [h1] at this
  rw [h2]
  simpa [uR] using this
 ·rw [h1]
  simpa [flat] using this
theorem UC (rs:List PT) (x:bl rs) : clean (toR rs x)=true:=by
 have:=FK rs x
 rcases rT rs x with ⟨p,h1,h2⟩ | h1
 ·rw [h1] at this
  rw [h2]
  simpa [cK] using this
 ·rw [h1]
  simpa [clean] using this
theorem XK {T:List (Nat×Ent)} (hT:qY P T) (hs:Sim s p) {f:Nat} {vs:List SV} {qs:List PV} (hM:T9 T f vs=false) (hv:ce s.bx vs qs) {k:SV→Option ρ} {res : ρ} (h:Tf T f s vs k=some res) : ∃ v r,Lz P f p.b qs r∧k v=some res∧bj s.bx v r:=by
 unfold Tf at h
 split at h
 ·cases h
 ·rename_i en hen
  have h0:=(aq h).1
  replace h:=(aq h).2
  have h1:=(aq h).1
  replace h:=(aq h).2
  obtain ⟨x,h2,h⟩:=bindS h
  obtain ⟨r,h3,h4⟩:=bindS h
  obtain ⟨m1,m2⟩:=Nf hs hv h2
  have hc:=(hT f _ en hen x r h3).1 (by unfold T9 at hM; rw [hen] at hM; exact hM)
  refine ⟨_,toR en.rs r,?_,h4,Xv en.rs r h0⟩
  simp only [Bool.or_eq_true] at h1
  rcases h1 with h1 | h1
  ·obtain ⟨n1,n2⟩:=m2 h1
   exact .inl ⟨n1,UC _ _,by rw [n2]; exact hc⟩
  ·exact .inr ⟨Xo _ _ h1,by rw [m1]; exact hc⟩
end
section
section
variable {P:Program} {n:Nat} {Qs:Exit→PS→Prop} {c:Code}
end
end
end Go.Proofs.YtaknepbdbappdaaGreat
