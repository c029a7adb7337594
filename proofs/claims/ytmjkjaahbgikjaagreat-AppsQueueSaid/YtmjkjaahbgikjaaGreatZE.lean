/- My texts, in one. -/
import Derived.Test.YtmjkjaahbgikjaaGreatZD
set_option linter.all false
set_option maxRecDepth 100000
set_option maxHeartbeats 4000000
namespace Go.Proofs.YtmjkjaahbgikjaaGreat
open Go.RowKit
open IntKind (i64)
open Go.Proofs.Tryz (prog)
theorem P5 (S:ByteArray) (w:World) (hs:S.size≤1000000000) : Calls prog 102 #[.string S] w fun e w'=>∃ T:ByteArray,e = .returned (.string T)∧T.data.toList=above S.data.toList∧T.size≤S.size∧w=w':=by
 go_enter Tryz.func102,Tryz.ntmps102
 go_wp2
 go_loop [3] (fun i=>∃ k:Nat,k≤S.size∧i = .int .i64 ((k:Int) - 1)∧(46:UInt8) ∉ S.data.toList.drop k) (fun i=>(intOf i + 1).toNat)
 case atStart=>exact ⟨S.size,Nat.le_refl _,rfl,by rw [List.drop_of_length_le (by rw [wG]; omega)]; simp⟩
 case round =>
  obtain ⟨k,hk,rfl,hno⟩:=hrel
  have HNO:=Lib.hid hno
  clear hno
  cases k with
  | zero =>
   have H2:=Lib.hid (YP (l:=S.data.toList) (by have:=HNO.out; simpa using this))
   go_wp2
   go_ret
   exact ⟨⟨#[]⟩,rfl,H2.out.symm,Nat.zero_le _,rfl⟩
  | succ k =>
   have hkl:k < S.data.toList.length:=by rw [← wG]; omega
   have e1:((k + 1:Nat) : Int) - 1=(k:Int):=by omega
   rw [e1]
   have i0:(0:Int)≤(k:Int):=by omega
   have i1:(k:Int) < (S.size:Int):=by omega
   have i2:(k:Int)≤1000000000:=by omega
   clear e1
   by_cases hd:S[k]'(by omega)=46
   ·have H2:=Lib.hid (show above S.data.toList=S.data.toList.take k by
     have e:S.data.toList=S.data.toList.take k++46::S.data.toList.drop (k + 1):=by
      have h4:S.data.toList[k] = 46:=by rw [← YH S k (by omega)]; exact hd
      have:=List.take_append_drop k S.data.toList
      rw [List.drop_eq_getElem_cons hkl,h4] at this
      exact this.symm
     have:=YQ (a:=S.data.toList.take k) HNO.out
     rw [← e] at this
     exact this)
    have hq:(((S[k]'(by omega)).toNat:Int) != 46)=false:=by rw [hd]; rfl
    have hq2:((S[k]'(by omega)).toNat:Int)=46:=by rw [hd]; rfl
    clear hd
    go_wp2
    go_ret
    refine ⟨_,rfl,?_,?_,rfl⟩
    ·rw [TK,H2.out]; simp
    ·rw [wG,TK,wG]; simp; omega
   ·have hq : ¬ ((S[k]'(by omega)).toNat:Int)=46:=fun h=>hd (UInt8.toNat.inj (by have:(46:UInt8).toNat=46:=rfl; omega))
    have hq2:(((S[k]'(by omega)).toNat:Int) != 46)=true:=by simpa using hq
    have HN2:=Lib.hid (show (46:UInt8) ∉ S.data.toList.drop k by
     rw [List.drop_eq_getElem_cons hkl,List.mem_cons,not_or]
     exact ⟨fun e=>hd (by rw [YH S k (by omega)]; exact e.symm),HNO.out⟩)
    clear hd
    go_wp2
    go_round
    case rel=>exact ⟨k,by omega,by simp,HN2.out⟩
    case measure=>simp [intOf]
def Zc (p:Tx) (ds:List QD) (w:World) (e:Ending) (w':World) : Prop:=∃ A n c,e = .returned (.slice A n c)∧n=(cG p ds).length∧w'.ownsRow w.heap.size 9 1 (.slice A n c) n ((cG p ds).map sv)∧Ext w w'
theorem Fg {w:World} {B B':Nat} {e:TypeId} {k:Nat} {v:Value} {n:Nat} {xs:List Value} (h:w.ownsRow B e k v n xs) (hB:B'≤B) : w.ownsRow B' e k v n xs:=by
 refine ⟨h.1,?_⟩
 rcases h.2 with hn | ⟨g,cap,cur,rfl,hb,hr⟩
 ·exact .inl hn
 ·exact .inr ⟨g,cap,cur,rfl,Nat.le_trans hB hb,hr⟩
theorem LV {w wr V w3:World} {B n:Nat} {v v':Value} {l:List Tx} {T:ByteArray} (HX:Ext w wr) (hV:Ext wr V) (hn:n=l.length) (HO:wr.ownsRow B 9 1 v n (l.map sv)) (hB:w.heap.size≤B)
  (ho3:w3.ownsRow B 9 1 v' (n + 1) (l.map sv ++ [.string T])) (hg3:V.grownBy w3 v.ownBlock) : w3.ownsRow B 9 1 v' (l ++ [T.data.toList]).length ((l ++ [T.data.toList]).map sv)∧Ext w w3:=by
 refine ⟨?_,(HX.trans hV).trans' (cP hg3 ?_ (Qb HO hB))⟩
 ·rw [List.length_append,List.length_singleton,← hn,List.map_append,List.map_singleton,abN]
  exact ho3
 ·exact Nat.le_trans HX.size hV.size
theorem Us (ds:List QD) (vl vq:Value) (S:ByteArray) (w:World) (hq:QAt w vq ds) (hlen:ds.length≤1000) (hp:∀ q∈ds,q.path.length≤1000000000) :
  Calls prog 55 #[.agg #[vl,vq],.string S] w (Zc S.data.toList ds w):=by
 obtain ⟨j0,hj,hy0,hy1,hy2⟩:=info_parts Tryz.infoStr
 obtain ⟨A,N,c,rfl,hN,hc1,hc2,hcell⟩:=hq.open
 have HC:=Lib.hid hcell
 have HN:=Lib.hid hN
 have HP:=Lib.hid hp
 have hN1:N≤1000:=by omega
 clear hcell hN hq hp
 go_enter Tryz.func55,Tryz.ntmps55
 go_wp2
 refine YJ (fun W0 hW0=>?_)
 have X0:=Lib.hid (show Ext w W0 by rw [hW0]; exact aO _ _)
 have b1:W0.cell? ⟨w.heap.size,1,none⟩=some (.slice A N c):=by rw [hW0]; simp [go_sem]
 clear hW0
 go_loopw [5,6] (fun v i wr=>∃ (k:Nat),k≤N∧i = .int .i64 k∧wr.ownsRow W0.heap.size 9 1 v (cG S.data.toList (ds.take k)).length ((cG S.data.toList (ds.take k)).map sv)∧Ext W0 wr) (fun _ i _=>N - (intOf i).toNat)
 case atStart=>exact ⟨0,by omega,rfl,World.ownsRow_nil W0 _ _ 1,Ext.refl _⟩
 case round =>
  obtain ⟨k,hkN,rfl,ho,hx⟩:=hrel
  have HX:=Lib.hid hx
  have b1r:=hx.cell' b1
  have hkd:=XQ S.data.toList (ds.take k)
  rw [List.length_take] at hkd
  obtain ⟨n,hn⟩ : ∃ n,n=(cG S.data.toList (ds.take k)).length:=⟨_,rfl⟩
  rw [← hn] at ho hkd
  obtain ⟨Av,cv,rfl,hv1,hv2⟩:=cK ho
  have HNN:=Lib.hid hn
  have HO:=Lib.hid ho
  have hn1:n≤1000:=by omega
  clear hx ho hn hkd
  have i0:(0:Int)≤(k:Int):=by omega
  by_cases hlt:k < N
  ·have i1:(k:Int) < (N:Int):=by omega
   have hkl:k < ds.length:=by have:=HN.out; omega
   have HS:=Lib.hid (UO (p:=S.data.toList) hkl)
   by_cases hS:S=⟨#[]⟩
   ·have hE:S.toList = []:=by rw [hS,ByteArray.toList_eq]
    have HK:=Lib.hid (show cG S.data.toList (ds.take (k + 1))=cG S.data.toList (ds.take k) by rw [hS]; show cG [] _ = cG [] _; rw [FH,FH])
    clear hS
    go_wp2
    go_roundw
    case rel=>exact ⟨k + 1,by omega,by simp,by rw [HK.out,← HNN.out]; exact HO.out,HX.out⟩
    case measure=>simp [intOf]; omega
   ·have hne:S.data.toList≠[]:=fun h=>hS (abF.2 h)
    have hE : ¬ S.toList = []:=by rw [ByteArray.toList_eq]; exact hne
    have hE2:S.toList.isEmpty=false:=by simp [hE]
    have hE3:(!S.toList.isEmpty)=true:=by simp [hE]
    obtain ⟨g,rfl,hg,hqc⟩:=HC.out (by omega)
    obtain ⟨P,Ac,cc,h1,h2,h3,h4,h5⟩:=(hqc k hkl).ex
    have c0:=(X0.out.trans HX.out).cell h1
    have HPP:=Lib.hid h4
    have hPs:P.size≤1000000000:=by rw [wG,h4]; exact HP.out _ (List.getElem_mem hkl)
    clear hqc h1 h2 h3 h4 h5 hS
    go_wp2_with fail
    (with_reducible refine (P5 P _ hPs).mono ?_)
    rintro e w2 ⟨T,rfl,hT,hTs,rfl⟩
    have HT:=Lib.hid hT
    clear hT
    by_cases hTS:T=S
    ·have HK:=Lib.hid (show cG S.data.toList (ds.take (k + 1))=cG S.data.toList (ds.take k) ++ [P.data.toList] by
      rw [HS.out,Z7 hne (by rw [← HPP.out,← HT.out,hTS]),HPP.out]; rfl)
     have q1:(T.toList==S.toList)=true:=by rw [hTS]; simp
     clear hTS hne
     go_wp2_with (at_builtin; refine EE _ rfl (.tmp 27) (.tmp 34) 33 33 rfl W0.heap.size 9 j0 (.string ⟨#[]⟩) 16 Tryz.underlying33 hj hy0 hy1 hy2 rfl _ n ((cG S.data.toList (ds.take k)).map sv) rfl (HO.out.alloc _) _ 1 _ rfl ((Rd.one _ _ _ _ _ rfl rfl).src ?c1 Tryz.underlying33) ?c3 ?c4 ?c5 ?_)
     case c1=>first | rfl | (intro u hu; simp at hu; subst hu; rfl)
     case c3=>simp [maxLen]; omega
     case c4=>omega
     case c5=>have h2:=HX.out.size; simp; omega
     intro v' w3 ho3 hg3 _ _
     obtain ⟨y1,y2⟩:=LV HX.out (aO wr _) HNN.out HO.out (Nat.le_refl _) ho3 hg3
     have Y1:=Lib.hid y1
     have Y2:=Lib.hid y2
     obtain ⟨A3,c3,rfl,_,_⟩:=cK ho3
     clear y1 y2 ho3 hg3
     go_wp2
     go_roundw
     case rel=>exact ⟨k + 1,by omega,by simp,by rw [HK.out]; exact Y1.out,Y2.out⟩
     case measure=>simp [intOf]; omega
    ·have HK:=Lib.hid (show cG S.data.toList (ds.take (k + 1))=cG S.data.toList (ds.take k) by
      rw [HS.out,abr (by intro e; apply hTS; rw [← HPP.out,← HT.out] at e; cases T; cases S; simp only at e; rw [Array.toList_inj] at e; rw [e])]; simp)
     have q1:(T.toList==S.toList)=false:=aaW hTS
     clear hTS hne
     go_wp2
     go_roundw
     case rel=>exact ⟨k + 1,by omega,by simp,by rw [HK.out,← HNN.out]; exact HO.out,HX.out⟩
     case measure=>simp [intOf]; omega
  ·have i1 : ¬ (k:Int) < (N:Int):=by omega
   have HK:=Lib.hid (show cG S.data.toList (ds.take k)=cG S.data.toList ds by rw [List.take_of_length_le (by have:=HN.out; omega)])
   go_wp2
   go_ret
   exact ⟨Av,n,cv,rfl,by rw [← HK.out]; exact HNN.out,by rw [← HK.out]; exact Fg HO.out X0.out.size,X0.out.trans HX.out⟩
theorem zH:∀ (cs:List (Int×Int)) (k:Nat) (a b:Int),k < cs.length→cj (cs.set k (a,b))=((cj cs).set (k * 2) (.int .i64 a)).set (k * 2 + 1) (.int .i64 b)
 | [],k,_,_,h=>by simp at h
 | p::cs,0,a,b,_=>rfl
 | p::cs,k + 1,a,b,h=>by
  have ih:=zH cs k a b (by simpa using h)
  rw [List.set_cons_succ]
  show [Value.int .i64 p.1,.int .i64 p.2] ++ cj (cs.set k (a,b))=((([Value.int .i64 p.1,.int .i64 p.2] ++ cj cs).set ((k + 1) * 2) (.int .i64 a)).set ((k + 1) * 2 + 1) (.int .i64 b))
  rw [ih,show (k + 1) * 2=k * 2 + 1 + 1 by omega]
  rfl
theorem LM (cs:List (Int×Int)) (k:Nat) (h:k < cs.length) : (cj cs)[k * 2]? = some (.int .i64 cs[k].1)∧(cj cs)[k * 2 + 1]? = some (.int .i64 cs[k].2):=by
 induction cs generalizing k with
 | nil=>simp at h
 | cons p cs ih =>
  cases k with
  | zero=>exact ⟨rfl,rfl⟩
  | succ k =>
   obtain ⟨h1,h2⟩:=ih k (by simpa using h)
   have e:cj (p::cs) = .int .i64 p.1 :: .int .i64 p.2::cj cs:=rfl
   rw [e,show (k + 1) * 2=k * 2 + 1 + 1 by omega]
   exact ⟨h1,h2⟩
theorem u7 (qs:List QC) (k:Nat) (q:QC) (h:qs[k]? = some q) : (fZ qs)[k * 3]? = some (.string q.p)∧(fZ qs)[k * 3 + 1]? = some (.slice q.A q.n q.c)∧(fZ qs)[k * 3 + 2]? = some (.int .i64 q.u):=by
 induction qs generalizing k with
 | nil=>simp at h
 | cons p qs ih =>
  have e:fZ (p::qs) = .string p.p :: .slice p.A p.n p.c :: .int .i64 p.u::fZ qs:=rfl
  cases k with
  | zero =>
   simp at h
   subst h
   exact ⟨rfl,rfl,rfl⟩
  | succ k =>
   obtain ⟨h1,h2,h3⟩:=ih k (by simpa using h)
   rw [e,show (k + 1) * 3=k * 3 + 1 + 1 + 1 by omega]
   exact ⟨h1,h2,h3⟩
def cb (q:QC) : Option Nat:=(Value.slice q.A q.n q.c).ownBlock
def xH (w:World) (B:Nat) (q:QC) (d:QD) : Prop:=q.p.data.toList=d.path∧q.u=d.user∧q.n=d.caps.length∧w.ownsRow B 98 2 (.slice q.A q.n q.c) q.n (cj d.caps)
theorem xH.ext {w w':World} {B:Nat} {q:QC} {d:QD} (h:xH w B q d) (x:Ext w w') : xH w' B q d:=⟨h.1,h.2.1,h.2.2.1,lI h.2.2.2 x⟩
theorem xH.kept {w w':World} {B:Nat} {row:Option Nat} {q:QC} {d:QD} (h:xH w B q d) (x:w.grownBy w' row) (hr:cb q=none∨cb q≠row) : xH w' B q d:=⟨h.1,h.2.1,h.2.2.1,h.2.2.2.kept x hr⟩
structure ja (w:World) (B:Nat) (v:Value) (ds:List QD) (qs:List QC) : Prop where
 row:w.ownsRow B 63 3 v ds.length (fZ qs)
 len:qs.length=ds.length
 each:∀ (k:Nat) (q:QC) (h:k < ds.length),qs[k]? = some q→xH w B q ds[k]
 apart:∀ (i j:Nat) (qi qj:QC),i≠j→qs[i]? = some qi→qs[j]? = some qj→∀ g,cb qi=some g→cb qj≠some g
theorem ja.nil (w:World) (B:Nat) : ja w B (.slice none 0 0) [] []:=⟨World.ownsRow_nil w _ _ 3,rfl,fun k _ h=>absurd h (by simp),fun i j qi qj _ h=>by simp at h⟩
theorem ja.ext {w w':World} {B:Nat} {v:Value} {ds:List QD} {qs:List QC} (h:ja w B v ds qs) (x:Ext w w') : ja w' B v ds qs :=
 ⟨lI h.row x,h.len,fun k q hk hq=>(h.each k q hk hq).ext x,h.apart⟩
theorem pQ {w:World} {B e e' k n R:Nat} {v:Value} {xs:List Value} {cur:Array Value} {f:Nat×Nat} (h:w.ownsRow B e k v n xs) (hR:w.heap[R]? = some (.cells cur e' f)) (he:e≠e') : v.ownBlock≠some R:=by
 rcases h.2 with ⟨rfl,_⟩ | ⟨g,cap,cur',rfl,_,hg,_⟩
 ·intro e1; cases e1
 ·intro e1
  simp [Value.ownBlock] at e1
  subst e1
  rw [hg] at hR
  injection hR with hR
  injection hR with _ h2
  exact he h2
theorem ja.kept {w w':World} {B R:Nat} {v:Value} {ds:List QD} {qs:List QC} {cur:Array Value} {e':TypeId} {f:Nat×Nat} (h:ja w B v ds qs) (x:w.grownBy w' (some R)) (hR:w.heap[R]? = some (.cells cur e' f)) (h1 : 63≠e') (h2 : 98≠e') : ja w' B v ds qs :=
 ⟨h.row.kept x (.inr (pQ h.row hR h1)),h.len,fun k q hk hq=>(h.each k q hk hq).kept x (.inr (pQ (h.each k q hk hq).2.2.2 hR h2)),h.apart⟩
theorem ja.rd {w:World} {B:Nat} {v:Value} {ds:List QD} {qs:List QC} (h:ja w B v ds qs) : QAt w v ds:=by
 have hl:=h.len
 rcases h.row.2 with ⟨rfl,h0⟩ | ⟨g,cap,cur,rfl,hb,hg,hc,hm,_⟩
 ·exact ⟨none,0,by rw [h0],by omega,by simp [maxLen],fun hn=>by omega⟩
 ·refine ⟨_,cap,rfl,hc,hm,fun hn=>⟨g,rfl,(Array.getElem?_eq_some_iff.1 hg).1,fun k hk=>?_⟩⟩
  obtain ⟨q,hq⟩ : ∃ q,qs[k]? = some q:=⟨qs[k]'(by omega),by rw [zq]⟩
  obtain ⟨h1,h2,h3,h4⟩:=h.each k q hk hq
  obtain ⟨c1,c2,c3⟩:=u7 qs k q hq
  have hat:=fun j (hj:j < ds.length * 3)=>h.row.cellAt j hj
  refine ⟨q.p,q.A,q.c,?_,?_,?_,h1,?_⟩
  ·rw [hat _ (by omega)]; exact c1
  ·rw [hat _ (by omega),← h3]; exact c2
  ·rw [hat _ (by omega),← h2]; exact c3
  ·rw [← h3]; exact RdK.of_own h4
theorem ja.snoc {w V w4:World} {B:Nat} {v v':Value} {ds:List QD} {qs:List QC} {q:QC} {d:QD} (h:ja w B v ds qs) (x:Ext w V) (hq:xH V B q d) (hnew:∀ g,cb q=some g→∀ (i:Nat) (qi:QC),qs[i]? = some qi→cb qi≠some g)
  (hown:w4.ownsRow B 63 3 v' (ds.length + 1) (fZ qs++M6 q)) (hg:V.grownBy w4 v.ownBlock) : ja w4 B v' (ds ++ [d]) (qs ++ [q]):=by
 have hx:=h.ext x
 have hne:∀ q' d',xH V B q' d'→cb q' = none∨cb q'≠v.ownBlock:=fun q' d' h'=>abi h'.2.2.2 hx.row (by decide)
 refine ⟨by rw [List.length_append,List.length_singleton,M7]; exact hown,by simp [h.len],fun k q' hk hq'=>?_,fun i j qi qj hij hi hj g hgi=>?_⟩
 ·rw [List.length_append,List.length_singleton] at hk
  by_cases hlt:k < ds.length
  ·rw [List.getElem?_append_left (by rw [h.len]; exact hlt)] at hq'
   rw [List.getElem_append_left hlt]
   exact (hx.each k q' hlt hq').kept hg (hne _ _ (hx.each k q' hlt hq'))
  ·obtain rfl:k=ds.length:=by omega
   rw [List.getElem?_append_right (by rw [h.len]; exact Nat.le_refl _),h.len] at hq'
   simp at hq'
   subst hq'
   rw [List.getElem_append_right (Nat.le_refl _)]
   simp only [Nat.sub_self,List.getElem_cons_zero]
   exact hq.kept hg (hne _ _ hq)
 ·by_cases h1:i < qs.length
  ·rw [List.getElem?_append_left h1] at hi
   by_cases h2:j < qs.length
   ·rw [List.getElem?_append_left h2] at hj
    exact h.apart i j qi qj hij hi hj g hgi
   ·rw [List.getElem?_append_right (by omega)] at hj
    have h3:j - qs.length=0:=by
     have:=(zg.1 hj).1
     simp at this; omega
    rw [h3] at hj
    simp at hj
    subst hj
    intro e
    exact hnew g e i qi hi hgi
  ·rw [List.getElem?_append_right (by omega)] at hi
   have h3:i - qs.length=0:=by
    have:=(zg.1 hi).1
    simp at this; omega
   rw [h3] at hi
   simp at hi
   subst hi
   by_cases h2:j < qs.length
   ·rw [List.getElem?_append_left h2] at hj
    exact hnew g hgi j qj hj
   ·exfalso
    have:=(zg.1 hj).1
    simp at this
    omega
def KU (ds:List QD) (m k:Nat) (a b:Int) : List QD:=ds.modify m fun q=>⟨q.path,q.caps.set k (a,b),q.user⟩
theorem rS (ds:List QD) (m k:Nat) (a b:Int) : (KU ds m k a b).length=ds.length:=by simp [KU]
theorem ja.put {w:World} {B:Nat} {v:Value} {ds:List QD} {qs:List QC} (h:ja w B v ds qs) {m k:Nat} (hm:m < ds.length) (hk:k < (ds[m]).caps.length) :
  ∃ gq cq g c,v = .slice (some ⟨gq,0,none⟩) ds.length cq∧w.cell? ⟨gq,m * 3 + 1,none⟩=some (.slice (some ⟨g,0,none⟩) (ds[m]).caps.length c)∧B≤g∧g < w.heap.size∧(∃ cur,w.heap[g]? = some (.cells cur 98 (0,0))) ∧
   (∀ j,w.frozen? ⟨g,j,none⟩=false)∧w.cell? ⟨g,k * 2,none⟩=some (.int .i64 ((ds[m]).caps[k]).1)∧w.cell? ⟨g,k * 2 + 1,none⟩=some (.int .i64 ((ds[m]).caps[k]).2) ∧
   ∀ a b,ja ((w.setCell ⟨g,k * 2,none⟩ (.int .i64 a)).setCell ⟨g,k * 2 + 1,none⟩ (.int .i64 b)) B v (KU ds m k a b) qs∧w.grownBy ((w.setCell ⟨g,k * 2,none⟩ (.int .i64 a)).setCell ⟨g,k * 2 + 1,none⟩ (.int .i64 b)) (some g):=by
 have hl:=h.len
 obtain ⟨q,hq⟩ : ∃ q,qs[m]? = some q:=⟨qs[m]'(by omega),by rw [zq]⟩
 obtain ⟨h1,h2,h3,h4⟩:=h.each m q hm hq
 rcases h.row.2 with ⟨_,h0⟩ | ⟨gq,cq,cur,rfl,hb,hg,hc,hmx,_⟩
 ·omega
 rcases h4.2 with ⟨_,h0⟩ | ⟨g,c,cur',ev,hb',hg',hc',hm',_⟩
 ·omega
 injection ev with eA eN eC
 have h4':w.ownsRow B 98 2 (.slice (some ⟨g,0,none⟩) q.n q.c) q.n (cj ds[m].caps):=by rw [← eA]; exact h4
 have hcq:cb q=some g:=by unfold cb; rw [eA]; rfl
 have hcell:=h.row.cellAt (m * 3 + 1) (by omega)
 rw [(u7 qs m q hq).2.1,h3,eA] at hcell
 obtain ⟨k1,k2⟩:=LM ds[m].caps k hk
 have c1:=h4'.cellAt (k * 2) (by omega)
 have c2:=h4'.cellAt (k * 2 + 1) (by omega)
 rw [k1] at c1
 rw [k2] at c2
 refine ⟨gq,cq,g,q.c,rfl,hcell,hb',(Array.getElem?_eq_some_iff.1 hg').1,⟨cur',hg'⟩,h4'.frozenAt,c1,c2,fun a b=>?_⟩
 have hgr:w.grownBy ((w.setCell ⟨g,k * 2,none⟩ (.int .i64 a)).setCell ⟨g,k * 2 + 1,none⟩ (.int .i64 b)) (some g) :=
  ⟨rfl,rfl,rfl,by simp [World.setCell],fun i _ hi=>(Below.heap_setCell _ _ _ _ (fun e=>hi (by rw [e]))).trans (Below.heap_setCell _ _ _ _ (fun e=>hi (by rw [e])))⟩
 have st:=(h4'.stored (k * 2) (.int .i64 a)).1.stored (k * 2 + 1) (.int .i64 b)
 rw [← zH _ _ _ _ hk] at st
 refine ⟨⟨?_,by rw [rS]; exact hl,fun i q' hi hq'=>?_,h.apart⟩,hgr⟩
 ·rw [rS]
  exact h.row.kept hgr (.inr (pQ h.row hg' (by decide)))
 ·rw [rS] at hi
  simp only [KU,List.getElem_modify]
  by_cases him:m=i
  ·subst him
   rw [hq] at hq'
   injection hq' with hq'
   subst hq'
   rw [if_pos rfl]
   refine ⟨h1,h2,by simpa using h3,?_⟩
   rw [eA]
   exact st.1
  ·rw [if_neg him]
   exact (h.each i q' hi hq').kept hgr (.inr fun e=>h.apart m i q q' him hq hq' g hcq e)
def W6:Tx:=[114,111,111,116]
def mS:Nat→List Tx
 | 0=>[[114,111,111,116]]
 | 1=>[[114,111,111,116],[114,111,111,116,46,97],[114,111,111,116,46,98]]
 | 2=>[[114,111,111,116],[114,111,111,116,46,97],[114,111,111,116,46,97,46,120],[114,111,111,116,46,97,46,121],[114,111,111,116,46,98]]
 | 3=>[[114,111,111,116],[114,111,111,116,46,97],[114,111,111,116,46,98],[114,111,111,116,46,98,46,120],[114,111,111,116,46,98,46,120,46,112],[114,111,111,116,46,98,46,120,46,113],[114,111,111,116,46,99]]
 | _=>[[114,111,111,116],[114,111,111,116,46,97]]
def gpu:Tx:=[103,112,117]
def Dw (nl:Nat) : List Tx:=([[],gpu] : List Tx).take nl
theorem rC {nl:Nat} (h:nl≤2) : (Dw nl).length=nl:=by simp [Dw]; omega
theorem ML (y:Nat) : (mS y).length≤7:=by
 unfold mS
 split <;> decide
theorem MJ (y:Nat) : ∀ p∈mS y,p.length≤11:=by
 unfold mS
 split <;> decide
theorem PH (y:Nat) : (mS y).Nodup:=by
 unfold mS
 split <;> decide
def CS (p:Tx) (ps:List Tx) : List Tx:=ps.filter fun x=>decide (p≠[])&&decide (above x=p)
theorem FI (p:Tx) (ds:List QD) : cG p ds=CS p (ds.map (·.path)):=by
 unfold cG CS
 rw [List.filter_map]
 rfl
def sr:Int×Int:=(10000,10000)
structure G1 (nl:Nat) (ps:List Tx) (k:Nat) (ds:List QD) : Prop where
 paths:ds.map (·.path)=ps.take k
 each:∀ q∈ds,q.caps=List.replicate nl sr∧1≤q.user∧q.user≤1000000
theorem G1.nil (nl:Nat) (ps:List Tx) : G1 nl ps 0 []:=⟨rfl,by simp⟩
theorem G1.snoc {nl k:Nat} {ps:List Tx} {ds:List QD} (h:G1 nl ps k ds) (hk:k < ps.length) {u:Int} (h1 : 1≤u) (h2:u≤1000000) : G1 nl ps (k + 1) (ds ++ [⟨ps[k],List.replicate nl sr,u⟩]):=by
 refine ⟨?_,fun q hq=>?_⟩
 ·rw [List.map_append,h.paths,List.take_succ_eq_append_getElem hk]; rfl
 ·rcases List.mem_append.1 hq with hq | hq
  ·exact h.each q hq
  ·simp at hq; subst hq; exact ⟨rfl,h1,h2⟩
def aco (c:Int×Int) : Prop:=0≤c.1∧c.1≤c.2∧c.2≤10000
structure Gd (nl:Nat) (ps:List Tx) (ds:List QD) : Prop where
 paths:ds.map (·.path)=ps
 each:∀ q∈ds,q.caps.length=nl∧1≤q.user∧q.user≤1000000∧∀ c∈q.caps,aco c
 root:∀ q∈ds,q.path=W6→q.caps=List.replicate nl sr
theorem Gd.len {nl:Nat} {ps:List Tx} {ds:List QD} (h:Gd nl ps ds) : ds.length=ps.length:=by
 have:=congrArg List.length h.paths
 simpa using this
def Jl (k:Nat) (q:QD) : Int:=(q.caps.getD k (0,0)).1
def Qi (k:Nat) (l:List QD) : Int:=(l.map (Jl k)).sum
def nj (p:Tx) (ds:List QD) : List QD:=ds.filter (lM p)
theorem vo (p:Tx) (ds:List QD) : (nj p ds).length=(cG p ds).length:=by simp [nj,cG]
def aaG (k:Nat) (p:Tx) (ds:List QD) : Prop:=nj p ds≠[]→Qi k (nj p ds)=10000
structure GI (nl:Nat) (ps:List Tx) (i:Nat) (ds:List QD) : Prop where
 gd:Gd nl ps ds
 done:∀ i' (h:i' < ps.length),i' < i→∀ k,k < nl→aaG k ps[i'] ds
structure GK (nl:Nat) (ps:List Tx) (i k:Nat) (ds:List QD) : Prop where
 gi:GI nl ps i ds
 part:∀ h:i < ps.length,∀ k',k' < k→aaG k' ps[i] ds
structure GJ (nl:Nat) (ps:List Tx) (i k j:Nat) (left:Int) (ds:List QD) : Prop where
 gk:GK nl ps i k ds
 lo : 0≤left
 hi:left≤10000
 sum:∀ h:i < ps.length,Qi k ((nj ps[i] ds).take j)=10000 - left
 last:∀ h:i < ps.length,0 < j→j=(nj ps[i] ds).length→left=0
def rq (p:Tx) (k:Nat) (a b:Int) (q:QD) : QD:=if q.path=p then ⟨q.path,q.caps.set k (a,b),q.user⟩ else q
def iT (p:Tx) (k:Nat) (a b:Int) (ds:List QD) : List QD:=ds.map (rq p k a b)
def eX (p:Tx) (k:Nat) (a b:Int) (ds:List QD) (m:Nat) : List QD:=(ds.take m).map (rq p k a b)++ds.drop m
theorem EW (p:Tx) (k:Nat) (a b:Int) (ds:List QD) : eX p k a b ds 0=ds:=by simp [eX]
theorem I7 (p:Tx) (k:Nat) (a b:Int) (ds:List QD) : eX p k a b ds ds.length=iT p k a b ds:=by simp [eX,iT]
theorem gZ (p:Tx) (k:Nat) (a b:Int) (ds:List QD) (m:Nat) : (eX p k a b ds m).length=ds.length:=by simp [eX]; omega
theorem Bs (p:Tx) (k:Nat) (a b:Int) (ds:List QD) (m:Nat) (hm:m < ds.length) (h:m < (eX p k a b ds m).length) : (eX p k a b ds m)[m] = ds[m]:=by
 have h2:(eX p k a b ds m)[m]? = ds[m]? := by
  unfold eX
  rw [List.getElem?_append_right (by simp; omega),List.getElem?_drop]
  congr 1
  simp
  omega
 rw [zq h,zq hm] at h2
 injection h2
theorem Bw (p:Tx) (k:Nat) (a b:Int) (q:QD) : (rq p k a b q).path=q.path:=by unfold rq; split <;> rfl
theorem Uy (p:Tx) (k:Nat) (a b:Int) (q:QD) : (rq p k a b q).caps.length=q.caps.length:=by unfold rq; split <;> simp
theorem Jc (p:Tx) (k:Nat) (a b:Int) (q:QD) : (rq p k a b q).user=q.user:=by unfold rq; split <;> rfl
theorem KT {p:Tx} {k:Nat} {a b:Int} {q:QD} (h:q.path≠p) : rq p k a b q=q:=by unfold rq; rw [if_neg h]
theorem MX {p:Tx} {k:Nat} {a b:Int} {ds:List QD} {m:Nat} (hm:m < ds.length) (h:ds[m].path≠p) : eX p k a b ds (m + 1)=eX p k a b ds m:=by
 unfold eX
 rw [List.take_succ_eq_append_getElem hm,List.map_append,List.drop_eq_getElem_cons hm]
 simp [KT h]
theorem Fu {α : Type} : ∀ (l:List α) (x : α) (r:List α) (f : α→α) (n:Nat),l.length=n→(l++x::r).modify n f=l++f x::r
 | [],x,r,f,_,h=>by subst h; rfl
 | y::l,x,r,f,n,h=>by
  subst h
  simp only [List.cons_append,List.length_cons,List.modify_succ_cons]
  rw [Fu l x r f _ rfl]
theorem I6 {p:Tx} {k:Nat} {a b:Int} {ds:List QD} {m:Nat} (hm:m < ds.length) (h:ds[m].path=p) : eX p k a b ds (m + 1)=(eX p k a b ds m).modify m (fun q=>⟨q.path,q.caps.set k (a,b),q.user⟩):=by
 have hl:((ds.take m).map (rq p k a b)).length=m:=by simp; omega
 unfold eX
 rw [List.take_succ_eq_append_getElem hm,List.map_append,List.append_assoc]
 conv=>rhs; rw [List.drop_eq_getElem_cons hm]
 rw [Fu _ _ _ _ _ hl]
 simp [rq,h]
theorem G1.start {nl:Nat} {ps:List Tx} {ds:List QD} (h:G1 nl ps ps.length ds) : GI nl ps 0 ds:=by
 refine ⟨⟨by rw [h.paths,List.take_length],fun q hq=>?_,fun q hq _=>(h.each q hq).1⟩,fun _ _ h=>by omega⟩
 obtain ⟨h1,h2,h3⟩:=h.each q hq
 refine ⟨by rw [h1]; simp,h2,h3,fun c hc=>?_⟩
 rw [h1] at hc
 have:=List.eq_of_mem_replicate hc
 subst this
 exact ⟨by decide,by decide,by decide⟩
theorem GI.toK {nl i:Nat} {ps:List Tx} {ds:List QD} (h:GI nl ps i ds) : GK nl ps i 0 ds:=⟨h,fun _ _ h=>by omega⟩
theorem GK.toJ {nl i k:Nat} {ps:List Tx} {ds:List QD} (h:GK nl ps i k ds) : GJ nl ps i k 0 10000 ds:=⟨h,by omega,by omega,fun _=>by simp [Qi],fun _ h=>by omega⟩
theorem GJ.end {nl i k j:Nat} {left:Int} {ps:List Tx} {ds:List QD} (h:GJ nl ps i k j left ds) (hj:∀ h:i < ps.length,j=(cG ps[i] ds).length) : GK nl ps i (k + 1) ds:=by
 refine ⟨h.gk.gi,fun hi k' hk' hne=>?_⟩
 rcases Nat.lt_or_ge k' k with h1 | h1
 ·exact h.gk.part hi k' h1 hne
 ·obtain rfl:k' = k:=by omega
  have h2:=hj hi
  rw [← vo] at h2
  have h3:=h.sum hi
  have h4:=h.last hi (by
   have:(nj ps[i] ds).length≠0:=fun e=>hne (List.eq_nil_of_length_eq_zero e)
   omega) h2
  rw [h2,List.take_length] at h3
  omega
theorem GK.end {nl i:Nat} {ps:List Tx} {ds:List QD} (h:GK nl ps i nl ds) : GI nl ps (i + 1) ds:=by
 refine ⟨h.gi.gd,fun i' hi' hlt k hk=>?_⟩
 rcases Nat.lt_or_ge i' i with h1 | h1
 ·exact h.gi.done i' hi' h1 k hk
 ·obtain rfl:i' = i:=by omega
  exact h.part hi' k hk
theorem Nl {α : Type} {l:List α} (h:l.Nodup) {i j:Nat} (hi:i < l.length) (hj:j < l.length) (e:l[i] = l[j]) : i=j:=by
 rcases Nat.lt_trichotomy i j with h1 | h1 | h1
 ·exact absurd e (List.pairwise_iff_getElem.1 h i j hi hj h1)
 ·exact h1
 ·exact absurd e.symm (List.pairwise_iff_getElem.1 h j i hj hi h1)
theorem Il {p:Tx} {k k':Nat} {a b:Int} {q:QD} (h:k'≠k) : Jl k' (rq p k a b q)=Jl k' q:=by
 unfold rq Jl
 split
 ·simp only [List.getD_eq_getElem?_getD]
  rw [List.getElem?_set_ne (by omega)]
 ·rfl
theorem E9 {p:Tx} {k:Nat} {a b:Int} {q:QD} (h:q.path=p) (hk:k < q.caps.length) : Jl k (rq p k a b q)=a:=by
 unfold rq Jl
 rw [if_pos h]
 simp only [List.getD_eq_getElem?_getD]
 rw [List.getElem?_set_self (by simpa using hk)]
 rfl
theorem Qp (pp p:Tx) (k:Nat) (a b:Int) (q:QD) : lM pp (rq p k a b q)=lM pp q:=by unfold lM; rw [Bw]
theorem zv (pp p:Tx) (k:Nat) (a b:Int) (ds:List QD) : nj pp (iT p k a b ds)=(nj pp ds).map (rq p k a b):=by
 unfold nj iT
 rw [List.filter_map]
 congr 1
 apply List.filter_congr
 intro q _
 exact Qp pp p k a b q
theorem Z0 {p:Tx} {k k':Nat} {a b:Int} (l:List QD) (h:k'≠k) : Qi k' (l.map (rq p k a b))=Qi k' l:=by
 unfold Qi
 rw [List.map_map]
 congr 1
 apply List.map_congr_left
 intro q _
 exact Il h
theorem CP {p:Tx} {k:Nat} {a b:Int} (l:List QD) (h:∀ q∈l,q.path≠p) : l.map (rq p k a b)=l:=by
 conv=>rhs; rw [← List.map_id l]
 apply List.map_congr_left
 intro q hq
 exact KT (h q hq)
theorem yd {pp:Tx} {ds:List QD} {q:QD} (h:q∈nj pp ds) : above q.path=pp∧pp≠[]:=by
 unfold nj at h
 have:=(List.mem_filter.1 h).2
 simp [lM] at this
 exact ⟨this.2,this.1⟩
theorem Gd.set {nl k:Nat} {p:Tx} {n mo:Int} {ps:List Tx} {ds:List QD} (h:Gd nl ps ds) (hp:p≠W6) (h0 : 0≤n) (h2:n≤mo) (h3:mo≤10000) : Gd nl ps (iT p k n mo ds):=by
 refine ⟨?_,fun q hq=>?_,fun q hq hr=>?_⟩
 ·unfold iT
  rw [List.map_map,← h.paths]
  apply List.map_congr_left
  intro q _
  exact Bw _ _ _ _ _
 ·unfold iT at hq
  obtain ⟨q',hq',rfl⟩:=List.mem_map.1 hq
  obtain ⟨h4,h5,h6,h7⟩:=h.each q' hq'
  refine ⟨by rw [Uy]; exact h4,by rw [Jc]; exact h5,by rw [Jc]; exact h6,fun c hc=>?_⟩
  unfold rq at hc
  split at hc
  ·rcases List.mem_or_eq_of_mem_set hc with hc | hc
   ·exact h7 c hc
   ·subst hc; exact ⟨h0,h2,h3⟩
  ·exact h7 c hc
 ·unfold iT at hq
  obtain ⟨q',hq',rfl⟩:=List.mem_map.1 hq
  rw [Bw] at hr
  rw [KT (by rw [hr]; exact fun e=>hp e.symm)]
  exact h.root q' hq' hr
theorem GJ.step {nl i k j:Nat} {left n mo:Int} {ps:List Tx} {ds:List QD} (h:GJ nl ps i k j left ds) (hps:ps.Nodup) (hi:i < ps.length) (hj:j < (cG ps[i] ds).length) (hk:k < nl) (h0 : 0≤n) (h1:n≤left) (hlast:j + 1=(cG ps[i] ds).length→n=left) (h2:n≤mo) (h3:mo≤10000) :
  GJ nl ps i k (j + 1) (left - n) (iT ((cG ps[i] ds)[j]) k n mo ds):=by
 have hgd:=h.gk.gi.gd
 have hjl:j < (nj ps[i] ds).length:=by rw [vo]; exact hj
 obtain ⟨p,hp⟩ : ∃ p,p=(cG ps[i] ds)[j]:=⟨_,rfl⟩
 have hpp:(nj ps[i] ds)[j].path=p:=by rw [hp]; simp [cG,nj]
 have hmem:(nj ps[i] ds)[j]∈nj ps[i] ds:=List.getElem_mem hjl
 have hab:above p=ps[i]:=by rw [← hpp]; exact (yd hmem).1
 have hne0:ps[i]≠[]:=(yd hmem).2
 have hroot:p≠W6:=by
  intro e
  rw [e] at hab
  exact hne0 (hab.symm.trans (by decide))
 rw [← hp]
 have hnd:((nj ps[i] ds).map (·.path)).Nodup:=by
  unfold nj
  have h5:(ds.map (·.path)).Nodup:=by rw [hgd.paths]; exact hps
  exact List.Nodup.sublist (List.Sublist.map _ List.filter_sublist) h5
 have other:∀ i' (hi':i' < ps.length),i'≠i→nj ps[i'] (iT p k n mo ds)=nj ps[i'] ds:=by
  intro i' hi' hne
  rw [zv,CP]
  intro q hq e
  have:=(yd hq).1
  rw [e,hab] at this
  exact hne (Nl hps hi' hi this.symm)
 have hcap:k < ((nj ps[i] ds)[j]).caps.length:=by
  have:(nj ps[i] ds)[j]∈ds:=(List.mem_filter.1 hmem).1
  rw [(hgd.each _ this).1]; exact hk
 have before:((nj ps[i] ds).take j).map (rq p k n mo)=(nj ps[i] ds).take j:=by
  apply CP
  intro q hq e
  obtain ⟨j',hj',e2⟩:=List.mem_iff_getElem.1 hq
  rw [List.length_take] at hj'
  rw [List.getElem_take] at e2
  have e3:((nj ps[i] ds).map (·.path))[j']'(by simp; omega)=((nj ps[i] ds).map (·.path))[j]'(by simpa using hjl):=by
   simp only [List.getElem_map]
   rw [e2,e,hpp]
  have:=Nl hnd _ _ e3
  omega
 refine ⟨⟨⟨hgd.set hroot h0 h2 h3,fun i' hi' hlt k' hk'=>?_⟩,fun _ k' hk'=>?_⟩,by omega,by have:=h.hi; omega,fun _=>?_,fun _ _ hjj=>?_⟩
 ·unfold aaG
  rw [other i' hi' (by omega)]
  exact h.gk.gi.done i' hi' hlt k' hk'
 ·unfold aaG
  rw [zv,Z0 _ (by omega)]
  intro hne
  exact h.gk.part hi k' hk' (fun e=>hne (by rw [e]; rfl))
 ·rw [zv,← List.map_take,List.take_succ_eq_append_getElem hjl,List.map_append,before]
  have hs:=h.sum hi
  unfold Qi at hs ⊢
  rw [List.map_append,List.sum_append,hs]
  simp only [List.map_cons,List.map_nil,List.sum_cons,List.sum_nil]
  rw [E9 hpp hcap]
  omega
 ·rw [zv,List.length_map,vo] at hjj
  rw [hlast hjj]
  omega
def gH (v_l:(List ByteArray)) (v_s:aa) (af:Int) (st:(List ByteArray)) (v_i:Int) (x_:ByteArray) : Option (((List ByteArray))⊕(((List ByteArray)×Int))) :=
 let am:=st
 let v_k:Int:=0
 (ai (ju am v_s v_i v_l af) ab v_k).bind fun r13 =>
 let v_k:=r13
 (hiO am v_k).bind fun b14=>(aP ([] : (List ByteArray)) b14).bind fun b15=>let v_x:(List ByteArray):=b15
 (aP v_x [x_]).bind fun b16=>let v_x:(List ByteArray):=b16
 (loO am v_k).bind fun b17=>(aP v_x b17).bind fun b18=>let am:(List ByteArray):=b18
 some (.inl am)
theorem AM (v_l:(List ByteArray)) (v_s:aa) (af:Int) (a_:(List ByteArray)) (hl:v_l.length≤1000000) : ai (mq v_l v_s af) ab (a_,(0))=oe (gH v_l v_s af) (fun a_=>(a_,((v_l.length:Int)))) a_ 0 v_l :=
 fo v_l (S:=(List ByteArray)×Int) (fun a_ k_=>(a_,(k_))) (gH v_l v_s af) (fun a_=>(a_,((v_l.length:Int)))) (an hl) (fun k a x hx=>by
  unfold mq gH; exact bN)
  (fun a=>by unfold mq; exact cL) a_
def gJ (v_s:aa) (pn:ByteArray) (st:(List ak)) (x_:ak) : Option (((List ak))⊕(((List ak)×Int))) :=
 let am:=st
 let v_a:ak:=x_
 (dh v_a).bind fun c12=>(if (!c12)=true then some true else some (!(v_a.bD.toList==pn.toList))).bind fun q13=>if q13=true then
 some (.inl am)
 else
 let v_k:Int:=0
 (ai (jv am v_a) ab v_k).bind fun r14 =>
 let v_k:=r14
 (hiO am v_k).bind fun b15=>(aP ([] : (List ak)) b15).bind fun b16=>let v_x:(List ak):=b16
 (aP v_x [v_a]).bind fun b17=>let v_x:(List ak):=b17
 (loO am v_k).bind fun b18=>(aP v_x b18).bind fun b19=>let am:(List ak):=b19
 some (.inl am)
theorem AP (v_s:aa) (pn:ByteArray) (a_:(List ak)) (hl:v_s.ah.length≤1000000) : ai (mt v_s pn) ab (a_,(0))=bh (gJ v_s pn) (fun a_=>(a_,((v_s.ah.length:Int)))) a_ v_s.ah :=
 ay v_s.ah (S:=(List ak)×Int) (fun a_ k_=>(a_,(k_))) (gJ v_s pn) (fun a_=>(a_,((v_s.ah.length:Int)))) (an hl) (fun k a x hx=>by
  unfold mt gJ; exact bN)
  (fun a=>by unfold mt; exact cL) a_
def gI (am:(List ak)) (st:(List Int)) (x_:ak) : Option (((List Int))⊕(((List Int)×Int))) :=
 let v_l:=st
 (aP v_l [x_.fId]).bind fun b15=>let v_l:(List Int):=b15
 some (.inl v_l)
theorem AO (am:(List ak)) (a_:(List Int)) (hl:am.length≤1000000) : ai (mr am) ab (a_,(0))=bh (gI am) (fun a_=>(a_,((am.length:Int)))) a_ am :=
 ay am (S:=(List Int)×Int) (fun a_ k_=>(a_,(k_))) (gI am) (fun a_=>(a_,((am.length:Int)))) (an hl) (fun k a x hx=>by
  unfold mr gI; exact bN)
  (fun a=>by unfold mr; exact cL) a_
def i6 (jb:(List ByteArray)) (aw:ByteArray) (st:Unit) (x_:ByteArray) : Option ((Unit)⊕((Int)⊕(Bool))) :=
 if (x_.toList==aw.toList)=true then
 some (.inr (.inr true))
 else
 some (.inl ())
theorem yI (jb:(List ByteArray)) (aw:ByteArray) (a_:Unit) (hl:jb.length≤1000000) : ai (kD jb aw) ab (0)=bh (i6 jb aw) (fun a_=>(.inl ((jb.length:Int)))) a_ jb :=
 ay jb (S:=Int) (fun a_ k_=>(k_)) (i6 jb aw) (fun a_=>(.inl ((jb.length:Int)))) (an hl) (fun k a x hx=>by
  unfold kD i6; exact bN)
  (fun a=>by unfold kD; exact cL) a_
def gK (v_s:aa) (af:Int) (aw:ByteArray) (yX:Bool) (mQ:Int) (st:az) (x_:ao) : Option ((az)⊕((az×Int))) :=
 let v_v:=st
 (ef v_s x_.bE).bind fun c11=>let v_a:ak:=c11.1
 let bW:Bool:=c11.2
 (if bW=true then some (x_.a6==af) else some false).bind fun q12=>(if q12=true then (nB v_a.bD aw).bind fun c13=>some c13 else some false).bind fun q14=>(if q14=true then (if yX=true then some true else some (v_a.cD==mQ)).bind fun q15=>some q15 else some false).bind fun q16=>if q16=true then
 (dv v_v x_.cJ).bind fun c17=>let v_v:az:=c17
 some (.inl v_v)
 else
 some (.inl v_v)
theorem AR (v_s:aa) (af:Int) (aw:ByteArray) (yX:Bool) (mQ:Int) (a_:az) (hl:v_s.ac.length≤1000000) : ai (mu v_s af aw yX mQ) ab (a_,(0))=bh (gK v_s af aw yX mQ) (fun a_=>(a_,((v_s.ac.length:Int)))) a_ v_s.ac :=
 ay v_s.ac (S:=az×Int) (fun a_ k_=>(a_,(k_))) (gK v_s af aw yX mQ) (fun a_=>(a_,((v_s.ac.length:Int)))) (an hl) (fun k a x hx=>by
  unfold mu gK; exact bN)
  (fun a=>by unfold mu; exact cL) a_
def ec (v_s:aa) (af:Int) (aw:ByteArray) (st:az) (x_:ak) : Option ((az)⊕((az×Int))) :=
 let v_v:=st
 (dh x_).bind fun c9=>(if c9=true then (nB x_.bD aw).bind fun c10=>some c10 else some false).bind fun q11=>if q11=true then
 (kQ x_.bL af).bind fun c12=>(dv v_v c12).bind fun c13=>let v_v:az:=c13
 some (.inl v_v)
 else
 some (.inl v_v)
theorem vY (v_s:aa) (af:Int) (aw:ByteArray) (a_:az) (hl:v_s.ah.length≤1000000) : ai (i7 v_s af aw) ab (a_,(0))=bh (ec v_s af aw) (fun a_=>(a_,((v_s.ah.length:Int)))) a_ v_s.ah :=
 ay v_s.ah (S:=az×Int) (fun a_ k_=>(a_,(k_))) (ec v_s af aw) (fun a_=>(a_,((v_s.ah.length:Int)))) (an hl) (fun k a x hx=>by
  unfold i7 ec; exact bN)
  (fun a=>by unfold i7; exact cL) a_
def gL (jb:(List ByteArray)) (v_s:aa) (af:Int) (tC:az) (st:Unit) (x_:ByteArray) : Option ((Unit)⊕((Int)⊕(Bool))) :=
 (eT v_s x_ af).bind fun c14=>(dv c14 tC).bind fun c15=>let v_v:az:=c15
 (wI v_s x_ af).bind fun c16=>(fU v_v c16).bind fun c17=>if (!c17)=true then
 some (.inr (.inr false))
 else
 (if (x_.toList==(⟨#[114,111,111,116]⟩ : ByteArray).toList)=true then (jm v_s af).bind fun c18=>(uj v_s af).bind fun c19=>(wM c18 c19).bind fun c20=>(fU v_v c20).bind fun c21=>some (!c21) else some false).bind fun q22=>if q22=true then
 some (.inr (.inr false))
 else
 some (.inl ())
theorem AV (jb:(List ByteArray)) (v_s:aa) (af:Int) (tC:az) (a_:Unit) (hl:jb.length≤1000000) : ai (mw jb v_s af tC) ab (0)=bh (gL jb v_s af tC) (fun a_=>(.inl ((jb.length:Int)))) a_ jb :=
 ay jb (S:=Int) (fun a_ k_=>(k_)) (gL jb v_s af tC) (fun a_=>(.inl ((jb.length:Int)))) (an hl) (fun k a x hx=>by
  unfold mw gL; exact bN)
  (fun a=>by unfold mw; exact cL) a_
def jl (v_l:(List aM)) (v_a:aM) (st:(List aM)×Bool) (x_:aM) : Option (((List aM)×Bool)⊕(((List aM)×Bool×Int))) :=
 let am:=st.1
 let cz:=st.2
 (if (!cz)=true then some (decide (x_.bq > v_a.bq)) else some false).bind fun q8=>(if q8=true then
 (aP am [v_a]).bind fun b10=>let am:(List aM):=b10
 let cz:Bool:=true
 some (am,cz)
 else
 some (am,cz)).bind fun j9=>let am:=j9.1
 let cz:=j9.2
 if (x_.bq != v_a.bq)=true then
 (aP am [x_]).bind fun b11=>let am:(List aM):=b11
 some (.inl (am,cz))
 else
 some (.inl (am,cz))
theorem DC (v_l:(List aM)) (v_a:aM) (a_:(List aM)×Bool) (hl:v_l.length≤1000000) : ai (pE v_l v_a) ab (a_.1,a_.2,(0))=bh (jl v_l v_a) (fun a_=>(a_.1,a_.2,((v_l.length:Int)))) a_ v_l :=
 ay v_l (S:=(List aM)×Bool×Int) (fun a_ k_=>(a_.1,a_.2,(k_))) (jl v_l v_a) (fun a_=>(a_.1,a_.2,((v_l.length:Int)))) (an hl) (fun k a x hx=>by
  unfold pE jl; exact bN)
  (fun a=>by unfold pE; exact cL) a_
def lU (v_l:(List aM)) (cN:Int) (st:Unit) (x_:aM) : Option ((Unit)⊕((Int)⊕(aM×Bool))) :=
 if (x_.bq==cN)=true then
 some (.inr (.inr (x_,true)))
 else
 some (.inl ())
theorem DD (v_l:(List aM)) (cN:Int) (a_:Unit) (hl:v_l.length≤1000000) : ai (pF v_l cN) ab (0)=bh (lU v_l cN) (fun a_=>(.inl ((v_l.length:Int)))) a_ v_l :=
 ay v_l (S:=Int) (fun a_ k_=>(k_)) (lU v_l cN) (fun a_=>(.inl ((v_l.length:Int)))) (an hl) (fun k a x hx=>by
  unfold pF lU; exact bN)
  (fun a=>by unfold pF; exact cL) a_
def iq (v_l:(List aM)) (cN:Int) (st:Bool×(List aM)) (x_:aM) : Option ((Bool×(List aM))⊕((Bool×(List aM)×Int))) :=
 let bW:=st.1
 let am:=st.2
 let v_a:aM:=x_
 if (v_a.bq==cN)=true then
 let bW:Bool:=true
 let t6:Int:=(i64.wrap (v_a.gg - 1))
 let t7:Int:=0
 let v_a:aM:={ v_a with gg:=t6 }
 let v_a:aM:={ v_a with g6:=t7 }
 if (decide (v_a.gg≤0))=true then
 some (.inl (bW,am))
 else
 (aP am [v_a]).bind fun b8=>let am:(List aM):=b8
 some (.inl (bW,am))
 else
 (aP am [v_a]).bind fun b9=>let am:(List aM):=b9
 some (.inl (bW,am))
theorem Cc (v_l:(List aM)) (cN:Int) (a_:Bool×(List aM)) (hl:v_l.length≤1000000) : ai (nR v_l cN) ab (a_.1,a_.2,(0))=bh (iq v_l cN) (fun a_=>(a_.1,a_.2,((v_l.length:Int)))) a_ v_l :=
 ay v_l (S:=Bool×(List aM)×Int) (fun a_ k_=>(a_.1,a_.2,(k_))) (iq v_l cN) (fun a_=>(a_.1,a_.2,((v_l.length:Int)))) (an hl) (fun k a x hx=>by
  unfold nR iq; exact bN)
  (fun a=>by unfold nR; exact cL) a_
def eG (v_l:(List aM)) (af:Int) (st:az) (x_:aM) : Option ((az)⊕((az×Int))) :=
 let v_v:=st
 if (x_.a6==af)=true then
 (dv v_v (⟨(i64.wrap (x_.cJ.bH * x_.gg)),(i64.wrap (x_.cJ.be * x_.gg))⟩ : az)).bind fun c7=>let v_v:az:=c7
 some (.inl v_v)
 else
 some (.inl v_v)
theorem w8 (v_l:(List aM)) (af:Int) (a_:az) (hl:v_l.length≤1000000) : ai (jD v_l af) ab (a_,(0))=bh (eG v_l af) (fun a_=>(a_,((v_l.length:Int)))) a_ v_l :=
 ay v_l (S:=az×Int) (fun a_ k_=>(a_,(k_))) (eG v_l af) (fun a_=>(a_,((v_l.length:Int)))) (an hl) (fun k a x hx=>by
  unfold jD eG; exact bN)
  (fun a=>by unfold jD; exact cL) a_
def Vt (a b:az) : az:=⟨i64.wrap (a.bH + b.bH),i64.wrap (a.be + b.be)⟩
def aac (a b:az) : Bool:=decide (a.bH≤b.bH)&&decide (a.be≤b.be)
def inV (n:Int) : Bool:=decide (n≥0)&&decide (n≤1125899906842624)
def Ip (a:az) : Bool:=inV a.bH&&inV a.be
theorem eI (a b:az) : dv a b=some (Vt a b):=rfl
theorem kS (a b:az) : fU a b=some (aac a b):=by unfold fU aac; simp only [dy,zb]
theorem RF (n:Int) : zZ n=some (inV n):=by unfold zZ inV; simp only [dy,zb]
theorem Ki (a:az) : uo a=some (Ip a):=by unfold uo Ip; simp only [RF,dy,zb]
def XI (a b:az) : az:=(wM a b).getD az.zero
theorem Hi (a b:az) : wM a b=some (XI a b):=rfl
def xT (n bp:Int) : Int:=(vJ n bp).getD 0
theorem OQ (n bp:Int) : vJ n bp=some (xT n bp):=rfl
def abK (a b:Int) : Int×Int:=(zY a b).getD (0,0)
theorem RB (a b:Int) : zY a b=some (abK a b):=rfl
def Q5 (a:az) (bp:Int) : az×Int :=
 if (!Ip a||decide (bp < 0)||decide (bp > 1000000))=true then (az.zero,1)
 else if Ip ⟨xT a.bH bp,xT a.be bp⟩=true then (⟨xT a.bH bp,xT a.be bp⟩,0) else (az.zero,11)
theorem Db (a:az) (bp:Int) : vK a bp=some (Q5 a bp):=by
 unfold vK Q5
 simp only [Ki,orB,zb,OQ]
 generalize (!Ip a||decide (bp < 0)||decide (bp > 1000000))=b1
 generalize Ip ⟨xT a.bH bp,xT a.be bp⟩=b2
 cases b1 <;> cases b2 <;> rfl
theorem tE {α : Type} (c:Bool) (a b : α) : (if c=true then some a else some b)=some (if c=true then a else b):=by cases c <;> rfl
def KY (x y:bc) : Int:=(qC x y).getD 0
theorem Da (x y:bc) : qC x y=some (KY x y):=by
 unfold KY
 have:∃ r,qC x y=some r:=by
  unfold qC
  simp only [orB,dy,zb,RB,tE]
  exact ⟨_,rfl⟩
 obtain ⟨r,hr⟩:=this
 rw [hr]
 rfl
def Tp (a p:az) : bc:=if decide (KY ⟨a.bH,p.bH⟩ ⟨a.be,p.be⟩ < 0)=true then ⟨a.be,p.be⟩ else ⟨a.bH,p.bH⟩
theorem RH (a p:az) : Aa a p=some (Tp a p):=by
 unfold Aa Tp
 simp only [Da,zb,tE]
def Za (a p b q:az) : Int:=if (!Ip a || !Ip p || !Ip b || !Ip q)=true then 0 else KY (Tp a p) (Tp b q)
theorem OT (a p b q:az) : Ab a p b q=some (Za a p b q):=by
 unfold Ab Za
 simp only [Ki,orB,zb,RH,Da]
 simp only [tE]
theorem Q6 (n:Int) : zM n=some (decide (n≥1)&&decide (n≤1073741824)):=by
 unfold zM
 simp only [dy,zb]
def ace (a:aM) (n:Int) : Int:=(qq a n).getD 0
theorem OA (a:aM) (n:Int) : qq a n=some (ace a n):=by
 have:∃ r,qq a n=some r:=by
  unfold qq
  simp only [Q6,orB,dy,zb]
  simp only [tE]
  exact ⟨_,rfl⟩
 obtain ⟨r,hr⟩:=this
 unfold ace
 rw [hr]; rfl
theorem VC (l:List aM) (a:aM) (hl:l.length≤100000) : ∃ r,G4 l a=some r∧r.1.length≤8:=by
 unfold G4
 dsimp only
 rw [DC l { a with g6:=0 } ([],a.gg==0) (by omega)]
 obtain ⟨r,h1,h2⟩:=aV (g:=jl l { a with g6:=0 }) (fin:=fun b=>(b.1,b.2,(l.length:Int))) (fun k b=>b.1.length≤2 * k) (fun r=>r.1.length≤2 * l.length) l 0 ([],a.gg==0) (fun j b x hx hb=>by
  have hj:=(zg.1 hx).1
  unfold jl
  simp only [dy,zb]
  cases (!b.2&&decide (x.bq > a.bq)) with
  | true =>
   simp only [if_true]
   rw [aF (by simp; omega)]
   simp only [zb]
   cases (x.bq != a.bq) with
   | true =>
    simp only [if_true]
    rw [aF (by simp; omega)]
    exact ⟨_,rfl,fun a' e=>by injection e with e; subst e; simp; omega,fun r e=>by cases e⟩
   | false =>
    exact ⟨_,rfl,fun a' e=>by injection e with e; subst e; simp; omega,fun r e=>by cases e⟩
  | false =>
   simp only [zf,if_false,zb]
   cases (x.bq != a.bq) with
   | true =>
    simp only [if_true]
    rw [aF (by simp; omega)]
    exact ⟨_,rfl,fun a' e=>by injection e with e; subst e; simp; omega,fun r e=>by cases e⟩
   | false =>
    exact ⟨_,rfl,fun a' e=>by injection e with e; subst e; show b.1.length≤_; omega,fun r e=>by cases e⟩) (fun b hb=>by simpa using hb) (by simp)
 rw [h1]
 simp only [zb]
 have fin:∀ o:List aM,∃ r,(if decide ((o.length:Int) > 8)=true then some (([] : List aM),(4:Int)) else some (o,0))=some r∧r.1.length≤8:=by
  intro o
  by_cases h:(o.length:Int) > 8
  ·simp only [h,decide_true,if_true]; exact ⟨_,rfl,by simp⟩
  ·simp only [h,decide_false,zf,if_false]; exact ⟨_,rfl,by show o.length≤8; omega⟩
 cases (!r.2.1) with
 | true =>
  simp only [if_true]
  rw [aF (by simp; omega)]
  exact fin _
 | false=>exact fin _
def X6 (l:List aM) (p:Int) : aM:=(l.find? fun x=>x.bq==p).getD aM.zero
def isA (l:List aM) (p:Int) : Bool:=l.any fun x=>x.bq==p
theorem VF (l:List aM) (p:Int) (hl:l.length≤1000000) : LY l p=some (X6 l p,isA l p):=by
 unfold LY
 dsimp only
 rw [DD l p () hl]
 have h2:=tI (fun x:aM=>x.bq==p) (fun x=>(Sum.inr (x,true) : Int⊕aM×Bool)) (.inl (l.length:Int)) l
 rw [show lU l p=fun (_:Unit) x=>if (x.bq==p)=true then some (.inr (.inr (x,true))) else some (.inl ()) from rfl,h2]
 unfold X6 isA
 cases hf:l.find? fun x=>x.bq==p with
 | none =>
  have:(l.any fun x=>x.bq==p)=false:=by
   rw [List.any_eq_false]; intro x hx; have:=List.find?_eq_none.1 hf x hx; simpa using this
  rw [this]; rfl
 | some q =>
  have:(l.any fun x=>x.bq==p)=true:=by
   rw [List.any_eq_true]; exact ⟨q,List.mem_of_find?_eq_some hf,by simpa using List.find?_some hf⟩
  rw [this]; rfl
theorem Q7 (l:List aM) (p:Int) (hl:l.length≤1000000) : ∃ r,Et l p=some r∧r.1.length≤l.length:=by
 unfold Et
 dsimp only
 rw [Cc l p (false,[]) hl]
 obtain ⟨r,h1,h2⟩:=aV (g:=iq l p) (fin:=fun b=>(b.1,b.2,(l.length:Int))) (fun k b=>b.2.length≤k) (fun r=>r.2.1.length≤l.length) l 0 (false,[]) (fun j b x hx hb=>by
  have hj:=(zg.1 hx).1
  unfold iq
  dsimp only
  split
  ·split
   ·exact ⟨_,rfl,fun a' e=>by injection e with e; subst e; show b.2.length≤_; omega,fun r e=>by cases e⟩
   ·rw [aF (by simp; omega)]
    exact ⟨_,rfl,fun a' e=>by injection e with e; subst e; simp; omega,fun r e=>by cases e⟩
  ·rw [aF (by simp; omega)]
   exact ⟨_,rfl,fun a' e=>by injection e with e; subst e; simp; omega,fun r e=>by cases e⟩) (fun b hb=>by simpa using hb) (by simp)
 rw [h1]
 exact ⟨_,rfl,h2⟩
theorem Q8 (l:List aM) (p:Int) (hl:l.length≤1000000) : ∃ r,Eu l p=some r∧r.length=l.length:=by
 unfold Eu
 rw [aF (by simpa using hl)]
 simp only [zb,List.nil_append]
 have h:=aL (f:=rU p) (fun st=>st.1.length=l.length∧0≤st.2∧st.2≤(l.length:Int)) (fun st=>((l.length:Int) - st.2).toNat) (fun st=>st.1.length=l.length) (fun st ⟨h1,h2,h3⟩=>by
  unfold rU
  dsimp only
  by_cases hi:st.2 < (st.1.length:Int)
  ·obtain ⟨x,hx,_⟩:=NF h2 hi
   have hw:i64.wrap (st.2 + 1)=st.2 + 1:=IY (by omega) (by omega)
   simp only [hi,decide_true,if_true,hx,zb,hw]
   split
   ·exact .inl ⟨_,rfl,⟨by simpa using h1,by show 0≤st.2 + 1; omega,by show st.2 + 1≤_; omega⟩,by show ((l.length:Int) - (st.2 + 1)).toNat < ((l.length:Int) - st.2).toNat; omega⟩
   ·exact .inl ⟨_,rfl,⟨h1,by show 0≤st.2 + 1; omega,by show st.2 + 1≤_; omega⟩,by show ((l.length:Int) - (st.2 + 1)).toNat < ((l.length:Int) - st.2).toNat; omega⟩
  ·simp only [hi,decide_false,zf,if_false]
   exact .inr ⟨_,rfl,h1⟩) ab (l,0) ⟨rfl,Int.le_refl _,Int.natCast_nonneg _⟩ (by show ((l.length:Int) - 0).toNat < ab; unfold ab; omega)
 obtain ⟨r,h1,h2⟩:=h
 rw [h1]
 exact ⟨_,rfl,h2⟩
def aaN (l:List aM) (k:Int) : az:=(kQ l k).getD az.zero
theorem IE (l:List aM) (k:Int) (hl:l.length≤1000000) : kQ l k=some (aaN l k):=by
 have:∃ r,kQ l k=some r:=by
  unfold kQ
  dsimp only
  rw [w8 l k ⟨0,0⟩ hl]
  obtain ⟨r,h1,_⟩:=aV (g:=eG l k) (fin:=fun a=>(a,(l.length:Int))) (fun _ _=>True) (fun _=>True) l 0 ⟨0,0⟩ (fun j a x hx _=>by
   unfold eG
   simp only [eI,zb,tE]
   exact ⟨_,rfl,fun _ _=>trivial,fun _ _=>trivial⟩) (fun _ _=>trivial) trivial
  rw [h1]
  exact ⟨_,rfl⟩
 obtain ⟨r,hr⟩:=this
 unfold aaN
 rw [hr]; rfl
def jQ (v_s:aa) (bJ:Int) (st:Unit) (x_:ak) : Option ((Unit)⊕((Int)⊕(ak×Bool))) :=
 if (x_.fId==bJ)=true then
 some (.inr (.inr (x_,true)))
 else
 some (.inl ())
theorem A6 (v_s:aa) (bJ:Int) (a_:Unit) (hl:v_s.ah.length≤1000000) : ai (mB v_s bJ) ab (0)=bh (jQ v_s bJ) (fun a_=>(.inl ((v_s.ah.length:Int)))) a_ v_s.ah :=
 ay v_s.ah (S:=Int) (fun a_ k_=>(k_)) (jQ v_s bJ) (fun a_=>(.inl ((v_s.ah.length:Int)))) (an hl) (fun k a x hx=>by
  unfold mB jQ; exact bN)
  (fun a=>by unfold mB; exact cL) a_
def cI (v_s:aa) (st:Bool×(List ak)) (x_:ak) : Option ((Bool×(List ak))⊕((Bool×(List ak)×Int))) :=
 let cz:=st.1
 let v_l:=st.2
 (if (!cz)=true then (dh x_).bind fun c6=>some (!c6) else some false).bind fun q7=>if q7=true then
 let cz:Bool:=true
 some (.inl (cz,v_l))
 else
 (aP v_l [x_]).bind fun b8=>let v_l:(List ak):=b8
 some (.inl (cz,v_l))
theorem pk (v_s:aa) (a_:Bool×(List ak)) (hl:v_s.ah.length≤1000000) : ai (jO v_s) ab (a_.1,a_.2,(0))=bh (cI v_s) (fun a_=>(a_.1,a_.2,((v_s.ah.length:Int)))) a_ v_s.ah :=
 ay v_s.ah (S:=Bool×(List ak)×Int) (fun a_ k_=>(a_.1,a_.2,(k_))) (cI v_s) (fun a_=>(a_.1,a_.2,((v_s.ah.length:Int)))) (an hl) (fun k a x hx=>by
  unfold jO cI; exact bN)
  (fun a=>by unfold jO; exact cL) a_
def cX (v_s:aa) (st:Int) (x_:ak) : Option ((Int)⊕((Int×Int))) :=
 let lx:=st
 (dh x_).bind fun c13=>if c13=true then
 let lx:Int:=(i64.wrap (lx + 1))
 some (.inl lx)
 else
 some (.inl lx)
theorem pm (v_s:aa) (a_:Int) (hl:v_s.ah.length≤1000000) : ai (gO v_s) ab (a_,(0))=bh (cX v_s) (fun a_=>(a_,((v_s.ah.length:Int)))) a_ v_s.ah :=
 ay v_s.ah (S:=Int×Int) (fun a_ k_=>(a_,(k_))) (cX v_s) (fun a_=>(a_,((v_s.ah.length:Int)))) (an hl) (fun k a x hx=>by
  unfold gO cX; exact bN)
  (fun a=>by unfold gO; exact cL) a_
def gN (v_s:aa) (bJ:Int) (st:(List Int)×(List ao)) (x_:ao) : Option (((List Int)×(List ao))⊕(((List Int)×(List ao)×Int))) :=
 let jW:=st.1
 let v_l:=st.2
 if (x_.bE==bJ)=true then
 (aP jW [x_.fId]).bind fun b6=>let jW:(List Int):=b6
 some (.inl (jW,v_l))
 else
 (aP v_l [x_]).bind fun b7=>let v_l:(List ao):=b7
 some (.inl (jW,v_l))
theorem AX (v_s:aa) (bJ:Int) (a_:(List Int)×(List ao)) (hl:v_s.ac.length≤1000000) : ai (mz v_s bJ) ab (a_.1,a_.2,(0))=bh (gN v_s bJ) (fun a_=>(a_.1,a_.2,((v_s.ac.length:Int)))) a_ v_s.ac :=
 ay v_s.ac (S:=(List Int)×(List ao)×Int) (fun a_ k_=>(a_.1,a_.2,(k_))) (gN v_s bJ) (fun a_=>(a_.1,a_.2,((v_s.ac.length:Int)))) (an hl) (fun k a x hx=>by
  unfold mz gN; exact bN)
  (fun a=>by unfold mz; exact cL) a_
def gM (v_s:aa) (bJ:Int) (st:(List bA)) (x_:bA) : Option (((List bA))⊕(((List bA)×Int))) :=
 let iU:=st
 if (x_.bE != bJ)=true then
 (aP iU [x_]).bind fun b10=>let iU:(List bA):=b10
 some (.inl iU)
 else
 some (.inl iU)
theorem AW (v_s:aa) (bJ:Int) (a_:(List bA)) (hl:v_s.aU.length≤1000000) : ai (my v_s bJ) ab (a_,(0))=bh (gM v_s bJ) (fun a_=>(a_,((v_s.aU.length:Int)))) a_ v_s.aU :=
 ay v_s.aU (S:=(List bA)×Int) (fun a_ k_=>(a_,(k_))) (gM v_s bJ) (fun a_=>(a_,((v_s.aU.length:Int)))) (an hl) (fun k a x hx=>by
  unfold my gM; exact bN)
  (fun a=>by unfold my; exact cL) a_
def jR (v_s:aa) (bJ:Int) (st:Unit) (x_:ao) : Option ((Unit)⊕((Int)⊕(ao×Bool))) :=
 if (x_.fId==bJ)=true then
 some (.inr (.inr (x_,true)))
 else
 some (.inl ())
theorem A7 (v_s:aa) (bJ:Int) (a_:Unit) (hl:v_s.ac.length≤1000000) : ai (mC v_s bJ) ab (0)=bh (jR v_s bJ) (fun a_=>(.inl ((v_s.ac.length:Int)))) a_ v_s.ac :=
 ay v_s.ac (S:=Int) (fun a_ k_=>(k_)) (jR v_s bJ) (fun a_=>(.inl ((v_s.ac.length:Int)))) (an hl) (fun k a x hx=>by
  unfold mC jR; exact bN)
  (fun a=>by unfold mC; exact cL) a_
def gS (v_s:aa) (bJ:Int) (st:(List ao)) (x_:ao) : Option (((List ao))⊕(((List ao)×Int))) :=
 let v_l:=st
 if (x_.fId != bJ)=true then
 (aP v_l [x_]).bind fun b4=>let v_l:(List ao):=b4
 some (.inl v_l)
 else
 some (.inl v_l)
theorem A8 (v_s:aa) (bJ:Int) (a_:(List ao)) (hl:v_s.ac.length≤1000000) : ai (mD v_s bJ) ab (a_,(0))=bh (gS v_s bJ) (fun a_=>(a_,((v_s.ac.length:Int)))) a_ v_s.ac :=
 ay v_s.ac (S:=(List ao)×Int) (fun a_ k_=>(a_,(k_))) (gS v_s bJ) (fun a_=>(a_,((v_s.ac.length:Int)))) (an hl) (fun k a x hx=>by
  unfold mD gS; exact bN)
  (fun a=>by unfold mD; exact cL) a_
def ed (v_l:(List Int)) (v_n:Int) (st:(List Int)) (x_:Int) : Option (((List Int))⊕(((List Int)×Int))) :=
 let am:=st
 if (x_ != v_n)=true then
 (aP am [x_]).bind fun b4=>let am:(List Int):=b4
 some (.inl am)
 else
 some (.inl am)
theorem v6 (v_l:(List Int)) (v_n:Int) (a_:(List Int)) (hl:v_l.length≤1000000) : ai (i8 v_l v_n) ab (a_,(0))=bh (ed v_l v_n) (fun a_=>(a_,((v_l.length:Int)))) a_ v_l :=
 ay v_l (S:=(List Int)×Int) (fun a_ k_=>(a_,(k_))) (ed v_l v_n) (fun a_=>(a_,((v_l.length:Int)))) (an hl) (fun k a x hx=>by
  unfold i8 ed; exact bN)
  (fun a=>by unfold i8; exact cL) a_
def gR (cp:(List Int)) (st:aa) (x_:Int) : Option ((aa)⊕((aa×Int))) :=
 let v_s:=st
 (eV v_s x_).bind fun c21=>let v_c:ao:=c21.1
 let bW:Bool:=c21.2
 if (!bW)=true then
 some (.inl v_s)
 else
 (ef v_s v_c.bE).bind fun c22=>let v_a:ak:=c22.1
 if v_c.bb=true then
 (pY v_a).bind fun c23=>let t24:Int:=1
 let t25:(List aM):=c23
 let v_a:ak:={ v_a with cC:=t24 }
 let v_a:ak:={ v_a with bL:=t25 }
 let t26:(List Int):=[]
 let t27:(List Int):=[]
 let t28:(List Int):=[]
 let t29:(List Int):=[]
 let v_a:ak:={ v_a with bP:=t26 }
 let v_a:ak:={ v_a with dr:=t27 }
 let v_a:ak:={ v_a with ji:=t28 }
 let v_a:ak:={ v_a with jU:=t29 }
 let t30:Int:=0
 let t31:Int:=v_s.bZ
 let v_a:ak:={ v_a with ci:=t30 }
 let v_a:ak:={ v_a with bQ:=t31 }
 (eo v_s v_a).bind fun c32=>(tu c32 v_c.bE).bind fun c33=>let v_s:aa:=c33.1
 some (.inl v_s)
 else
 (qV v_s v_c.fId).bind fun c34=>let v_s:aa:=c34
 let uU:Bool:=false
 (jw v_a.bP v_c.fId).bind fun c35=>let v_a:ak:={ v_a with bP:=c35.1 }
 let uU:Bool:=c35.2
 (if (!uU)=true then
 (aP ([] : (List Int)) v_a.dr).bind fun b37=>(aP b37 [v_c.fId]).bind fun b38=>let v_a:ak:={ v_a with dr:=b38 }
 some v_a
 else
 some v_a).bind fun j36=>let v_a:=j36
 (eo v_s v_a).bind fun c39=>let v_s:aa:=c39
 some (.inl v_s)
theorem A4 (cp:(List Int)) (a_:aa) (hl:cp.length≤1000000) : ai (mA cp) ab (a_,(0))=bh (gR cp) (fun a_=>(a_,((cp.length:Int)))) a_ cp :=
 ay cp (S:=aa×Int) (fun a_ k_=>(a_,(k_))) (gR cp) (fun a_=>(a_,((cp.length:Int)))) (an hl) (fun k a x hx=>by
  unfold mA gR; exact bN)
  (fun a=>by unfold mA; exact cL) a_
def eU (v_s:aa) (st:(List Int)) (x_:ak) : Option (((List Int))⊕(((List Int)×Int))) :=
 let v_l:=st
 (if (x_.cC==2)=true then some (decide ((i64.wrap (v_s.bZ - x_.bQ))≥15)) else some false).bind fun q6=>if q6=true then
 (aP v_l [x_.fId]).bind fun b7=>let v_l:(List Int):=b7
 some (.inl v_l)
 else
 some (.inl v_l)
theorem xh (v_s:aa) (a_:(List Int)) (hl:v_s.ah.length≤1000000) : ai (jP v_s) ab (a_,(0))=bh (eU v_s) (fun a_=>(a_,((v_s.ah.length:Int)))) a_ v_s.ah :=
 ay v_s.ah (S:=(List Int)×Int) (fun a_ k_=>(a_,(k_))) (eU v_s) (fun a_=>(a_,((v_s.ah.length:Int)))) (an hl) (fun k a x hx=>by
  unfold jP eU; exact bN)
  (fun a=>by unfold jP; exact cL) a_
def dW (v_c:ax) (aw:ByteArray) (st:Unit) (x_:av) : Option ((Unit)⊕((Int)⊕(av×Bool))) :=
 if (x_.aB.toList==aw.toList)=true then
 let v_q:av:=x_
 (aP ([] : (List eB)) v_q.bu).bind fun b4=>let v_q:av:={ v_q with bu:=b4 }
 some (.inr (.inr (v_q,true)))
 else
 some (.inl ())
theorem tg (v_c:ax) (aw:ByteArray) (a_:Unit) (hl:v_c.ae.length≤1000000) : ai (n5 v_c aw) ab (0)=bh (dW v_c aw) (fun a_=>(.inl ((v_c.ae.length:Int)))) a_ v_c.ae :=
 ay v_c.ae (S:=Int) (fun a_ k_=>(k_)) (dW v_c aw) (fun a_=>(.inl ((v_c.ae.length:Int)))) (an hl) (fun k a x hx=>by
  unfold n5 dW; exact bN)
  (fun a=>by unfold n5; exact cL) a_
def cu (v_c:ax) (aw:ByteArray) (st:(List ByteArray)) (x_:av) : Option (((List ByteArray))⊕(((List ByteArray)×Int))) :=
 let v_l:=st
 (if (!(aw.toList==(⟨#[]⟩ : ByteArray).toList))=true then (dK x_.aB).bind fun c6=>some (c6.toList==aw.toList) else some false).bind fun q7=>if q7=true then
 (aP v_l [x_.aB]).bind fun b8=>let v_l:(List ByteArray):=b8
 some (.inl v_l)
 else
 some (.inl v_l)
theorem gp (v_c:ax) (aw:ByteArray) (a_:(List ByteArray)) (hl:v_c.ae.length≤1000000) : ai (nZ v_c aw) ab (a_,(0))=bh (cu v_c aw) (fun a_=>(a_,((v_c.ae.length:Int)))) a_ v_c.ae :=
 ay v_c.ae (S:=(List ByteArray)×Int) (fun a_ k_=>(a_,(k_))) (cu v_c aw) (fun a_=>(a_,((v_c.ae.length:Int)))) (an hl) (fun k a x hx=>by
  unfold nZ cu; exact bN)
  (fun a=>by unfold nZ; exact cL) a_
def iu (bF:(List ByteArray)) (v_c:ax) (v_k:Int) (st:Int) (x_:ByteArray) : Option ((Int)⊕((Int×Int))) :=
 let v_n:=st
 (jE v_c x_).bind fun c7=>let v_q:av:=c7.1
 (ar v_q.bu v_k).bind fun b8=>let v_n:Int:=(i64.wrap (v_n + b8.kN))
 some (.inl v_n)
theorem Ch (bF:(List ByteArray)) (v_c:ax) (v_k:Int) (a_:Int) (hl:bF.length≤1000000) : ai (ko bF v_c v_k) ab (a_,(0))=bh (iu bF v_c v_k) (fun a_=>(a_,((bF.length:Int)))) a_ bF :=
 ay bF (S:=Int×Int) (fun a_ k_=>(a_,(k_))) (iu bF v_c v_k) (fun a_=>(a_,((bF.length:Int)))) (an hl) (fun k a x hx=>by
  unfold ko iu; exact bN)
  (fun a=>by unfold ko; exact cL) a_
def iw (v_c:ax) (st:Unit) (x_:av) : Option ((Unit)⊕((Int)⊕(Bool))) :=
 (ek v_c x_.aB).bind fun c10=>let bF:(List ByteArray):=c10
 let v_k:Int:=0
 (ai (nX v_c bF) ab v_k).bind fun r11=>match r11 with
 | .inr m12=>some (.inr (.inr m12))
 | .inl m12 =>
 let v_k:=m12
 some (.inl ())
theorem Ci (v_c:ax) (a_:Unit) (hl:v_c.ae.length≤1000000) : ai (nY v_c) ab (0)=bh (iw v_c) (fun a_=>(.inl ((v_c.ae.length:Int)))) a_ v_c.ae :=
 ay v_c.ae (S:=Int) (fun a_ k_=>(k_)) (iw v_c) (fun a_=>(.inl ((v_c.ae.length:Int)))) (an hl) (fun k a x hx=>by
  unfold nY iw; exact bN)
  (fun a=>by unfold nY; exact cL) a_
theorem p9 {s:ByteArray} {k:Int} (h0 : 0≤k) (h1:k.toNat < s.size) : ∃ b,ke s k=some b:=by
 unfold ke
 rw [if_pos h0]
 have:k.toNat < s.data.toList.length:=by simpa using h1
 rw [zq this]
 exact ⟨_,rfl⟩
theorem oB (p:ByteArray) (hp:p.size≤1000000) : ∃ r,dK p=some r∧(r.size < p.size∨r.size=0):=by
 unfold dK
 have hw:∀ k:Int,-1≤k→k≤1000000000→i64.wrap (k - 1)=k - 1:=fun k h1 h2=>IY (by omega) (by omega)
 have h:=aL (f:=eH p) (fun k=>-1≤k∧k < (p.size:Int)) (fun k=>(k + 1).toNat) (fun k=>-1≤k∧k < (p.size:Int)) (fun k ⟨h1,h2⟩=>by
  unfold eH
  by_cases hk:k≥0
  ·obtain ⟨b,hb⟩:=p9 (s:=p) hk (by omega)
   simp only [hk,decide_true,if_true,hb,zb]
   cases (b != 46) with
   | true =>
    simp only [if_true,hw k h1 (by omega)]
    exact .inl ⟨_,rfl,by omega,by omega⟩
   | false=>exact .inr ⟨_,rfl,h1,h2⟩
  ·simp only [hk,decide_false,zf,if_false,zb]
   exact .inr ⟨_,rfl,h1,h2⟩) ab (i64.wrap ((p.size:Int) - 1)) (by rw [hw _ (by omega) (by omega)]; omega) (by show (i64.wrap ((p.size:Int) - 1) + 1).toNat < ab; rw [hw _ (by omega) (by omega)]; unfold ab; omega)
 obtain ⟨k,h1,h2,h3⟩:=h
 dsimp only
 rw [h1]
 simp only [zb]
 by_cases hk:k < 0
 ·simp only [hk,decide_true,if_true]
  exact ⟨_,rfl,.inr rfl⟩
 ·simp only [hk,decide_false,zf,if_false]
  unfold Ij
  rw [if_pos ⟨by omega,by omega⟩]
  refine ⟨_,rfl,.inl ?_⟩
  simp only [ByteArray.size_extract]
  omega
theorem rA {p:ByteArray} (h:(!(p.toList==(⟨#[]⟩ : ByteArray).toList))=true) : 0 < p.size:=by
 rcases Nat.eq_zero_or_pos p.size with h0 | h0
 ·exfalso
  have:p=⟨#[]⟩:=by
   cases p with
   | mk d => have : d = #[] := by apply Array.eq_empty_of_size_eq_zero; exact h0
             rw [this]
  rw [this] at h
  simp at h
 ·exact h0
theorem Hb (p:ByteArray) (hp:p.size≤1000000) : ∃ r,zR p=some r∧r.length≤p.size∧∀ q∈r,q.size≤p.size:=by
 unfold zR
 have h:=aL (f:=oC) (fun st=>st.1.length + st.2.size≤p.size∧∀ q∈st.1,q.size≤p.size) (fun st=>st.2.size) (fun st=>st.1.length≤p.size∧∀ q∈st.1,q.size≤p.size) (fun st ⟨h1,h2⟩=>by
  unfold oC
  dsimp only
  split
  ·rename_i hne
   have h0:=rA hne
   rw [aF (by simp; omega)]
   obtain ⟨r,hr,hs⟩:=oB st.2 (by omega)
   simp only [zb,hr]
   refine .inl ⟨_,rfl,⟨by simp; omega,fun q hq=>?_⟩,by show r.size < st.2.size; omega⟩
   simp only [List.mem_append,List.mem_singleton] at hq
   rcases hq with hq | rfl
   ·exact h2 q hq
   ·omega
  ·exact .inr ⟨_,rfl,by show st.1.length≤p.size; omega,h2⟩) ab ([],p) ⟨by simp,by simp⟩ (by show p.size < ab; unfold ab; omega)
 obtain ⟨r,h1,h2,h3⟩:=h
 dsimp only
 rw [h1]
 exact ⟨_,rfl,h2,h3⟩
structure SzC (c:ax) : Prop where
 labels:c.al.length≤1000
 queues:c.ae.length≤1000
 caps:∀ q∈c.ae,q.bu.length≤1000
 paths:∀ q∈c.ae,q.aB.size≤1000000
def FW (c:ax) (p:ByteArray) : av:=(c.ae.find? fun q=>q.aB.toList==p.toList).getD av.zero
def isQ (c:ax) (p:ByteArray) : Bool:=c.ae.any fun q=>q.aB.toList==p.toList
theorem jn (c:ax) (p:ByteArray) (h:SzC c) : jE c p=some (FW c p,isQ c p):=by
 unfold jE FW isQ
 have hs:=tg c p () (by have:=h.queues; omega)
 dsimp only
 rw [hs]
 have key:∀ l:List av,(∀ q∈l,q.bu.length≤1000)→bh (dW c p) (fun _=>(Sum.inl (c.ae.length:Int) : Int⊕(av×Bool))) () l=some (match l.find? fun q=>q.aB.toList==p.toList with | some q=>.inr (q,true) | none=>.inl (c.ae.length:Int)):=by
  intro l
  induction l with
  | nil=>intro _; rfl
  | cons q l ih =>
   intro hc
   simp only [bh,List.find?_cons]
   unfold dW
   cases hq:(q.aB.toList==p.toList) with
   | true =>
    have:=hc q (by simp)
    simp only [if_true]
    rw [aF (by simp; omega)]
    rfl
   | false =>
    simp only [zf,if_false]
    exact ih fun q hq=>hc q (by simp [hq])
 rw [key _ h.caps]
 cases hf:c.ae.find? fun q=>q.aB.toList==p.toList with
 | none =>
  have:(c.ae.any fun q=>q.aB.toList==p.toList)=false:=by
   rw [List.any_eq_false]; intro x hx; have:=List.find?_eq_none.1 hf x hx; simpa using this
  rw [this]; rfl
 | some q =>
  have:(c.ae.any fun q=>q.aB.toList==p.toList)=true:=by
   rw [List.any_eq_true]; exact ⟨q,List.mem_of_find?_eq_some hf,by simpa using List.find?_some hf⟩
  rw [this]; rfl
theorem ul (c:ax) (p:ByteArray) (h:SzC c) : ∃ r,ek c p=some r∧r.length≤c.ae.length∧∀ x∈r,∃ q∈c.ae,q.aB=x:=by
 unfold ek
 have hs:=gp c p [] (by have:=h.queues; omega)
 dsimp only
 rw [hs]
 obtain ⟨r,h1,h2⟩:=aV (g:=cu c p) (fin:=fun a=>(a,(c.ae.length:Int))) (fun k a=>a.length≤k∧∀ x∈a,∃ q∈c.ae,q.aB=x) (fun r=>r.1.length≤c.ae.length∧∀ x∈r.1,∃ q∈c.ae,q.aB=x) c.ae 0 [] (fun j a x hx ⟨h1,h2⟩=>by
  have hm:=List.mem_of_getElem? hx
  have hj:=(zg.1 hx).1
  obtain ⟨r,hr,_⟩:=oB x.aB (h.paths x hm)
  have hqs:=h.queues
  unfold cu
  simp only [hr,zb,dy]
  split
  ·rw [aF (by simp; omega)]
   refine ⟨_,rfl,fun a' e=>?_,fun r e=>by cases e⟩
   injection e with e
   subst e
   refine ⟨by simp; omega,fun y hy=>?_⟩
   simp only [List.mem_append,List.mem_singleton] at hy
   rcases hy with hy | rfl
   ·exact h2 y hy
   ·exact ⟨x,hm,rfl⟩
  ·refine ⟨_,rfl,fun a' e=>?_,fun r e=>by cases e⟩
   injection e with e
   subst e
   exact ⟨by omega,h2⟩) (fun a ⟨h1,h2⟩=>⟨by simpa using h1,h2⟩) ⟨by simp,by simp⟩
 rw [h1]
 exact ⟨_,rfl,h2⟩
def jf (c:ax) (p:ByteArray) : Bool:=(iY c p).getD false
theorem kR (c:ax) (p:ByteArray) (h:SzC c) : iY c p=some (jf c p):=by
 have:∃ r,iY c p=some r:=by
  unfold iY
  obtain ⟨r,hr,_⟩:=ul c p h
  simp only [jn c p h,zb,hr,dy]
  exact ⟨_,rfl⟩
 obtain ⟨r,hr⟩:=this
 unfold jf
 rw [hr]
 rfl
def id' {α : Type} (x : α) : α:=x
theorem zo {α : Type} (l:List α) : l.map id' = l:=List.map_id l
def dg (a:ak) : Bool:=a.cC==1||a.cC==2
theorem dn (a:ak) : dh a=some (dg a):=by unfold dh dg; simp only [orB,zb]
theorem Dm (n:Int) : vZ n=some (decide (n≥1)&&decide (n≤1073741824)):=by unfold vZ; simp only [dy,zb]
theorem ux (a:ak) : pY a=some [⟨0,0,a.bb,1,-1,-1,0⟩]:=rfl
theorem JC {α β : Type} (p : α→Bool) (l:List α) (z : α) (d : β) : (match (match l.find? p with | some q=>(Sum.inr (q,true) : β⊕(α×Bool)) | none=>.inl d) with | .inr m=>some m | .inl _=>some (z,false))=some ((l.find? p).getD z,l.any p):=by
 cases hf:l.find? p with
 | none =>
  have:l.any p=false:=by
   rw [List.any_eq_false]; intro x hx; have:=List.find?_eq_none.1 hf x hx; simpa using this
  rw [this]; rfl
 | some q =>
  have:l.any p=true:=by rw [List.any_eq_true]; exact ⟨q,List.mem_of_find?_eq_some hf,List.find?_some hf⟩
  rw [this]; rfl
def bU (s:aa) (id:Int) : ak:=(s.ah.find? fun c=>c.fId==id).getD ak.zero
def xr (s:aa) (id:Int) : Bool:=s.ah.any fun c=>c.fId==id
theorem kX {α τ : Type} (p : α→Bool) (q : α→τ) (d : τ) (l:List α) : bh (fun (_:Unit) x=>if p x=true then some (.inr (q x)) else some (.inl ())) (fun _=>d) () l=some (match l.find? p with | some x=>q x | none=>d):=by
 rw [tI]
 cases l.find? p <;> rfl
theorem dp (s:aa) (id:Int) (hl:s.ah.length≤1000000) : ef s id=some (bU s id,xr s id):=by
 unfold ef bU xr
 dsimp only
 rw [A6 s id () hl,show jQ s id=fun (_:Unit) x=>if (x.fId==id)=true then some (.inr (.inr (x,true))) else some (.inl ()) from rfl,
  kX (fun x:ak=>x.fId==id) (fun x=>(Sum.inr (x,true) : Int⊕ak×Bool)) (.inl (s.ah.length:Int)) s.ah]
 simp only [zb]
 have h2:=JC (fun x:ak=>x.fId==id) s.ah ak.zero (s.ah.length:Int)
 revert h2
 cases s.ah.find? fun x=>x.fId==id <;> exact fun h=>h
def mN (s:aa) (id:Int) : ao:=(s.ac.find? fun c=>c.fId==id).getD ao.zero
def NB (s:aa) (id:Int) : Bool:=s.ac.any fun c=>c.fId==id
theorem ld (s:aa) (id:Int) (hl:s.ac.length≤1000000) : eV s id=some (mN s id,NB s id):=by
 unfold eV mN NB
 dsimp only
 rw [A7 s id () hl,show jR s id=fun (_:Unit) x=>if (x.fId==id)=true then some (.inr (.inr (x,true))) else some (.inl ()) from rfl,
  kX (fun x:ao=>x.fId==id) (fun x=>(Sum.inr (x,true) : Int⊕ao×Bool)) (.inl (s.ac.length:Int)) s.ac]
 simp only [zb]
 have h2:=JC (fun x:ao=>x.fId==id) s.ac ao.zero (s.ac.length:Int)
 revert h2
 cases s.ac.find? fun x=>x.fId==id <;> exact fun h=>h
theorem fL (s:aa) (n:ak) (hl:s.ah.length + 1≤1000000) : eo s n=some { s with ah:=cE ak.fId s.ah n } := by
 unfold eo
 have hl':s.ah.length≤1000000:=by omega
 have h:=tR s.ah (fun x=>decide (x.fId < n.fId)) (f:=n8 s n) (an hl')
  (fun k x hx=>by
   have hk:=(zg.1 hx).1
   unfold n8
   simp only [bG hx,if_true,aD hx,zb,aR hk hl'])
  (by unfold n8; simp only [bv]; rfl)
 unfold cE
 have hK:=lA (fun x:ak=>decide (x.fId < n.fId)) s.ah
 generalize (s.ah.takeWhile fun x=>decide (x.fId < n.fId)).length=K at h hK ⊢
 dsimp only
 rw [h]
 simp only [zb]
 rw [nn hK]
 simp only [zb]
 rw [aF (by simp; omega)]
 simp only [zb]
 rw [aF (by simp; omega)]
 simp only [zb]
 by_cases hlt:K < s.ah.length
 ·have hx:s.ah[K]? = some s.ah[K]:=zq hlt
  simp only [bG hx,if_true,aD hx,zb,hx]
  cases he:(s.ah[K].fId==n.fId) with
  | true =>
   simp only [if_true,zb,aR hlt hl']
   rw [jX hlt]
   simp only [zb]
   rw [aF (by simp; omega)]
   simp
  | false =>
   simp only [zf,if_false,zb]
   rw [jX hK]
   simp only [zb]
   rw [aF (by simp; omega)]
   simp
 ·have:K=s.ah.length:=by omega
  subst this
  simp only [bv,zf,if_false,zb]
  rw [jX (Nat.le_refl _)]
  simp only [zb]
  rw [aF (by simp; omega)]
  simp
theorem Dp (s:aa) (id:Int) (hl:s.ac.length≤1000000) : qV s id=some { s with ac:=s.ac.filter fun c=>c.fId != id } := by
 unfold qV
 dsimp only
 have e:gS s id=fun acc x=>if (x.fId != id)=true then (aP acc [id' x]).map (fun a=>(.inl a:List ao⊕(List ao×Int))) else some (.inl acc):=by
  funext acc x
  unfold gS
  dsimp only [id']
  split
  ·cases aP acc [x] <;> rfl
  ·rfl
 rw [A8 s id [] hl,e,bV (fun c:ao=>c.fId != id) id' _ s.ac [] (by simpa using hl)]
 simp only [zb,List.nil_append,zo]
theorem v7 (l:List Int) (n:Int) (hl:l.length≤1000000) : jw l n=some (l.filter (fun c=>c != n),decide (((l.filter (fun c=>c != n)).length:Int) < (l.length:Int))):=by
 unfold jw
 dsimp only
 have e:ed l n=fun acc x=>if (x != n)=true then (aP acc [id' x]).map (fun a=>(.inl a:List Int⊕(List Int×Int))) else some (.inl acc):=by
  funext acc x
  unfold ed
  dsimp only [id']
  split
  ·cases aP acc [x] <;> rfl
  ·rfl
 rw [v6 l n [] hl,e,bV (fun c:Int=>c != n) id' _ l [] (by simpa using hl)]
 simp only [zb,List.nil_append,zo]
theorem xC (s:aa) (hl:s.ah.length≤1000000) : qU s=some ((s.ah.filter fun b=>b.cC==2&&decide (i64.wrap (s.bZ - b.bQ)≥15)).map ak.fId):=by
 unfold qU
 dsimp only
 have e:eU s=fun acc x=>if (x.cC==2&&decide (i64.wrap (s.bZ - x.bQ)≥15))=true then (aP acc [x.fId]).map (fun a=>(.inl a:List Int⊕(List Int×Int))) else some (.inl acc):=by
  funext acc x
  unfold eU
  simp only [dy,zb]
  split
  ·cases aP acc [x.fId] <;> rfl
  ·rfl
 rw [xh s [] hl,e,bV (fun x:ak=>x.cC==2&&decide (i64.wrap (s.bZ - x.bQ)≥15)) ak.fId _ s.ah [] (by simpa using hl)]
 simp
theorem Dl (s:aa) (id:Int) (hl:s.ac.length≤1000000) (hs:s.aU.length≤1000000) : tu s id=some ({ s with ac:=s.ac.filter fun c=>!(c.bE==id),aU:=s.aU.filter fun c=>c.bE != id },(s.ac.filter fun c=>c.bE==id).map ao.fId):=by
 unfold tu
 dsimp only
 have e2:gM s id=fun acc x=>if (x.bE != id)=true then (aP acc [id' x]).map (fun a=>(.inl a:List bA⊕(List bA×Int))) else some (.inl acc):=by
  funext acc x
  unfold gM
  dsimp only [id']
  split
  ·cases aP acc [x] <;> rfl
  ·rfl
 have k1:∀ (l:List ao) (a:List Int×List ao),a.1.length + a.2.length + l.length≤1000000→bh (gN s id) (fun b=>(b.1,b.2,(s.ac.length:Int))) a l=some (a.1++(l.filter fun c=>c.bE==id).map ao.fId,a.2++(l.filter fun c=>!(c.bE==id)),(s.ac.length:Int)):=by
  intro l
  induction l with
  | nil=>intro a _; simp [bh]
  | cons x l ih =>
   intro a h
   simp only [List.length_cons] at h
   have step:gN s id a x=if (x.bE==id)=true then (aP a.1 [x.fId]).bind fun b=>some (.inl (b,a.2)) else (aP a.2 [x]).bind fun b=>some (.inl (a.1,b)):=rfl
   simp only [bh,List.filter_cons,step]
   cases (x.bE==id) with
   | true =>
    simp only [if_true]
    rw [aF (by simp; omega)]
    simp only [zb]
    rw [ih _ (by simp; omega)]
    simp
   | false =>
    simp only [zf,if_false]
    rw [aF (by simp; omega)]
    simp only [zb]
    rw [ih _ (by simp; omega)]
    simp
 rw [AX s id ([],[]) hl,k1 _ _ (by simpa using hl)]
 simp only [zb]
 rw [AW s id [] hs,e2,bV (fun c:bA=>c.bE != id) id' _ s.aU [] (by simpa using hs)]
 simp only [zb,List.nil_append,zo]
def gm (v_s:aa) (af:Int) (st:az) (x_:aZ) : Option ((az)⊕((az×Int))) :=
 let v_v:=st
 (if x_.fUp=true then some (x_.a6==af) else some false).bind fun q6=>if q6=true then
 (dv v_v x_.lj).bind fun c7=>let v_v:az:=c7
 some (.inl v_v)
 else
 some (.inl v_v)
theorem zQ (v_s:aa) (af:Int) (a_:az) (hl:v_s.aE.length≤1000000) : ai (lV v_s af) ab (a_,(0))=bh (gm v_s af) (fun a_=>(a_,((v_s.aE.length:Int)))) a_ v_s.aE :=
 ay v_s.aE (S:=az×Int) (fun a_ k_=>(a_,(k_))) (gm v_s af) (fun a_=>(a_,((v_s.aE.length:Int)))) (an hl) (fun k a x hx=>by
  unfold lV gm; exact bN)
  (fun a=>by unfold lV; exact cL) a_
def it (v_s:aa) (af:Int) (st:az) (x_:a8) : Option ((az)⊕((az×Int))) :=
 let v_v:=st
 let v_p:a8:=x_
 (if (v_p.a6==af)=true then some (decide (v_p.ou≤v_s.bZ)) else some false).bind fun q5=>(if q5=true then some (decide (v_s.bZ < v_p.jY)) else some false).bind fun q6=>if q6=true then
 (dv v_v v_p.iX).bind fun c7=>let v_v:az:=c7
 some (.inl v_v)
 else
 some (.inl v_v)
theorem Cg (v_s:aa) (af:Int) (a_:az) (hl:v_s.bl.length≤1000000) : ai (nW v_s af) ab (a_,(0))=bh (it v_s af) (fun a_=>(a_,((v_s.bl.length:Int)))) a_ v_s.bl :=
 ay v_s.bl (S:=az×Int) (fun a_ k_=>(a_,(k_))) (it v_s af) (fun a_=>(a_,((v_s.bl.length:Int)))) (an hl) (fun k a x hx=>by
  unfold nW it; exact bN)
  (fun a=>by unfold nW; exact cL) a_
def vF (s:aa) (k:Int) : az:=(jm s k).getD az.zero
theorem oz (s:aa) (k:Int) (hl:s.aE.length≤1000000) : jm s k=some (vF s k):=by
 have:∃ r,jm s k=some r:=by
  unfold jm
  dsimp only
  rw [zQ s k ⟨0,0⟩ hl]
  obtain ⟨r,h1,_⟩:=aV (g:=gm s k) (fin:=fun a=>(a,(s.aE.length:Int))) (fun _ _=>True) (fun _=>True) s.aE 0 ⟨0,0⟩ (fun j a x hx _=>by
   unfold gm
   simp only [eI,dy,zb,tE]
   exact ⟨_,rfl,fun _ _=>trivial,fun _ _=>trivial⟩) (fun _ _=>trivial) trivial
  rw [h1]
  exact ⟨_,rfl⟩
 obtain ⟨r,hr⟩:=this
 unfold vF
 rw [hr]; rfl
def Zd (s:aa) (k:Int) : az:=(uj s k).getD az.zero
theorem Rk (s:aa) (k:Int) (hl:s.bl.length≤1000000) : uj s k=some (Zd s k):=by
 have:∃ r,uj s k=some r:=by
  unfold uj
  dsimp only
  rw [Cg s k ⟨0,0⟩ hl]
  obtain ⟨r,h1,_⟩:=aV (g:=it s k) (fin:=fun a=>(a,(s.bl.length:Int))) (fun _ _=>True) (fun _=>True) s.bl 0 ⟨0,0⟩ (fun j a x hx _=>by
   unfold it
   simp only [eI,dy,zb,tE]
   exact ⟨_,rfl,fun _ _=>trivial,fun _ _=>trivial⟩) (fun _ _=>trivial) trivial
  rw [h1]
  exact ⟨_,rfl⟩
 obtain ⟨r,hr⟩:=this
 unfold Zd
 rw [hr]; rfl
def ej (p:ByteArray) : ByteArray:=(dK p).getD ⟨#[]⟩
def dG:Nat→ByteArray→Nat
 | 0,_=>0
 | n + 1,p=>if p.size=0 then 0 else dG n (ej p) + 1
structure Deep (c:ax) : Prop where
 few:c.ae.length≤16
 deep:∀ q∈c.ae,dG 6 q.aB≤4
structure wi (c:ax) : Prop where
 sz:SzC c
 each:∀ q∈c.ae,q.bu.length=c.al.length
 up:∀ q∈c.ae,∀ r,zR q.aB=some r→∀ x∈r,isQ c x=true
 deep:Deep c
 lab1 : 1≤c.al.length
 leaf:∃ q∈c.ae,jf c q.aB=true
 lsz:∀ x∈c.al,x.size≤1000000
theorem zy {c:ax} {p:ByteArray} (h:isQ c p=true) : FW c p∈c.ae∧((FW c p).aB.toList==p.toList)=true:=by
 unfold isQ at h
 unfold FW
 cases hf:c.ae.find? fun q=>q.aB.toList==p.toList with
 | none =>
  rw [List.any_eq_true] at h
  obtain ⟨q,hq,h2⟩:=h
  have:=List.find?_eq_none.1 hf q hq
  exact absurd h2 (by simpa using this)
 | some q=>exact ⟨List.mem_of_find?_eq_some hf,by simpa using List.find?_some hf⟩
theorem oy {a b:ByteArray} (h:(a.toList==b.toList)=true) : a=b:=by
 have h:a.toList=b.toList:=by simpa using h
 rw [ByteArray.toList_eq,ByteArray.toList_eq] at h
 cases a; cases b
 simp only at h
 congr 1
 exact Array.ext' h
theorem La {α : Type} {l:List α} {i:Int} (h0 : 0≤i) (h1:i < (l.length:Int)) : ∃ x,ar l i=some x∧x∈l:=by
 unfold ar
 rw [if_pos h0]
 have:i.toNat < l.length:=by omega
 exact ⟨l[i.toNat],zq this,List.getElem_mem this⟩
theorem G8 (s:aa) (p:ByteArray) (k:Int) (b:Bool) (hf:wi s.bB) (hn:s.aE.length≤1000000) : ∃ r,uh s p k b=some r:=by
 unfold uh
 simp only [jn _ _ hf.sz,zb,orB,oz s k hn]
 cases hc:(!isQ s.bB p||decide (k < 0)||decide (k≥(s.bB.al.length:Int))) with
 | true=>exact ⟨_,rfl⟩
 | false =>
  simp only [Bool.or_eq_false_iff,Bool.not_eq_false',decide_eq_false_iff_not] at hc
  obtain ⟨⟨hq,hk0⟩,hk1⟩:=hc
  obtain ⟨hm,hp⟩:=zy hq
  have hpe:=oy hp
  have hps:p.size≤1000000:=by rw [← hpe]; exact hf.sz.paths _ hm
  obtain ⟨up,hup,hul,_⟩:=Hb p hps
  have hall:=hf.up _ hm up (by rw [hpe]; exact hup)
  simp only [zf,if_false,hup,zb]
  have hw:∀ i:Int,-1≤i→i≤1000000→i64.wrap (i - 1)=i - 1:=fun i h1 h2=>IY (by omega) (by omega)
  have hw2:i64.wrap ((up.length:Int) - 2)=(up.length:Int) - 2:=IY (by omega) (by omega)
  have h:=aL (f:=rV s up k b) (fun st=>-2≤st.2∧st.2 < (up.length:Int)) (fun st=>(st.2 + 1).toNat) (fun _=>True) (fun st ⟨h1,h2⟩=>by
   unfold rV
   dsimp only
   by_cases hi:st.2≥0
   ·obtain ⟨x,hx,hxm⟩:=La (l:=up) hi h2
    have hxq:=hall x hxm
    have hcap:=hf.each _ (zy hxq).1
    obtain ⟨c,hc,_⟩:=La (l:=(FW s.bB x).bu) (i:=k) (by omega) (by rw [hcap]; omega)
    simp only [hi,decide_true,if_true,hx,zb,jn _ _ hf.sz,hc,Db,tE,hw st.2 (by omega) (by omega)]
    exact .inl ⟨_,rfl,⟨by show -2≤st.2 - 1; omega,by show st.2 - 1 < _; omega⟩,by show (st.2 - 1 + 1).toNat < (st.2 + 1).toNat; omega⟩
   ·simp only [hi,decide_false,zf,if_false]
    exact .inr ⟨_,rfl,trivial⟩) ab (vF s k,i64.wrap ((up.length:Int) - 2)) ⟨by show -2≤i64.wrap ((up.length:Int) - 2); rw [hw2]; omega,by show i64.wrap ((up.length:Int) - 2) < _; rw [hw2]; omega⟩ (by show (i64.wrap ((up.length:Int) - 2) + 1).toNat < ab; rw [hw2]; unfold ab; omega)
  obtain ⟨r,h1,_⟩:=h
  rw [h1]
  exact ⟨_,rfl⟩
def Cw (s:aa) (p:ByteArray) (k:Int) : az:=(uh s p k true).getD az.zero
def Zb (s:aa) (p:ByteArray) (k:Int) : az:=(uh s p k false).getD az.zero
theorem oA (s:aa) (p:ByteArray) (k:Int) (hf:wi s.bB) (hn:s.aE.length≤1000000) : lW s p k=some (Cw s p k):=by
 obtain ⟨r,hr⟩:=G8 s p k true hf hn
 unfold lW Cw
 rw [hr]; rfl
theorem G9 (s:aa) (p:ByteArray) (k:Int) (hf:wi s.bB) (hn:s.aE.length≤1000000) : wI s p k=some (Zb s p k):=by
 obtain ⟨r,hr⟩:=G8 s p k false hf hn
 unfold wI Zb
 rw [hr]; rfl
def aaZ (s:aa) (p:ByteArray) (k:Int) : az:=if isQ s.bB p=true then (Q5 (Cw s p k) (FW s.bB p).cD).1 else az.zero
theorem Ri (s:aa) (p:ByteArray) (k:Int) (hf:wi s.bB) (hn:s.aE.length≤1000000) : Ex s p k=some (aaZ s p k):=by
 unfold Ex aaZ
 simp only [jn _ _ hf.sz,zb,oA s p k hf hn,Db]
 cases isQ s.bB p <;> rfl
def ir (v_s:aa) (bJ:Int) (st:az) (x_:ao) : Option ((az)⊕((az×Int))) :=
 let v_v:=st
 if (x_.bM==bJ)=true then
 (dv v_v x_.cJ).bind fun c4=>let v_v:az:=c4
 some (.inl v_v)
 else
 some (.inl v_v)
theorem Cf (v_s:aa) (bJ:Int) (a_:az) (hl:v_s.ac.length≤1000000) : ai (nS v_s bJ) ab (a_,(0))=bh (ir v_s bJ) (fun a_=>(a_,((v_s.ac.length:Int)))) a_ v_s.ac :=
 ay v_s.ac (S:=az×Int) (fun a_ k_=>(a_,(k_))) (ir v_s bJ) (fun a_=>(a_,((v_s.ac.length:Int)))) (an hl) (fun k a x hx=>by
  unfold nS ir; exact bN)
  (fun a=>by unfold nS; exact cL) a_
theorem Rf (s:aa) (id:Int) (hl:s.aE.length≤1000000) : nU s id=some (((s.aE.find? fun c=>c.fId==id).map fun c=>(c,true)).getD (aZ.zero,false)):=by
 unfold nU
 have h:=ay (S:=Int) s.aE (fun (_:Unit) k=>k) (f:=nT s id) (fun _ x=>if (x.fId==id)=true then some (.inr (.inr (x,true))) else some (.inl ())) (fun _=>.inl (s.aE.length:Int)) (an hl)
  (fun k a x hx=>by
   have hk:=(zg.1 hx).1
   unfold nT
   simp only [bG hx,if_true,aD hx,zb]
   split
   ·rfl
   ·simp only [aR hk hl,Option.map_some])
  (fun a=>by unfold nT; simp only [bv]; rfl) ()
 dsimp only
 have h2:=tI (fun x:aZ=>x.fId==id) (fun x=>(Sum.inr (x,true) : Int⊕aZ×Bool)) (.inl (s.aE.length:Int)) s.aE
 rw [h,h2]
 cases List.find? (fun c=>c.fId==id) s.aE <;> rfl
theorem Cd (s:aa) (n:aZ) (hl:s.aE.length + 1≤1000000) : Ce s n=some { s with aE:=cE aZ.fId s.aE n } := by
 unfold Ce
 have hl':s.aE.length≤1000000:=by omega
 have h:=tR s.aE (fun x=>decide (x.fId < n.fId)) (f:=pG s n) (an hl')
  (fun k x hx=>by
   have hk:=(zg.1 hx).1
   unfold pG
   simp only [bG hx,if_true,aD hx,zb,aR hk hl'])
  (by unfold pG; simp only [bv]; rfl)
 unfold cE
 have hK:=lA (fun x:aZ=>decide (x.fId < n.fId)) s.aE
 generalize (s.aE.takeWhile fun x=>decide (x.fId < n.fId)).length=K at h hK ⊢
 dsimp only
 rw [h]
 simp only [zb]
 rw [nn hK]
 simp only [zb]
 rw [aF (by simp; omega)]
 simp only [zb]
 rw [aF (by simp; omega)]
 simp only [zb]
 by_cases hlt:K < s.aE.length
 ·have hx:s.aE[K]? = some s.aE[K]:=zq hlt
  simp only [bG hx,if_true,aD hx,zb,hx]
  cases he:(s.aE[K].fId==n.fId) with
  | true =>
   simp only [if_true,zb,aR hlt hl']
   rw [jX hlt]
   simp only [zb]
   rw [aF (by simp; omega)]
   simp
  | false =>
   simp only [zf,if_false,zb]
   rw [jX hK]
   simp only [zb]
   rw [aF (by simp; omega)]
   simp
 ·have:K=s.aE.length:=by omega
  subst this
  simp only [bv,zf,if_false,zb]
  rw [jX (Nat.le_refl _)]
  simp only [zb]
  rw [aF (by simp; omega)]
  simp
theorem Rb (n:Int) : zN n=some (decide (n≥0)&&decide (n≤1073741824)):=by
 unfold zN
 simp only [dy,zb]
def tU (s:aa) (id:Int) : Bool:=s.aE.any fun c=>c.fId==id
def eY (s:aa) (id:Int) : aZ:=(s.aE.find? fun c=>c.fId==id).getD aZ.zero
theorem nw (s:aa) (id:Int) (hl:s.aE.length≤1000000) : nU s id=some (eY s id,tU s id):=by
 rw [Rf s id hl]
 unfold eY tU
 cases h:s.aE.find? fun c=>c.fId==id with
 | none =>
  have:(s.aE.any fun c=>c.fId==id)=false:=by
   rw [List.any_eq_false]; intro x hx; have:=List.find?_eq_none.1 h x hx; simpa using this
  rw [this]; rfl
 | some c =>
  have:(s.aE.any fun c=>c.fId==id)=true:=by
   rw [List.any_eq_true]; exact ⟨c,List.mem_of_find?_eq_some h,by simpa using List.find?_some h⟩
  rw [this]; rfl
def abV (s:aa) (n:aZ) : Bool:=!(decide (n.fId < 0)||decide (n.fId > 999)||decide (n.a6 < 0)||decide (n.a6≥(s.bB.al.length:Int))||decide (n.eZ < 0)||decide (n.eZ > 99) || !(decide (n.lj.bH≥0)&&decide (n.lj.bH≤1073741824)) || !(decide (n.lj.be≥0)&&decide (n.lj.be≤1073741824)))
def ZH (s:aa) (n:aZ) : aa×Int :=
 if abV s n=false then (s,1)
 else if (tU s n.fId&&(eY s n.fId).fUp)=true then (s,7)
 else if (!tU s n.fId&&decide ((s.aE.length:Int)≥12))=true then (s,4)
 else ({ s with aE:=cE aZ.fId s.aE ⟨n.fId,n.a6,n.eZ,n.lj,s.bZ,0,true⟩ },0)
theorem G6 (s:aa) (n:aZ) (hl:s.aE.length + 1≤1000000) : rL s n=some (ZH s n):=by
 unfold rL ZH
 simp only [Rb,orB,zb,nw s n.fId (by omega),Cd s _ hl,dy]
 unfold abV
 generalize (decide (n.fId < 0)||decide (n.fId > 999)||decide (n.a6 < 0)||decide (n.a6≥(s.bB.al.length:Int))||decide (n.eZ < 0)||decide (n.eZ > 99) || !(decide (n.lj.bH≥0)&&decide (n.lj.bH≤1073741824)) || !(decide (n.lj.be≥0)&&decide (n.lj.be≤1073741824)))=b1
 generalize (tU s n.fId&&(eY s n.fId).fUp)=b2
 generalize (!tU s n.fId&&decide ((s.aE.length:Int)≥12))=b3
 cases b1 <;> cases b2 <;> cases b3 <;> rfl
theorem LZ (s:aa) (hl:s.aE.length≤1000000) : wH s=some ((s.aE.filter fun b=>b.fUp&&decide (i64.wrap (s.bZ - b.bQ)≥10)).map aZ.fId):=by
 unfold wH
 have h:=ay (S:=List Int×Int) s.aE (fun a k=>(a,k)) (f:=ku s) (fun acc x=>if (x.fUp&&decide (i64.wrap (s.bZ - x.bQ)≥10))=true then (aP acc [x.fId]).map (fun a=>(.inl a:List Int⊕(List Int×Int))) else some (.inl acc)) (fun a=>(a,(s.aE.length:Int))) (an hl)
  (fun k a x hx=>by
   have hk:=(zg.1 hx).1
   unfold ku
   simp only [bG hx,if_true,aD hx,zb,dy,aR hk hl]
   split
   ·cases aP a [x.fId] <;> rfl
   ·rfl)
  (fun a=>by unfold ku; simp only [bv]; rfl) []
 rw [bV (fun b:aZ=>b.fUp&&decide (i64.wrap (s.bZ - b.bQ)≥10)) aZ.fId (fun a=>(a,(s.aE.length:Int))) s.aE [] (by simpa using hl)] at h
 dsimp only
 rw [h]
 rfl
def Ov (s:aa) (id b:Int) : aa×Int :=
 if tU s id=false then (s,2)
 else if (eY s id).fUp=false then (s,18)
 else if decide (b < 0)=true then (s,15)
 else if decide (b < (eY s id).ci)=true then (s,15)
 else if decide (i64.wrap (b - (eY s id).ci) > 1)=true then (s,1)
 else ({ s with aE:=cE aZ.fId s.aE { eY s id with bQ:=s.bZ,ci:=b } },0)
theorem Rh (s:aa) (id b:Int) (hl:s.aE.length + 1≤1000000) : Ew s id b=some (Ov s id b):=by
 unfold Ew Ov
 simp only [nw s id (by omega),zb,Cd s _ hl]
 generalize tU s id=b1
 generalize (eY s id).fUp=b2
 generalize decide (b < 0)=b3
 generalize decide (b < (eY s id).ci)=b4
 generalize decide (i64.wrap (b - (eY s id).ci) > 1)=b5
 cases b1 <;> cases b2 <;> cases b3 <;> cases b4 <;> cases b5 <;> rfl
def TR (s:aa) (id:Int) : aa:=if tU s id=true then { s with aE:=cE aZ.fId s.aE { eY s id with fUp:=false } } else s
theorem Rg (s:aa) (id:Int) (hl:s.aE.length + 1≤1000000) : zP s id=some (TR s id):=by
 unfold zP TR
 simp only [nw s id (by omega),zb,Cd s _ hl]
 generalize tU s id=b1
 cases b1 <;> rfl
def aaL (s:aa) (id:Int) : az:=s.ac.foldl (fun v c=>if (c.bM==id)=true then Vt v c.cJ else v) az.zero
theorem Rc (s:aa) (id:Int) (hl:s.ac.length≤1000000) : Ev s id=some (aaL s id):=by
 unfold Ev
 dsimp only
 rw [Cf s id ⟨0,0⟩ hl]
 have:ir s id=fun v c=>some (.inl (if (c.bM==id)=true then Vt v c.cJ else v)):=by
  funext v c
  unfold ir
  simp only [eI,zb]
  cases (c.bM==id) <;> rfl
 rw [this,p7 (fun (v:az) (c:ao)=>if (c.bM==id)=true then Vt v c.cJ else v)]
 rfl
def aaS (s:aa) (id:Int) : az:=if (!tU s id || !(eY s id).fUp)=true then az.zero else XI (eY s id).lj (aaL s id)
theorem G7 (s:aa) (id:Int) (hl:s.aE.length≤1000000) (hc:s.ac.length≤1000000) : zO s id=some (aaS s id):=by
 unfold zO aaS
 simp only [nw s id hl,zb,orB,Rc s id hc,Hi]
 generalize (!tU s id || !(eY s id).fUp)=b1
 cases b1 <;> rfl
theorem tM {α : Type} (key : α→Int) (l:List α) (a : α) : (cE key l a).length≤l.length + 1:=by
 unfold cE
 have h:=lA (fun x=>decide (key x < key a)) l
 generalize (l.takeWhile fun x=>decide (key x < key a)).length=K at h ⊢
 simp only [List.length_append,List.length_take,List.length_cons,List.length_drop]
 split
 ·split <;> omega
 ·omega
def jZ {α : Type} (key : α→Int) (l:List α) : Prop:=l.Pairwise fun x y=>key x < key y
structure SzA (B:Nat) (a:ak) : Prop where
 queue:a.bD.size≤1000000∧0≤a.bQ∧a.bQ≤1000000000∧a.fId < 9000
 asks:a.bL.length≤B
 grants:a.bP.length≤B
 kills:a.dr.length≤B
 told:a.ji.length≤B
 lost:a.jU.length≤B
def acE (s:aa) : Prop:=(0≤s.bZ∧s.bZ≤1000000000)∧∀ n∈s.aE,(0≤n.bQ∧n.bQ≤1000000000)∧0≤n.ci
structure SzS (B:Nat) (s:aa) : Prop where
 conf:wi s.bB
 nodes:s.aE.length≤B∧jZ aZ.fId s.aE∧acE s
 apps:s.ah.length≤B
 conts:s.ac.length≤B
 slots:s.aU.length≤B
 plans:s.bl.length≤B
 app:∀ a∈s.ah,SzA B a
theorem SzA.mono {B C:Nat} {a:ak} (h:SzA B a) (hc:B≤C) : SzA C a:=⟨h.queue,Nat.le_trans h.asks hc,Nat.le_trans h.grants hc,Nat.le_trans h.kills hc,Nat.le_trans h.told hc,Nat.le_trans h.lost hc⟩
theorem SzS.mono {B C:Nat} {s:aa} (h:SzS B s) (hc:B≤C) : SzS C s:=⟨h.conf,⟨Nat.le_trans h.nodes.1 hc,h.nodes.2⟩,Nat.le_trans h.apps hc,Nat.le_trans h.conts hc,Nat.le_trans h.slots hc,Nat.le_trans h.plans hc,fun a ha=>(h.app a ha).mono hc⟩
theorem SzA.zero (B:Nat) : SzA B ak.zero:=⟨⟨Nat.zero_le _,Int.le_refl _,by decide,by decide⟩,Nat.zero_le _,Nat.zero_le _,Nat.zero_le _,Nat.zero_le _,Nat.zero_le _⟩
theorem SzS.get {B:Nat} {s:aa} (h:SzS B s) (id:Int) : SzA B (bU s id):=by
 unfold bU
 cases hf:s.ah.find? fun c=>c.fId==id with
 | none=>exact SzA.zero B
 | some a=>exact h.app a (List.mem_of_find?_eq_some hf)
theorem kK {α : Type} {key : α→Int} {l:List α} {a x : α} (h:x∈cE key l a) : x=a∨x∈l:=by
 unfold cE at h
 simp only [List.mem_append,List.mem_cons] at h
 rcases h with h | h | h
 ·exact .inr (List.mem_of_mem_take h)
 ·exact .inl h
 ·exact .inr (List.mem_of_mem_drop h)
theorem SzS.put {B:Nat} {s:aa} (h:SzS B s) {a:ak} (ha:SzA (B + 1) a) : SzS (B + 1) { s with ah:=cE ak.fId s.ah a } :=
 ⟨h.conf,⟨Nat.le_trans h.nodes.1 (Nat.le_succ _),h.nodes.2⟩,Nat.le_trans (tM _ _ _) (Nat.succ_le_succ h.apps),Nat.le_trans h.conts (Nat.le_succ _),Nat.le_trans h.slots (Nat.le_succ _),Nat.le_trans h.plans (Nat.le_succ _),fun x hx=>by
  rcases kK hx with rfl | hx
  ·exact ha
  ·exact (h.app x hx).mono (Nat.le_succ _)⟩
theorem SzS.fewer {B:Nat} {s:aa} (h:SzS B s) {c:List ao} {l:List bA} (hc:c.length≤s.ac.length) (hl:l.length≤s.aU.length) : SzS B { s with ac:=c,aU:=l } := ⟨h.conf,h.nodes,h.apps,Nat.le_trans hc h.conts,Nat.le_trans hl h.slots,h.plans,h.app⟩
theorem AU (a p:ByteArray) (ha:a.size≤1000000) : ∃ r,nB a p=some r:=by
 obtain ⟨u,h1,h2,h3⟩:=Hb a ha
 unfold nB
 rw [h1]
 dsimp only [zb]
 rw [yI u p () (by omega),show i6 u p=fun (_:Unit) x=>if (x.toList==p.toList)=true then some (.inr (.inr true)) else some (.inl ()) from rfl,
  kX (fun x:ByteArray=>x.toList==p.toList) (fun _=>(Sum.inr true:Int⊕Bool)) (.inl (u.length:Int)) u]
 simp only [zb]
 cases u.find? fun x=>x.toList==p.toList <;> exact ⟨_,rfl⟩
theorem Di {B:Nat} {s:aa} (h:SzS B s) (hB:B≤1000000) (p:ByteArray) (k:Int) (all:Bool) (u:Int) : ∃ r,vU s p k all u=some r:=by
 have h1:=h.apps; have h2:=h.conts
 unfold vU
 dsimp only
 rw [AR s k p all u _ (by omega)]
 obtain ⟨r,e1,_⟩:=aV (g:=gK s k p all u) (fin:=fun b=>(b,(s.ac.length:Int))) (fun _ _=>True) (fun _=>True) s.ac 0 (⟨0,0⟩ : az) (fun j t x hx _=>by
  obtain ⟨b,hb⟩:=AU (bU s x.bE).bD p (h.get x.bE).queue.1
  unfold gK
  simp only [dp s x.bE (by omega),zb,dy,hb,eI]
  cases xr s x.bE <;> cases (x.a6==k) <;> cases b <;> cases all <;> cases ((bU s x.bE).cD==u) <;> exact ⟨_,rfl,fun _ _=>trivial,fun _ _=>trivial⟩) (fun _ _=>trivial) trivial
 rw [e1]
 exact ⟨_,rfl⟩
theorem fx {B:Nat} {s:aa} (h:SzS B s) (hB:B≤1000000) (p:ByteArray) (k:Int) : ∃ r,eT s p k=some r:=by
 obtain ⟨r,e⟩:=Di h hB p k true 0
 exact ⟨r,by unfold eT; rw [e]; rfl⟩
theorem DH {B:Nat} {s:aa} (h:SzS B s) (hB:B≤1000000) (p:ByteArray) (k u:Int) : ∃ r,pK s p k u=some r:=by
 obtain ⟨r,e⟩:=Di h hB p k false u
 exact ⟨r,by unfold pK; rw [e]; rfl⟩
theorem vX {B:Nat} {s:aa} (h:SzS B s) (hB:B≤1000000) (p:ByteArray) (k:Int) : ∃ r,oG s p k=some r:=by
 have h1:=h.apps
 unfold oG
 dsimp only
 rw [vY s k p _ (by omega)]
 obtain ⟨r,e1,_⟩:=aV (g:=ec s k p) (fin:=fun b=>(b,(s.ah.length:Int))) (fun _ _=>True) (fun _=>True) s.ah 0 (⟨0,0⟩ : az) (fun j t x hx _=>by
  have hm:=h.app x (List.mem_of_getElem? hx)
  have ha:=hm.asks
  obtain ⟨b,hb⟩:=AU x.bD p hm.queue.1
  unfold ec
  simp only [dn,zb,hb,IE x.bL k (by omega),eI]
  cases dg x <;> cases b <;> exact ⟨_,rfl,fun _ _=>trivial,fun _ _=>trivial⟩) (fun _ _=>trivial) trivial
 rw [e1]
 exact ⟨_,rfl⟩
theorem Dk {B:Nat} {s:aa} (h:SzS B s) (hB:B≤1000000) (p:ByteArray) (hp:p.size≤1000000) (k:Int) (v:az) : ∃ r,vV s p k v=some r:=by
 obtain ⟨u,h1,h2,h3⟩:=Hb p hp
 have k1:=h.nodes.1; have k2:=h.plans
 unfold vV
 rw [h1]
 dsimp only [zb]
 rw [AV u s k v () (by omega)]
 obtain ⟨r,e1,_⟩:=aV (g:=gL u s k v) (fin:=fun _=>(.inl (u.length:Int))) (fun _ _=>True) (fun _=>True) u 0 () (fun j t x hx _=>by
  obtain ⟨w,hw⟩:=fx h hB x k
  unfold gL
  simp only [hw,zb,eI,G9 s x k h.conf (by omega),kS,oz s k (by omega),Rk s k (by omega),Hi]
  generalize aac (Vt w v) (Zb s x k)=b1
  generalize aac (Vt w v) (XI (vF s k) (Zd s k))=b2
  generalize (x.toList==(⟨#[114,111,111,116]⟩ : ByteArray).toList)=b3
  cases b1 <;> cases b2 <;> cases b3 <;> exact ⟨_,rfl,fun _ _=>trivial,fun _ _=>trivial⟩) (fun _ _=>trivial) trivial
 rw [e1]
 simp only [zb]
 cases r <;> exact ⟨_,rfl⟩
theorem Mn {B:Nat} {s:aa} (h:SzS B s) (hB:B≤1000000) (a b:ByteArray) (k:Int) : ∃ r,wV s a b k=some r:=by
 obtain ⟨u,hu⟩:=fx h hB a k
 obtain ⟨w,hw⟩:=fx h hB b k
 have k1:=h.nodes.1
 unfold wV
 simp only [hu,hw,oA s _ k h.conf (Nat.le_trans k1 hB),OT,zb,dy,orB]
 exact ⟨_,rfl⟩
theorem ol {α : Type} (out:List α) (hl:out.length≤1000000) {f:Int→Option (Int⊕Int)} (h:∀ (k:Nat) (x : α),out[k]? = some x→∃ b,f (k:Int)=if b=true then some (.inl ((k + 1:Nat) : Int)) else some (.inr (k:Int)))
  (hend:f (out.length:Int)=some (.inr (out.length:Int))) : ∃ K:Nat,ai f ab 0=some (K:Int)∧K≤out.length:=by
 obtain ⟨r,h1,K,h2,h3⟩:=aL (f:=f) (fun st=>∃ k:Nat,st=(k:Int)∧k≤out.length) (fun st=>out.length - st.toNat) (fun r=>∃ k:Nat,r=(k:Int)∧k≤out.length) (fun st ⟨k,e,hk⟩=>by
  subst e
  by_cases hlt:k < out.length
  ·obtain ⟨b,hb⟩:=h k _ (zq hlt)
   rw [hb]
   cases b with
   | true=>exact .inl ⟨_,rfl,⟨k + 1,rfl,hlt⟩,by simp only [zt]; omega⟩
   | false=>exact .inr ⟨_,rfl,k,rfl,hk⟩
  ·have:k=out.length:=by omega
   subst this
   exact .inr ⟨_,hend,_,rfl,Nat.le_refl _⟩) ab 0 ⟨0,rfl,Nat.zero_le _⟩ (by have:=an hl; omega)
 subst h2
 exact ⟨K,h1,h3⟩
theorem mZ {σ α τ : Type} {g : σ→Int→α→Option (σ⊕τ)} {fin : σ→τ} (I:Nat→σ→Prop) (Q : τ→Prop) : ∀ (l:List α) (k:Nat) (a : σ),(∀ (j:Nat) (a : σ) (x : α),l[j]? = some x→I (k + j) a→∃ o,g a ((k + j:Nat) : Int) x=some o∧(∀ a',o = .inl a'→I (k + j + 1) a')∧∀ r,o = .inr r→Q r)→(∀ a,I (k + l.length) a→Q (fin a))→I k a→∃ r,oe g fin a k l=some r∧Q r
 | [],k,a,_,hf,hI=>⟨fin a,rfl,hf a hI⟩
 | x::l,k,a,h,hf,hI=>by
  obtain ⟨o,h1,h2,h3⟩:=h 0 a x rfl hI
  simp only [Nat.add_zero] at h1
  simp only [oe,h1]
  cases o with
  | inr r=>exact ⟨r,rfl,h3 r rfl⟩
  | inl a' =>
   refine mZ I Q l (k + 1) a' (fun j b y hy hb=>?_) (fun b hb=>hf b (by simpa [Nat.add_assoc,Nat.add_comm 1] using hb)) (h2 a' rfl)
   have:=h (j + 1) b y hy (by rwa [Nat.add_right_comm] at hb)
   rwa [Nat.add_right_comm k 1 j,Nat.add_assoc k j 1]
theorem Pq {B:Nat} {s:aa} (h:SzS B s) (hB:B≤1000000) (p:ByteArray) (k:Int) : ∃ l r,ek s.bB p=some l∧AN s p k=some r∧r.length≤l.length∧∀ x∈r,x∈l:=by
 obtain ⟨l,h1,h2,h3⟩:=ul s.bB p h.conf.sz
 have k2:=h.conf.sz.queues
 have hl:l.length≤1000:=by omega
 unfold AN
 simp only [h1]
 dsimp only [zb]
 rw [AM l s k [] (by omega)]
 obtain ⟨r,e1,e2⟩:=mZ (g:=gH l s k) (fin:=fun b=>(b,(l.length:Int))) (fun j b=>b.length≤j∧∀ x∈b,x∈l) (fun r=>r.1.length≤l.length∧∀ x∈r.1,x∈l) l 0 [] (fun j out x hx ⟨ho,hm⟩=>by
  have hj:=(zg.1 hx).1
  obtain ⟨K,hK1,hK2⟩:=ol out (by omega) (f:=ju out s ((0 + j:Nat) : Int) l k) (fun i y hy=>by
   have hi:=(zg.1 hy).1
   obtain ⟨b,hb⟩:=Mn h hB x y k
   refine ⟨!b,?_⟩
   unfold ju
   simp only [bG hy,if_true,aD hy,aD (show l[0 + j]? = some x by rwa [Nat.zero_add]),hb,zb,aR hi (show out.length≤1000000 by omega)]) (by unfold ju; simp only [bv,zf,if_false,zb])
  unfold gH
  dsimp only
  rw [hK1]
  simp only [zb]
  rw [nn hK2]
  simp only [zb]
  rw [aF (by simp; omega)]
  simp only [zb]
  rw [aF (by simp; omega)]
  simp only [zb]
  rw [jX hK2]
  simp only [zb]
  rw [aF (by simp; omega)]
  refine ⟨_,rfl,fun a' e=>?_,fun r e=>by cases e⟩
  injection e with e
  subst e
  refine ⟨by simp; omega,fun y hy=>?_⟩
  simp only [List.nil_append,List.mem_append,List.mem_singleton] at hy
  rcases hy with (hy | rfl) | hy
  ·exact hm y (List.mem_of_mem_take hy)
  ·exact List.mem_of_getElem? hx
  ·exact hm y (List.mem_of_mem_drop hy)) (fun b ⟨hb,hm⟩=>⟨by simpa using hb,hm⟩) ⟨by simp,by simp⟩
 rw [e1]
 exact ⟨l,_,rfl,rfl,e2.1,e2.2⟩
theorem Pr {B:Nat} {s:aa} (h:SzS B s) (hB:B≤1000000) (q:ByteArray) : ∃ r,AQ s q=some r∧r.length≤B∧∀ i∈r,∃ x∈s.ah,x.fId=i:=by
 have k1:=h.apps
 unfold AQ
 dsimp only
 rw [AP s q [] (by omega)]
 obtain ⟨r,e1,e2⟩:=aV (g:=gJ s q) (fin:=fun b=>(b,(s.ah.length:Int))) (fun j b=>b.length≤j∧∀ y∈b,y∈s.ah) (fun r=>r.1.length≤s.ah.length∧∀ y∈r.1,y∈s.ah) s.ah 0 [] (fun j out x hx ⟨ho,hm⟩=>by
  have hj:=(zg.1 hx).1
  unfold gJ
  simp only [dn,zb,orB]
  split
  ·exact ⟨_,rfl,fun a' e=>by injection e with e; subst e; exact ⟨Nat.le_succ_of_le ho,hm⟩,fun r e=>by cases e⟩
  obtain ⟨K,hK1,hK2⟩:=ol out (by omega) (f:=jv out x) (fun i y hy=>by
   have hi:=(zg.1 hy).1
   refine ⟨decide (y.bq≥x.bq),?_⟩
   unfold jv
   simp only [bG hy,if_true,aD hy,zb,aR hi (show out.length≤1000000 by omega)]) (by unfold jv; simp only [bv,zf,if_false,zb])
  rw [hK1]
  simp only [zb]
  rw [nn hK2]
  simp only [zb]
  rw [aF (by simp; omega)]
  simp only [zb]
  rw [aF (by simp; omega)]
  simp only [zb]
  rw [jX hK2]
  simp only [zb]
  rw [aF (by simp; omega)]
  refine ⟨_,rfl,fun a' e=>?_,fun r e=>by cases e⟩
  injection e with e
  subst e
  refine ⟨by show (([] ++ out.take K ++ [x])++out.drop K).length≤0 + j + 1; simp; omega,fun y hy=>?_⟩
  simp only [List.nil_append,List.mem_append,List.mem_singleton] at hy
  rcases hy with (hy | rfl) | hy
  ·exact hm y (List.mem_of_mem_take hy)
  ·exact List.mem_of_getElem? hx
  ·exact hm y (List.mem_of_mem_drop hy)) (fun b ⟨hb,hm⟩=>⟨by simpa using hb,hm⟩) ⟨by simp,by simp⟩
 rw [e1]
 simp only [zb]
 have e:gI r.1=fun acc (x:ak)=>if true=true then (aP acc [x.fId]).map (fun a=>(.inl a:List Int⊕(List Int×Int))) else some (.inl acc):=by
  funext acc x
  unfold gI
  simp only [if_true]
  cases aP acc [x.fId] <;> rfl
 have e3:=e2.1
 rw [AO r.1 [] (by omega),e,bV (fun _=>true) ak.fId _ r.1 [] (by simp; omega)]
 refine ⟨_,rfl,?_,fun i hi=>?_⟩
 ·have hf:=List.length_filter_le (fun _:ak=>true) r.1
  rw [List.nil_append,List.length_map]
  omega
 ·rw [List.nil_append,List.mem_map] at hi
  obtain ⟨y,hy,e4⟩:=hi
  exact ⟨y,e2.2 y (List.mem_filter.1 hy).1,e4⟩
theorem C3:∀ (n:Nat) (p:ByteArray),dG n p < n→dG (n + 1) p=dG n p
 | 0,_,h=>absurd h (Nat.not_lt_zero _)
 | n + 1,p,h=>by
  unfold dG at h ⊢
  split
  ·rfl
  ·rename_i h0
   rw [if_neg h0] at h
   rw [C3 n _ (by omega)]
theorem JQ {x p:ByteArray} (hx:dK x=some p) (hp : 0 < p.size) (xs:x.size≤1000000) (hd:dG 6 x≤4) : dG 6 p + 1=dG 6 x:=by
 obtain ⟨r,h1,h2⟩:=oB x xs
 rw [hx] at h1
 injection h1 with h1
 subst h1
 have e:dG 6 x=dG 5 p + 1:=by
  show (if x.size=0 then 0 else dG 5 (ej x) + 1) = _
  rw [if_neg (by omega)]
  unfold ej
  rw [hx]
  rfl
 rw [e] at hd ⊢
 rw [C3 5 p (by omega)]
theorem C8 (c:ax) (p:ByteArray) (h:SzC c) {l:List ByteArray} (hl:ek c p=some l) : ∀ x∈l,(∃ q∈c.ae,q.aB=x)∧dK x=some p∧0 < p.size:=by
 unfold ek at hl
 have hs:=gp c p [] (by have:=h.queues; omega)
 dsimp only at hl
 rw [hs] at hl
 obtain ⟨r,h1,h2⟩:=aV (g:=cu c p) (fin:=fun a=>(a,(c.ae.length:Int))) (fun k a=>a.length≤k∧∀ x∈a,(∃ q∈c.ae,q.aB=x)∧dK x=some p∧0 < p.size) (fun r=>∀ x∈r.1,(∃ q∈c.ae,q.aB=x)∧dK x=some p∧0 < p.size) c.ae 0 [] (fun j a x hx ⟨h1,h2⟩=>by
  have hm:=List.mem_of_getElem? hx
  have hj:=(zg.1 hx).1
  obtain ⟨r,hr,_⟩:=oB x.aB (h.paths x hm)
  have hqs:=h.queues
  unfold cu
  simp only [hr,zb,dy]
  split
  ·rename_i hc
   rw [Bool.and_eq_true] at hc
   rw [aF (by simp; omega)]
   refine ⟨_,rfl,fun a' e=>?_,fun r e=>by cases e⟩
   injection e with e
   subst e
   refine ⟨by simp; omega,fun y hy=>?_⟩
   simp only [List.mem_append,List.mem_singleton] at hy
   rcases hy with hy | rfl
   ·exact h2 y hy
   ·exact ⟨⟨x,hm,rfl⟩,by rw [hr,oy hc.2],rA hc.1⟩
  ·refine ⟨_,rfl,fun a' e=>?_,fun r e=>by cases e⟩
   injection e with e
   subst e
   exact ⟨by omega,h2⟩) (fun a ⟨h1,h2⟩=>h2) ⟨by simp,by simp⟩
 rw [h1] at hl
 injection hl with hl
 subst hl
 exact h2
def zu (self:aa→ByteArray→Int→Option (List ByteArray)) (s:aa) (k:Int) (out:List ByteArray) (x:ByteArray) : Option (List ByteArray⊕(List ByteArray×Int)) :=
 (self s x k).bind fun c=>(aP out c).bind fun b=>some (.inl b)
theorem Nu (self:aa→ByteArray→Int→Option (List ByteArray)) (l:List ByteArray) (s:aa) (k:Int) (hl:l.length≤1000000) : ai (jN self l s k) ab ([],0)=bh (zu self s k) (fun a=>(a,(l.length:Int))) [] l :=
 ay l (S:=List ByteArray×Int) (fun a k=>(a,k)) (zu self s k) (fun a=>(a,(l.length:Int))) (an hl) (fun i a x hx=>by
  have hk:=(zg.1 hx).1
  unfold jN zu
  simp only [bG hx,if_true,aD hx,zb,aR hk hl,Jk,Option.map_some])
  (fun a=>by unfold jN; exact cL) []
theorem xy {B:Nat} {s:aa} (h:SzS B s) (hD:Deep s.bB) (hB:B≤1000000) (k:Int) : ∀ (d n:Nat) (p:ByteArray),4 - dG 6 p≤d→d < n→d≤4→∃ r,jt n s p k=some r∧r.length≤16 ^ d
 | d,0,p,_,hn,_=>absurd hn (Nat.not_lt_zero _)
 | d,n + 1,p,hp,hn,hd=>by
  obtain ⟨l,m,h1,h2,h3,h4⟩:=Pq h hB p k
  obtain ⟨l',e1,e2,_⟩:=ul s.bB p h.conf.sz
  rw [h1] at e1
  injection e1 with e1
  subst e1
  have hq:=hD.few
  unfold jt
  simp only [h2,zb]
  split
  ·exact ⟨_,rfl,by show 1≤16 ^ d; exact Nat.one_le_pow _ _ (by omega)⟩
  ·rename_i hne
   have hm : 0 < m.length:=by
    rcases Nat.eq_zero_or_pos m.length with h0 | h0
    ·rw [h0] at hne; exact absurd rfl hne
    ·exact h0
   have kid:=C8 s.bB p h.conf.sz h1
   have kd:∀ x∈m,dG 6 p + 1=dG 6 x∧dG 6 x≤4:=fun x hx=>by
    obtain ⟨⟨q,hq1,hq2⟩,a1,a2⟩:=kid x (h4 x hx)
    subst hq2
    exact ⟨JQ a1 a2 (h.conf.sz.paths q hq1) (hD.deep q hq1),hD.deep q hq1⟩
   have hd0 : 0 < d:=by
    obtain ⟨a1,a2⟩:=kd m[0] (List.getElem_mem hm)
    omega
   obtain ⟨d',rfl⟩ : ∃ d',d=d' + 1:=⟨d - 1,by omega⟩
   have hpow : 16 ^ d'≤16 ^ 3:=Nat.pow_le_pow_right (by omega) (by omega)
   rw [Nu _ m s k (by omega)]
   obtain ⟨r,r1,r2⟩:=aV (g:=zu (jt n) s k) (fin:=fun a=>(a,(m.length:Int))) (fun j a=>a.length≤j * 16 ^ d') (fun r=>r.1.length≤m.length * 16 ^ d') m 0 [] (fun j a x hx ha=>by
    have hj:=(zg.1 hx).1
    obtain ⟨a1,a2⟩:=kd x (List.mem_of_getElem? hx)
    obtain ⟨c,c1,c2⟩:=xy h hD hB k d' n x (by omega) (by omega) (by omega)
    have hj2:(0 + j) * 16 ^ d'≤16 * 16 ^ 3:=Nat.mul_le_mul (by omega) hpow
    unfold zu
    rw [c1]
    simp only [zb]
    rw [aF (by omega)]
    refine ⟨_,rfl,fun a' e=>?_,fun r e=>by cases e⟩
    injection e with e
    subst e
    rw [List.length_append,Nat.succ_mul]
    omega) (fun a ha=>by simpa using ha) (by simp)
   rw [r1]
   refine ⟨_,rfl,Nat.le_trans r2 ?_⟩
   rw [Nat.pow_succ,Nat.mul_comm]
   exact Nat.mul_le_mul_left _ (by omega)
theorem IQ {B:Nat} {s:aa} (h:SzS B s) (hD:Deep s.bB) (hB:B≤1000000) (k:Int) : ∃ r,uw s k=some r∧r.length≤65536:=by
 obtain ⟨r,h1,h2⟩:=xy h hD hB k 4 ab ⟨#[114,111,111,116]⟩ (by omega) (by unfold ab; omega) (by omega)
 unfold uw
 rw [h1]
 exact ⟨_,rfl,h2⟩
def Ok {α : Type} (o:Option α) (P : α→Prop) : Prop:=∃ r,o=some r∧P r
theorem Ok.bind {α β : Type} {o:Option α} {f : α→Option β} {P : α→Prop} {Q : β→Prop} (h1:Ok o P) (h2:∀ r,P r→Ok (f r) Q) : Ok (Option.bind o f) Q:=by
 obtain ⟨r,e,hr⟩:=h1
 rw [e]
 exact h2 r hr
theorem Ok.ite {α : Type} {c:Prop} [Decidable c] {a b:Option α} {Q : α→Prop} (h1:c→Ok a Q) (h2 : ¬c→Ok b Q) : Ok (if c then a else b) Q:=by
 by_cases h:c
 ·rw [if_pos h]; exact h1 h
 ·rw [if_neg h]; exact h2 h
theorem Ok.pure {α : Type} {a : α} {Q : α→Prop} (h:Q a) : Ok (some a) Q:=⟨a,rfl,h⟩
theorem Ok.weak {α : Type} {o:Option α} {P Q : α→Prop} (h:Ok o P) (hq:∀ r,P r→Q r) : Ok o Q:=by
 obtain ⟨r,e,hr⟩:=h
 exact ⟨r,e,hq r hr⟩
theorem EX {σ α τ : Type} {g : σ→α→Option (σ⊕τ)} {fin : σ→τ} (I:Nat→σ→Prop) (l:List α) (a : σ) (h:∀ (j:Nat) (a : σ) (x : α),l[j]? = some x→I j a→Ok (g a x) (fun o=>∃ a',o = .inl a'∧I (j + 1) a')) (hI:I 0 a) : Ok (bh g fin a l) (fun r=>∃ a',r=fin a'∧I l.length a'):=by
 refine aV I _ l 0 a (fun j a x hx ha=>?_) (fun a ha=>⟨a,rfl,by simpa using ha⟩) hI
 obtain ⟨o,e,a',h1,h2⟩:=h j a x hx (by simpa using ha)
 subst h1
 exact ⟨_,e,fun a'' e=>(by injection e with e; subst e; simpa using h2),fun r e=>(by cases e)⟩
theorem uZ {σ α τ : Type} {g : σ→Int→α→Option (σ⊕τ)} {fin : σ→τ} (I:Nat→σ→Prop) (l:List α) (a : σ) (h:∀ (j:Nat) (a : σ) (x : α),l[j]? = some x→I j a→Ok (g a (j:Int) x) (fun o=>∃ a',o = .inl a'∧I (j + 1) a')) (hI:I 0 a) : Ok (oe g fin a 0 l) (fun r=>∃ a',r=fin a'∧I l.length a'):=by
 refine mZ I _ l 0 a (fun j a x hx ha=>?_) (fun a ha=>⟨a,rfl,by simpa using ha⟩) hI
 obtain ⟨o,e,a',h1,h2⟩:=h j a x hx (by simpa using ha)
 subst h1
 exact ⟨_,by simpa using e,fun a'' e=>(by injection e with e; subst e; simpa using h2),fun r e=>(by cases e)⟩
theorem iW {α : Type} {l:List α} {i:Int} (h0 : 0≤i) (h1:i < (l.length:Int)) : Ok (ar l i) (fun x=>x∈l):=by
 obtain ⟨x,h⟩:=La h0 h1
 exact ⟨x,h.1,h.2⟩
theorem D8 {a n:Int} (hn : 0 < n) : -n < a.tmod n∧a.tmod n < n:=by
 constructor
 ·have:=Int.lt_tmod_of_pos a hn; omega
 ·exact Int.tmod_lt_of_pos a hn
def eS (v_s:aa) (cy:Int) (st:(List bA)) (x_:bA) : Option (((List bA))⊕(((List bA)×Int))) :=
 let v_l:=st
 if (x_.bM != cy)=true then
 (aP v_l [x_]).bind fun b4=>let v_l:(List bA):=b4
 some (.inl v_l)
 else
 some (.inl v_l)
theorem xg (v_s:aa) (cy:Int) (a_:(List bA)) (hl:v_s.aU.length≤1000000) : ai (jM v_s cy) ab (a_,(0))=bh (eS v_s cy) (fun a_=>(a_,((v_s.aU.length:Int)))) a_ v_s.aU :=
 ay v_s.aU (S:=(List bA)×Int) (fun a_ k_=>(a_,(k_))) (eS v_s cy) (fun a_=>(a_,((v_s.aU.length:Int)))) (an hl) (fun k a x hx=>by
  unfold jM eS; exact bN)
  (fun a=>by unfold jM; exact cL) a_
def jL (v_s:aa) (cy:Int) (st:Unit) (x_:bA) : Option ((Unit)⊕((Int)⊕(bA×Bool))) :=
 if (x_.bM==cy)=true then
 some (.inr (.inr (x_,true)))
 else
 some (.inl ())
theorem AD (v_s:aa) (cy:Int) (a_:Unit) (hl:v_s.aU.length≤1000000) : ai (mn v_s cy) ab (0)=bh (jL v_s cy) (fun a_=>(.inl ((v_s.aU.length:Int)))) a_ v_s.aU :=
 ay v_s.aU (S:=Int) (fun a_ k_=>(k_)) (jL v_s cy) (fun a_=>(.inl ((v_s.aU.length:Int)))) (an hl) (fun k a x hx=>by
  unfold mn jL; exact bN)
  (fun a=>by unfold mn; exact cL) a_
def fw (v_s:aa) (fg:Int) (cN:Int) (st:Unit) (x_:bA) : Option ((Unit)⊕((Int)⊕(Bool))) :=
 (if (x_.bE==fg)=true then some (x_.bq==cN) else some false).bind fun q4=>if q4=true then
 some (.inr (.inr true))
 else
 some (.inl ())
theorem yH (v_s:aa) (fg:Int) (cN:Int) (a_:Unit) (hl:v_s.aU.length≤1000000) : ai (kC v_s fg cN) ab (0)=bh (fw v_s fg cN) (fun a_=>(.inl ((v_s.aU.length:Int)))) a_ v_s.aU :=
 ay v_s.aU (S:=Int) (fun a_ k_=>(k_)) (fw v_s fg cN) (fun a_=>(.inl ((v_s.aU.length:Int)))) (an hl) (fun k a x hx=>by
  unfold kC fw; exact bN)
  (fun a=>by unfold kC; exact cL) a_
theorem va {α : Type} (key : α→Int) (x : α) (l:List α) (a : α) : cE key (x::l) a=if key x < key a then x::cE key l a else if key x=key a then a::l else a::x::l:=by
 unfold cE
 by_cases h:key x < key a
 ·rw [if_pos h]
  have hd:decide (key x < key a)=true:=by simpa using h
  simp only [List.takeWhile_cons,hd,if_true,List.length_cons,List.take_succ_cons,List.getElem?_cons_succ,List.cons_append]
  generalize (l.takeWhile fun x=>decide (key x < key a)).length=K
  cases l[K]? with
  | none=>rfl
  | some y =>
   dsimp only
   split <;> rfl
 ·rw [if_neg h]
  have hd:decide (key x < key a)=false:=by simpa using h
  simp only [List.takeWhile_cons,hd,zf,if_false,List.length_nil,List.take_zero,List.nil_append,List.getElem?_cons_zero,Nat.zero_add]
  by_cases he:key x=key a
  ·rw [if_pos he]
   have hb:(key x==key a)=true:=by simpa using he
   simp [hb]
  ·rw [if_neg he]
   have hb:(key x==key a)=false:=by simpa using he
   simp [hb]
theorem rR {α : Type} (key : α→Int) (a : α) : ∀ l:List α,jZ key l→(∃ x∈l,key x=key a)→(cE key l a).length=l.length
 | [],_,⟨x,hx,_⟩=>by cases hx
 | y::l,hs,⟨x,hx,he⟩=>by
  have hs':=List.pairwise_cons.1 hs
  rw [va]
  split
  ·rename_i h
   rcases List.mem_cons.1 hx with rfl | hx
   ·omega
   ·rw [List.length_cons,List.length_cons,rR key a l hs'.2 ⟨x,hx,he⟩]
  ·split
   ·rfl
   ·rename_i h1 h2
    rcases List.mem_cons.1 hx with rfl | hx
    ·exact absurd he h2
    ·have:=hs'.1 x hx
     omega
theorem jd {α : Type} (key : α→Int) (a : α) : ∀ l:List α,jZ key l→jZ key (cE key l a)
 | [],_=>List.pairwise_singleton _ _
 | y::l,hs=>by
  have hs':=List.pairwise_cons.1 hs
  rw [va]
  split
  ·rename_i h
   refine List.pairwise_cons.2 ⟨fun x hx=>?_,jd key a l hs'.2⟩
   rcases kK hx with rfl | hx
   ·exact h
   ·exact hs'.1 x hx
  ·split
   ·rename_i h1 h2
    exact List.pairwise_cons.2 ⟨fun x hx=>by have:=hs'.1 x hx; omega,hs'.2⟩
   ·rename_i h1 h2
    refine List.pairwise_cons.2 ⟨fun x hx=>?_,hs⟩
    rcases List.mem_cons.1 hx with rfl | hx
    ·omega
    ·have:=hs'.1 x hx; omega
theorem E8 {α : Type} (key : α→Int) (a : α) (i:Int) : ∀ l:List α,(∃ x∈l,key x=i)→∃ x∈cE key l a,key x=i
 | [],⟨x,hx,_⟩=>by cases hx
 | y::l,⟨x,hx,he⟩=>by
  rw [va]
  split
  ·rcases List.mem_cons.1 hx with rfl | hx
   ·exact ⟨x,List.mem_cons_self,he⟩
   ·obtain ⟨z,hz,hz2⟩:=E8 key a i l ⟨x,hx,he⟩
    exact ⟨z,List.mem_cons_of_mem _ hz,hz2⟩
  ·split
   ·rename_i h1 h2
    rcases List.mem_cons.1 hx with rfl | hx
    ·exact ⟨a,List.mem_cons_self,by omega⟩
    ·exact ⟨x,List.mem_cons_of_mem _ hx,he⟩
   ·exact ⟨x,List.mem_cons_of_mem _ hx,he⟩
theorem SzS.putIn {B:Nat} {s:aa} (h:SzS B s) (hs:jZ ak.fId s.ah) {a:ak} (hi:∃ x∈s.ah,x.fId=a.fId) (ha:SzA B a) : SzS B { s with ah:=cE ak.fId s.ah a } :=
 ⟨h.conf,h.nodes,by show (cE _ _ _).length≤B; rw [rR _ _ _ hs hi]; exact h.apps,h.conts,h.slots,h.plans,fun x hx=>by
  rcases kK hx with rfl | hx
  ·exact ha
  ·exact h.app x hx⟩
def XH (a:aM) (n:aZ) : Int:=(nA a n).getD 0
theorem AK (a:aM) (n:aZ) : nA a n=some (XH a n):=by
 have:∃ r,nA a n=some r:=by
  unfold nA
  simp only [dy,orB,zb]
  repeat' split
  all_goals exact ⟨_,rfl⟩
 obtain ⟨r,e⟩:=this
 unfold XH
 rw [e]
 rfl
def abY (a:aM) (n:aZ) : Bool:=(uv a n).getD false
theorem Ht (a:aM) (n:aZ) : uv a n=some (abY a n):=by
 have:∃ r,uv a n=some r:=by
  unfold uv
  simp only [AK,zb]
  repeat' split
  all_goals exact ⟨_,rfl⟩
 obtain ⟨r,e⟩:=this
 unfold abY
 rw [e]
 rfl
theorem Hr {B:Nat} {s:aa} (h:SzS B s) (hB:B≤1000000) (q:ByteArray) (a:aM) : ∃ r,AI s q a=some r:=by
 obtain ⟨u,hu⟩:=fx h hB q a.a6
 have k2:=h.nodes.1
 unfold AI
 simp only [hu,eI,oA s _ _ h.conf (Nat.le_trans k2 hB),kS,zb]
 exact ⟨_,rfl⟩
theorem Df {B:Nat} {s:aa} (h:SzS B s) (hB:B≤1000000) (q:ByteArray) (k u:Int) : ∃ r,vT s q k u=some r:=by
 obtain ⟨v,hv⟩:=DH h hB q k u
 have k2:=h.nodes.1
 unfold vT
 simp only [hv,Ri s _ _ h.conf (Nat.le_trans k2 hB),kS,zb]
 exact ⟨_,rfl⟩
theorem SzS.slot {B:Nat} {s:aa} (h:SzS B s) {l:List bA} (hl:l.length≤B) : SzS B { s with aU:=l } := ⟨h.conf,h.nodes,h.apps,h.conts,hl,h.plans,h.app⟩
theorem SzS.cont {B:Nat} {s:aa} (h:SzS B s) {l:List ao} (hl:l.length≤B) : SzS B { s with ac:=l } := ⟨h.conf,h.nodes,h.apps,hl,h.slots,h.plans,h.app⟩
theorem SzS.seq {B:Nat} {s:aa} (h:SzS B s) (n:Int) : SzS B { s with sV:=n } := ⟨h.conf,h.nodes,h.apps,h.conts,h.slots,h.plans,h.app⟩
theorem xx (s:aa) (n:Int) (hl:s.aU.length≤1000000) : fK s n=some { s with aU:=s.aU.filter fun c=>c.bM != n } := by
 unfold fK
 dsimp only
 have e:eS s n=fun acc x=>if (x.bM != n)=true then (aP acc [id' x]).map (fun a=>(.inl a:List bA⊕(List bA×Int))) else some (.inl acc):=by
  funext acc x
  unfold eS
  dsimp only [id']
  split
  ·cases aP acc [x] <;> rfl
  ·rfl
 rw [xg s n [] hl,e,bV (fun c:bA=>c.bM != n) id' _ s.aU [] (by simpa using hl)]
 simp only [zb,List.nil_append,zo]
theorem Pd (s:aa) (n:Int) (hl:s.aU.length≤1000000) : ∃ r,AE s n=some r:=by
 unfold AE
 dsimp only
 rw [AD s n () hl,show jL s n=fun (_:Unit) x=>if (x.bM==n)=true then some (.inr (.inr (x,true))) else some (.inl ()) from rfl,
  kX (fun x:bA=>x.bM==n) (fun x=>(Sum.inr (x,true) : Int⊕bA×Bool)) (.inl (s.aU.length:Int)) s.aU]
 simp only [zb]
 cases s.aU.find? fun x=>x.bM==n <;> exact ⟨_,rfl⟩
theorem Mj (s:aa) (a p:Int) (hl:s.aU.length≤1000000) : ∃ r,wS s a p=some r:=by
 unfold wS
 dsimp only
 rw [yH s a p () hl]
 obtain ⟨r,e1,_⟩:=aV (g:=fw s a p) (fin:=fun _=>(.inl (s.aU.length:Int))) (fun _ _=>True) (fun _=>True) s.aU 0 () (fun j b x hx _=>by
  unfold fw
  simp only [dy,zb]
  split <;> exact ⟨_,rfl,fun _ _=>trivial,fun _ _=>trivial⟩) (fun _ _=>trivial) trivial
 rw [e1]
 simp only [zb]
 cases r <;> exact ⟨_,rfl⟩
theorem Pj {B:Nat} {s:aa} (h:SzS B s) (hB:B + 1≤1000000) (x:bA) : ∃ r,tr s x=some r∧SzS (B + 1) r∧r.ah=s.ah:=by
 have k1:=h.slots
 obtain ⟨K,hK1,hK2⟩:=ol s.aU (by omega) (f:=mp s x) (fun i y hy=>by
  have hi:=(zg.1 hy).1
  refine ⟨decide (y.bM < x.bM),?_⟩
  unfold mp
  simp only [bG hy,if_true,aD hy,zb,aR hi (show s.aU.length≤1000000 by omega)]) (by unfold mp; simp only [bv,zf,if_false,zb])
 unfold tr
 dsimp only
 rw [hK1]
 simp only [zb]
 rw [nn hK2]
 simp only [zb]
 rw [aF (by simp; omega)]
 simp only [zb]
 rw [aF (by simp; omega)]
 simp only [zb]
 rw [jX hK2]
 simp only [zb]
 rw [aF (by simp; omega)]
 exact ⟨_,rfl,(h.mono (Nat.le_succ _)).slot (by simp; omega),rfl⟩
theorem AH {B:Nat} {s:aa} (h:SzS B s) (hB:B + 2≤1000000) (n:aZ) {a:ak} (ha:SzA B a) (x:aM) : ∃ r,nz s n a x=some r∧SzS (B + 2) r.1∧(jZ ak.fId s.ah→jZ ak.fId r.1.ah):=by
 have k1:=h.conts; have k2:=h.apps; have k3:=ha.asks; have k4:=ha.grants
 obtain ⟨t,t1,t2⟩:=Q7 a.bL x.bq (by omega)
 unfold nz
 simp only [t1,zb]
 generalize hc:(⟨_,a.fId,n.fId,x.cJ,x.bq,n.a6,(a.cC==1),0⟩ : ao)=c
 have hs:SzS B { s with sV:=i64.wrap (s.sV + 1) } := h.seq _
 generalize hS:({ s with sV:=i64.wrap (s.sV + 1) } : aa)=S at hs ⊢
 have hcl:S.ac=s.ac:=by rw [← hS]
 have hal:S.ah=s.ah:=by rw [← hS]
 have fin:∀ b:ak,SzA (B + 1) b→∃ r,(Option.bind (ai (iC S c) ab 0) fun r11=>Option.bind (hiO s.ac r11) fun b12=>Option.bind (aP ([] : List ao) b12) fun b13=>Option.bind (aP b13 [c]) fun b14=>Option.bind (loO s.ac r11) fun b15=>Option.bind (aP b14 b15) fun b16=>Option.bind (eo { s with ac:=b16,sV:=i64.wrap (s.sV + 1) } b) fun c17=>some (c17,c))=some r∧SzS (B + 2) r.1∧(jZ ak.fId s.ah→jZ ak.fId r.1.ah):=by
  intro b hb
  obtain ⟨K,hK1,hK2⟩:=ol s.ac (by omega) (f:=iC S c) (fun i y hy=>by
   have hi:=(zg.1 hy).1
   refine ⟨decide (y.fId < c.fId),?_⟩
   unfold iC
   simp only [hcl,bG hy,if_true,aD hy,zb,aR hi (show s.ac.length≤1000000 by omega)]) (by unfold iC; simp only [hcl,bv,zf,if_false,zb])
  rw [hK1]
  simp only [zb]
  rw [nn hK2]
  simp only [zb]
  rw [aF (by simp; omega)]
  simp only [zb]
  rw [aF (by simp; omega)]
  simp only [zb]
  rw [jX hK2]
  simp only [zb]
  rw [aF (by simp; omega)]
  simp only [zb]
  rw [fL _ _ (by show s.ah.length + 1≤_; omega)]
  refine ⟨_,rfl,?_⟩
  have hlen:(([] ++ s.ac.take K ++ [c])++s.ac.drop K).length≤B + 1:=by simp; omega
  have h2:SzS (B + 1) { s with ac:=([] ++ s.ac.take K ++ [c])++s.ac.drop K,sV:=i64.wrap (s.sV + 1) } := by
   have hm:=h.mono (Nat.le_succ B)
   exact ⟨hm.conf,hm.nodes,hm.apps,hlen,hm.slots,hm.plans,hm.app⟩
  exact ⟨h2.put (hb.mono (Nat.le_succ _)),fun hs=>jd _ _ _ hs⟩
 have ha1:=ha.mono (Nat.le_succ B)
 split
 ·simp only [zb]
  refine fin _ ?_
  exact ⟨⟨ha1.queue.1,h.nodes.2.2.1.1,h.nodes.2.2.1.2,ha1.queue.2.2.2⟩,Nat.zero_le _,ha1.grants,ha1.kills,ha1.told,ha1.lost⟩
 ·rw [aF (by simp; omega)]
  simp only [zb]
  rw [aF (by simp; omega)]
  simp only [zb]
  refine fin _ ?_
  exact ⟨ha1.queue,by show t.1.length≤_; omega,by simp; omega,ha1.kills,ha1.told,ha1.lost⟩
def Bh (B:Nat) (s t:aa) : Prop:=SzS B t∧jZ ak.fId t.ah∧∀ i,(∃ x∈s.ah,x.fId=i)→∃ x∈t.ah,x.fId=i
theorem Sm {B:Nat} {s:aa} (h:SzS B s) (hs:jZ ak.fId s.ah) (hB:B + 2≤1000000) (n:aZ) {a:ak} (hi:∃ x∈s.ah,x.fId=a.fId) (ha:SzA B a) (x:aM) (first:Bool) : ∃ r,wT s n a x first=some r∧SzS (B + 2) r.1∧jZ ak.fId r.1.ah∧(r.2.1=0→Bh B s r.1):=by
 have k1:=h.apps; have k2:=h.slots; have k3:=ha.asks; have k4:=h.conts; have k5:=h.nodes.1
 have stay:Bh B s s:=⟨h,hs,fun _ e=>e⟩
 have h2:=h.mono (show B≤B + 2 by omega)
 obtain ⟨d,hd⟩:=Hr h (by omega) a.bD x
 obtain ⟨m,hm,hm2⟩:=Q8 a.bL x.bq (by omega)
 obtain ⟨o,ho⟩:=Dk h (by omega) a.bD ha.queue.1 n.a6 x.cJ
 obtain ⟨g,hg,hg2,hg3⟩:=AH h hB n ha x
 obtain ⟨p,hp⟩:=Mj s a.fId x.bq (by omega)
 obtain ⟨q,hq,hq2,hq3⟩:=Pj h (by omega) (⟨n.fId,a.fId,x.bq⟩ : bA)
 have hput:∃ t,eo s { a with bL:=m } = some t∧Bh B s t:=by
  refine ⟨_,fL s _ (by omega),h.putIn hs hi ⟨ha.queue,by show m.length≤B; omega,ha.grants,ha.kills,ha.told,ha.lost⟩,jd _ _ _ hs,fun i e=>E8 _ _ i _ e⟩
 obtain ⟨t,ht,ht2⟩:=hput
 unfold wT
 simp only [hd,AK,Ht,kS,orB,dy,zb,hm,ht,ho,hg,hp,hq,G7 s n.fId (show s.aE.length≤1000000 by omega) (show s.ac.length≤1000000 by omega)]
 split
 ·exact ⟨_,rfl,h2,hs,fun _=>stay⟩
 split
 ·split
  ·exact ⟨_,rfl,ht2.1.mono (by omega),ht2.2.1,fun _=>ht2⟩
  ·exact ⟨_,rfl,h2,hs,fun _=>stay⟩
 split
 ·exact ⟨_,rfl,h2,hs,fun _=>stay⟩
 split
 ·exact ⟨_,rfl,hg2,hg3 hs,fun e=>absurd (show (1:Int)=0 from e) (by decide)⟩
 split
 ·exact ⟨_,rfl,hq2.mono (by omega),by show jZ _ q.ah; rw [hq3]; exact hs,fun e=>absurd (show (2:Int)=0 from e) (by decide)⟩
 ·exact ⟨_,rfl,h2,hs,fun _=>stay⟩
theorem X5 {s:aa} {id:Int} (h:∃ x∈s.ah,x.fId=id) : bU s id∈s.ah∧(bU s id).fId=id:=by
 obtain ⟨x,hx,e⟩:=h
 unfold bU
 cases hf:s.ah.find? fun c=>c.fId==id with
 | none =>
  have:=List.find?_eq_none.1 hf x hx
  simp [e] at this
 | some a =>
  have h2:=List.find?_some hf
  exact ⟨List.mem_of_find?_eq_some hf,by simpa using h2⟩
def Bj (B:Nat) (t:aa) : Prop:=SzS (B + 2) t∧jZ ak.fId t.ah
theorem Uq {B:Nat} {s:aa} (h:SzS B s) (hs:jZ ak.fId s.ah) (hB:B + 2≤1000000) (n:aZ) (l:List aM) (a:ak) (hl:a.bL=l) (hl2:l.length≤B) (ids:List Int) (hI:∀ i∈ids,∃ x∈s.ah,x.fId=i) (j:Nat) (id:Int) (hj:ids[j]? = some id) (first:Bool) : ∃ r,ai (iz a (j:Int) ids n first) ab (s,0)=some r∧(match r with | .inl m=>Bh B s m.1 | .inr m=>Bj B m.1):=by
 refine aL (fun st=>Bh B s st.1∧∃ k:Nat,st.2=(k:Int)∧k≤l.length) (fun st=>l.length - st.2.toNat) _ (fun st ⟨⟨q1,q2,q3⟩,k,h1,h2⟩=>?_) ab (s,0) ⟨⟨h,hs,fun _ e=>e⟩,0,rfl,Nat.zero_le _⟩ (by have:=an (show l.length≤1000000 by omega); omega)
 have k1:=q1.apps
 unfold iz
 simp only [h1,hl]
 by_cases hlt:k < l.length
 ·have g1:l[k]? = some l[k]:=zq hlt
  have g2:=X5 (q3 id (hI id (List.mem_of_getElem? hj)))
  obtain ⟨r,r1,r2,r3,r4⟩:=Sm q1 q2 hB n (a:=bU st.1 id) ⟨_,g2.1,rfl⟩ (q1.get id) l[k] first
  simp only [bG g1,if_true,aD g1,aD hj,dp st.1 id (by omega),r1,zb,aR hlt (show l.length≤1000000 by omega)]
  split
  ·exact .inr ⟨_,rfl,r2,r3⟩
  ·rename_i hne
   have h0:r.2.1=0:=by simpa using hne
   obtain ⟨t1,t2,t3⟩:=r4 h0
   exact .inl ⟨_,rfl,⟨⟨t1,t2,fun i e=>t3 i (q3 i e)⟩,k + 1,rfl,hlt⟩,by simp only [zt]; omega⟩
 ·have:k=l.length:=by omega
  subst this
  simp only [bv,zf,if_false]
  exact .inr ⟨_,rfl,q1,q2,q3⟩
theorem Ur {B:Nat} {s:aa} (h:SzS B s) (hs:jZ ak.fId s.ah) (hB:B + 2≤1000000) (n:aZ) (ids:List Int) (hI:∀ i∈ids,∃ x∈s.ah,x.fId=i) (hI2:ids.length≤1000000) (lv:List ByteArray) (i:Nat) (q:ByteArray) (hi:lv[i]? = some q) (first:Bool) : ∃ r,ai (iA ids (i:Int) lv n first) ab (s,0)=some r∧(match r with | .inl m=>Bh B s m.1 | .inr m=>Bj B m.1):=by
 refine aL (fun st=>Bh B s st.1∧∃ k:Nat,st.2=(k:Int)∧k≤ids.length) (fun st=>ids.length - st.2.toNat) _ (fun st ⟨⟨q1,q2,q3⟩,k,h1,h2⟩=>?_) ab (s,0) ⟨⟨h,hs,fun _ e=>e⟩,0,rfl,Nat.zero_le _⟩ (by have:=an hI2; omega)
 have k1:=q1.apps
 unfold iA
 simp only [h1]
 by_cases hlt:k < ids.length
 ·have g1:ids[k]? = some ids[k]:=zq hlt
  obtain ⟨m,hm⟩:=Df q1 (by omega) q n.a6 (bU st.1 ids[k]).cD
  simp only [bG g1,if_true,aD g1,aD hi,dp st.1 _ (show st.1.ah.length≤1000000 by omega),hm,zb,aR hlt hI2]
  split
  ·exact .inl ⟨_,rfl,⟨⟨q1,q2,q3⟩,k + 1,rfl,hlt⟩,by simp only [zt]; omega⟩
  ·have ha:=(q1.get ids[k]).asks
   obtain ⟨r,r1,r2⟩:=Uq q1 q2 hB n _ (bU st.1 ids[k]) rfl ha ids (fun i hi=>q3 i (hI i hi)) k _ g1 first
   rw [r1]
   simp only [zb]
   cases r with
   | inr m=>exact .inr ⟨_,rfl,r2⟩
   | inl m =>
    obtain ⟨t1,t2,t3⟩:=r2
    exact .inl ⟨_,rfl,⟨⟨t1,t2,fun i e=>t3 i (q3 i e)⟩,k + 1,rfl,hlt⟩,by simp only [zt]; omega⟩
 ·have:k=ids.length:=by omega
  subst this
  simp only [bv,zf,if_false]
  exact .inr ⟨_,rfl,q1,q2,q3⟩
theorem AF {B:Nat} {s:aa} (h:SzS B s) (hs:jZ ak.fId s.ah) (hB:B + 2≤1000000) (n:aZ) (first:Bool) : ∃ r,ez s n first=some r∧Bj B r.1∧(r.2.1=0→SzS B r.1∨Bj B r.1):=by
 obtain ⟨lv,h1,h2⟩:=IQ h h.conf.deep (by omega) n.a6
 have hl:lv.length≤1000000:=by omega
 unfold ez
 simp only [h1,zb]
 obtain ⟨r,r1,r2⟩:=aL (f:=iB lv n first) (fun st=>Bh B s st.1∧∃ k:Nat,st.2=(k:Int)∧k≤lv.length) (fun st=>lv.length - st.2.toNat) (fun r=>match r with | .inl m=>Bh B s m.1 | .inr m=>Bj B m.1) (fun st ⟨⟨q1,q2,q3⟩,k,h1,h2⟩=>by
  have k1:=q1.apps
  unfold iB
  simp only [h1]
  by_cases hlt:k < lv.length
  ·have g1:lv[k]? = some lv[k]:=zq hlt
   obtain ⟨ids,a1,a2,a3⟩:=Pr q1 (by omega) lv[k]
   obtain ⟨r,r1,r2⟩:=Ur q1 q2 hB n ids a3 (by omega) lv k _ g1 first
   simp only [bG g1,if_true,aD g1,a1,r1,zb,aR hlt hl]
   cases r with
   | inr m=>exact .inr ⟨_,rfl,r2⟩
   | inl m =>
    obtain ⟨t1,t2,t3⟩:=r2
    exact .inl ⟨_,rfl,⟨⟨t1,t2,fun i e=>t3 i (q3 i e)⟩,k + 1,rfl,hlt⟩,by simp only [zt]; omega⟩
  ·have:k=lv.length:=by omega
   subst this
   simp only [bv,zf,if_false]
   exact .inr ⟨_,rfl,q1,q2,q3⟩) ab (s,0) ⟨⟨h,hs,fun _ e=>e⟩,0,rfl,Nat.zero_le _⟩ (by have:=an hl; omega)
 rw [r1]
 simp only [zb]
 cases r with
 | inr m=>exact ⟨_,rfl,r2,fun _=>.inr r2⟩
 | inl m=>exact ⟨_,rfl,⟨r2.1.mono (by omega),r2.2.1⟩,fun _=>.inl r2.1⟩
theorem Bj.mono {B C:Nat} {t:aa} (h:Bj B t) (hc:B≤C) : Bj C t:=⟨h.1.mono (by omega),h.2⟩
theorem Pg {B:Nat} {s:aa} (h:SzS B s) (hs:jZ ak.fId s.ah) (hB:B + 2≤1000000) (n:aZ) (x:bA) : ∃ r,tq s n x=some r∧Bj B r.1∧(r.2.2.2=false→SzS B r.1):=by
 have k1:=h.apps; have k2:=h.slots; have k4:=h.conts; have k5:=h.nodes.1
 have ha:=h.get x.bE
 have k3:=ha.asks
 have h2:=h.mono (show B≤B + 2 by omega)
 have hn:SzS B { s with aU:=s.aU.filter fun c=>c.bM != n.fId } := h.slot (Nat.le_trans (List.length_filter_le _ _) k2)
 obtain ⟨d,hd⟩:=Hr h (by omega) (bU s x.bE).bD (X6 (bU s x.bE).bL x.bq)
 obtain ⟨m,hm⟩:=Df h (by omega) (bU s x.bE).bD n.a6 (bU s x.bE).cD
 obtain ⟨o,ho⟩:=Dk h (by omega) (bU s x.bE).bD ha.queue.1 n.a6 (X6 (bU s x.bE).bL x.bq).cJ
 obtain ⟨g,hg,hg2,hg3⟩:=AH hn hB n ha (X6 (bU s x.bE).bL x.bq)
 unfold tq
 simp only [dp s x.bE (show s.ah.length≤1000000 by omega),VF (bU s x.bE).bL x.bq (show (bU s x.bE).bL.length≤1000000 by omega),dn,hd,hm,ho,Ht,kS,xx s n.fId (show s.aU.length≤1000000 by omega),G7 s n.fId (show s.aE.length≤1000000 by omega) (show s.ac.length≤1000000 by omega),orB,dy,zb]
 split
 ·exact ⟨_,rfl,⟨hn.mono (by omega),hs⟩,fun _=>hn⟩
 split
 ·exact ⟨_,rfl,⟨h2,hs⟩,fun _=>h⟩
 ·rw [hg]
  exact ⟨_,rfl,⟨hg2,hg3 hs⟩,fun e=>by cases e⟩
theorem Sn {B:Nat} {s:aa} (h:SzS B s) (hs:jZ ak.fId s.ah) (hB:B + 6≤1000000) (id:Int) : ∃ r,wU s id=some r∧Bj (B + 4) r.1:=by
 have k1:=h.nodes.1; have k2:=h.slots
 have two:∀ (t:aa),Bj B t→∃ r,(Option.bind (ez t (eY s id) true) fun c7=>if (c7.2.1 != 0)=true then some (c7.1,c7.2.1,c7.2.2) else Option.bind (ez c7.1 (eY s id) false) fun c8=>some c8)=some r∧Bj (B + 4) r.1:=fun t ⟨t1,t2⟩=>by
  obtain ⟨u,u1,⟨u2,u3⟩,_⟩:=AF t1 t2 (by omega) (eY s id) true
  rw [u1]
  simp only [zb]
  split
  ·exact ⟨_,rfl,u2.mono (by omega),u3⟩
  ·obtain ⟨v,v1,⟨v2,v3⟩,_⟩:=AF u2 u3 (by omega) (eY s id) false
   rw [v1]
   exact ⟨_,rfl,v2.mono (by omega),v3⟩
 obtain ⟨c,hc⟩:=Pd s id (by omega)
 unfold wU
 simp only [nw s id (show s.aE.length≤1000000 by omega),orB,hc,zb]
 split
 ·exact ⟨_,rfl,h.mono (by omega),hs⟩
 split
 ·obtain ⟨k,k1,k2,_⟩:=Pg h hs (by omega) (eY s id) c.1
  rw [k1]
  simp only [zb]
  split
  ·exact ⟨_,rfl,k2.mono (by omega)⟩
  ·exact two _ k2
 ·exact two _ ⟨h.mono (by omega),hs⟩
theorem Pm {B:Nat} {s:aa} (h:SzS B s) (hs:jZ ak.fId s.ah) (hB:B + 100≤1000000) (id:Int) : ∃ r,qT s id=some r∧Bj (B + 24) r.1∧r.2.length≤3:=by
 unfold qT
 dsimp only
 obtain ⟨r,r1,r2⟩:=aL (f:=jr id) (fun st=>∃ k:Nat,st.2.2=(k:Int)∧k≤3∧st.2.1.length=k∧SzS (B + 6 * k) st.1∧jZ ak.fId st.1.ah) (fun st=>3 - st.2.2.toNat) (fun r=>Bj (B + 24) r.1∧r.2.1.length≤3) (fun st ⟨k,h1,h2,h3,h4,h5⟩=>by
  unfold jr
  simp only [h1]
  by_cases hlt:k < 3
  ·have hd:decide ((k:Int) < 3)=true:=by simp; omega
   obtain ⟨c,c1,c2,c3⟩:=Sn h4 h5 (by omega) id
   simp only [hd,if_true,c1,zb]
   split
   ·exact .inr ⟨_,rfl,⟨c2.mono (by omega),c3⟩,by show st.2.1.length≤3; omega⟩
   ·rw [aF (by simp; omega)]
    simp only [zb,aR hlt (show 3≤1000000 by omega)]
    exact .inl ⟨_,rfl,⟨k + 1,rfl,hlt,by simp; omega,c2.mono (by omega),c3⟩,by simp only [zt]; omega⟩
  ·have hd:decide ((k:Int) < 3)=false:=by simp; omega
   simp only [hd,zf,if_false]
   exact .inr ⟨_,rfl,⟨h4.mono (by omega),h5⟩,by show st.2.1.length≤3; omega⟩) ab (s,[],0) ⟨0,rfl,by omega,rfl,h.mono (by omega),hs⟩ (by show 3 - (0:Int).toNat < ab; unfold ab; omega)
 rw [r1]
 exact ⟨_,rfl,r2⟩
theorem nh {σ τ : Type} {f : σ→Option (σ⊕τ)} (I : σ→Prop) (Q : τ→Prop) (step:∀ s r,I s→f s=some r→match r with | .inl s'=>I s' | .inr t=>Q t) : ∀ (n:Nat) (s : σ) (t : τ),I s→ai f n s=some t→Q t
 | 0,s,t,_,h=>by cases h
 | n + 1,s,t,hi,h=>by
  simp only [ai] at h
  cases hf:f s with
  | none=>rw [hf] at h; cases h
  | some r =>
   have:=step s r hi hf
   rw [hf] at h
   cases r with
   | inl s'=>exact nh I Q step n s' t this h
   | inr t'=>injection h with h; subst h; exact this
theorem zL {α : Type} {l m z:List α} (h:aP l m=some z) : z.length=l.length + m.length∧z=l++m:=by
 unfold aP at h
 split at h
 ·injection h with h; subst h; simp
 ·cases h
theorem xD {s t:aa} {a:ak} (h:eo s a=some t) : t.ac=s.ac:=by
 unfold eo at h
 dsimp only at h
 obtain ⟨_,_,h⟩:=bw h
 obtain ⟨_,_,h⟩:=bw h
 obtain ⟨_,_,h⟩:=bw h
 obtain ⟨_,_,h⟩:=bw h
 obtain ⟨_,_,h⟩:=bw h
 obtain ⟨_,_,h⟩:=bw h
 obtain ⟨_,_,h⟩:=bw h
 obtain ⟨_,_,h⟩:=bw h
 injection h with h
 subst h
 rfl
theorem tt {s t:aa} {n:Int} (h:fK s n=some t) : t.ac=s.ac:=by
 unfold fK at h
 dsimp only at h
 obtain ⟨_,_,h⟩:=bw h
 injection h with h
 subst h
 rfl
theorem Hq {s t:aa} {x:bA} (h:tr s x=some t) : t.ac=s.ac:=by
 unfold tr at h
 dsimp only at h
 obtain ⟨_,_,h⟩:=bw h
 obtain ⟨_,_,h⟩:=bw h
 obtain ⟨_,_,h⟩:=bw h
 obtain ⟨_,_,h⟩:=bw h
 obtain ⟨_,_,h⟩:=bw h
 obtain ⟨_,_,h⟩:=bw h
 injection h with h
 subst h
 rfl
theorem NG {α : Type} {l a b:List α} {k:Int} (h1:hiO l k=some a) (h2:loO l k=some b) : a.length + b.length=l.length:=by
 unfold hiO at h1
 unfold loO at h2
 by_cases hc : 0≤k∧k.toNat≤l.length
 ·rw [if_pos hc] at h1 h2
  injection h1 with h1
  injection h2 with h2
  subst h1 h2
  rw [List.length_take,List.length_drop]
  omega
 ·rw [if_neg hc] at h1
  cases h1
theorem uH {s:aa} {n:aZ} {a:ak} {x:aM} {r:aa×ao} (h:nz s n a x=some r) : r.1.ac.length≤s.ac.length + 1:=by
 unfold nz at h
 dsimp only at h
 obtain ⟨_,_,h⟩:=bw h
 obtain ⟨_,_,h⟩:=bw h
 obtain ⟨_,_,h⟩:=bw h
 obtain ⟨b12,h12,h⟩:=bw h
 obtain ⟨b13,h13,h⟩:=bw h
 obtain ⟨b14,h14,h⟩:=bw h
 obtain ⟨b15,h15,h⟩:=bw h
 obtain ⟨b16,h16,h⟩:=bw h
 obtain ⟨c17,h17,h⟩:=bw h
 injection h with h
 subst h
 have e:=xD h17
 have k1:=NG h12 h15
 have k2:=(zL h13).1
 have k3:=(zL h14).1
 have k4:=(zL h16).1
 show c17.ac.length≤_
 rw [e]
 show b16.length≤_
 simp only [List.length_nil,List.length_singleton] at k2 k3
 omega
theorem IM {s:aa} {n:aZ} {a:ak} {x:aM} {f:Bool} {r:aa×Int×ao} (h:wT s n a x f=some r) : r.1.ac.length≤s.ac.length + 1∧(r.2.1=0→r.1.ac.length≤s.ac.length):=by
 unfold wT at h
 dsimp only at h
 obtain ⟨_,_,h⟩:=bw h
 obtain ⟨_,_,h⟩:=bw h
 obtain ⟨_,_,h⟩:=bw h
 obtain ⟨_,_,h⟩:=bw h
 split at h
 ·injection h with h; subst h; exact ⟨Nat.le_succ _,fun _=>Nat.le_refl _⟩
 obtain ⟨_,_,h⟩:=bw h
 split at h
 ·obtain ⟨⟨a2,s2⟩,h1,h⟩:=bw h
  injection h with h
  subst h
  have:s2.ac=s.ac:=by
   split at h1
   ·obtain ⟨_,_,h1⟩:=bw h1
    obtain ⟨c,h2,h1⟩:=bw h1
    injection h1 with h1
    injection h1 with _ h1
    subst h1
    exact xD h2
   ·injection h1 with h1
    injection h1 with _ h1
    subst h1
    rfl
  show s2.ac.length≤_∧(_→s2.ac.length≤_)
  rw [this]
  exact ⟨Nat.le_succ _,fun _=>Nat.le_refl _⟩
 obtain ⟨_,_,h⟩:=bw h
 split at h
 ·injection h with h; subst h; exact ⟨Nat.le_succ _,fun _=>Nat.le_refl _⟩
 obtain ⟨_,_,h⟩:=bw h
 obtain ⟨_,_,h⟩:=bw h
 split at h
 ·obtain ⟨g,h1,h⟩:=bw h
  injection h with h
  subst h
  exact ⟨uH h1,fun e=>absurd (show (1:Int)=0 from e) (by decide)⟩
 obtain ⟨_,_,h⟩:=bw h
 split at h
 ·obtain ⟨g,h1,h⟩:=bw h
  injection h with h
  subst h
  show g.ac.length≤_∧(_→g.ac.length≤_)
  rw [Hq h1]
  exact ⟨Nat.le_succ _,fun _=>Nat.le_refl _⟩
 ·injection h with h; subst h; exact ⟨Nat.le_succ _,fun _=>Nat.le_refl _⟩
def Gr (s:aa) (r:(aa×Int)⊕(aa×Int×ao)) : Prop:=match r with | .inl m=>m.1.ac.length≤s.ac.length | .inr m=>m.1.ac.length≤s.ac.length + 1
theorem KO {s0:aa} {a:ak} {j:Int} {ids:List Int} {n:aZ} {f:Bool} {k:Nat} {st:aa×Int} {r:(aa×Int)⊕(aa×Int×ao)} (hst:st.1.ac.length≤s0.ac.length) (h:ai (iz a j ids n f) k st=some r) : Gr s0 r:=by
 refine nh (fun st=>st.1.ac.length≤s0.ac.length) (Gr s0) (fun st r hi h=>?_) k st r hst h
 unfold iz at h
 dsimp only at h
 split at h
 ·obtain ⟨_,_,h⟩:=bw h
  obtain ⟨_,_,h⟩:=bw h
  obtain ⟨_,_,h⟩:=bw h
  obtain ⟨c,hc,h⟩:=bw h
  have hk:=IM hc
  split at h
  ·injection h with h
   subst h
   exact Nat.le_trans hk.1 (Nat.succ_le_succ hi)
  ·rename_i hz
   injection h with h
   subst h
   exact Nat.le_trans (hk.2 (by simpa using hz)) hi
 ·injection h with h
  subst h
  exact hi
theorem KP {s0:aa} {ids:List Int} {i:Int} {lv:List ByteArray} {n:aZ} {f:Bool} {k:Nat} {st:aa×Int} {r:(aa×Int)⊕(aa×Int×ao)} (hst:st.1.ac.length≤s0.ac.length) (h:ai (iA ids i lv n f) k st=some r) : Gr s0 r:=by
 refine nh (fun st=>st.1.ac.length≤s0.ac.length) (Gr s0) (fun st r hi h=>?_) k st r hst h
 unfold iA at h
 dsimp only at h
 split at h
 ·obtain ⟨_,_,h⟩:=bw h
  obtain ⟨_,_,h⟩:=bw h
  obtain ⟨_,_,h⟩:=bw h
  obtain ⟨_,_,h⟩:=bw h
  split at h
  ·injection h with h
   subst h
   exact hi
  ·obtain ⟨m,hm,h⟩:=bw h
   have hg:=KO (s0:=s0) (st:=(st.1,0)) hi hm
   cases m with
   | inr m=>injection h with h; subst h; exact hg
   | inl m=>injection h with h; subst h; exact hg
 ·injection h with h
  subst h
  exact hi
theorem uG {s:aa} {n:aZ} {f:Bool} {r:aa×Int×ao} (h:ez s n f=some r) : r.1.ac.length≤s.ac.length + 1:=by
 unfold ez at h
 dsimp only at h
 obtain ⟨lv,_,h⟩:=bw h
 obtain ⟨m,hm,h⟩:=bw h
 have hg:Gr s m:=by
  refine nh (f:=iB lv n f) (fun st=>st.1.ac.length≤s.ac.length) (Gr s) (fun st r hi h=>?_) _ (s,0) m (Nat.le_refl _) hm
  unfold iB at h
  dsimp only at h
  split at h
  ·obtain ⟨_,_,h⟩:=bw h
   obtain ⟨_,_,h⟩:=bw h
   obtain ⟨m,hm,h⟩:=bw h
   have hg:=KP (s0:=s) (st:=(st.1,0)) hi hm
   cases m with
   | inr m=>injection h with h; subst h; exact hg
   | inl m=>injection h with h; subst h; exact hg
  ·injection h with h
   subst h
   exact hi
 cases m with
 | inr m=>injection h with h; subst h; exact hg
 | inl m=>injection h with h; subst h; exact Nat.le_succ_of_le hg
theorem Hp {s:aa} {n:aZ} {x:bA} {r:aa×Int×ao×Bool} (h:tq s n x=some r) : r.1.ac.length≤s.ac.length + 1:=by
 unfold tq at h
 dsimp only at h
 obtain ⟨_,_,h⟩:=bw h
 obtain ⟨_,_,h⟩:=bw h
 obtain ⟨_,_,h⟩:=bw h
 obtain ⟨_,_,h⟩:=bw h
 obtain ⟨_,_,h⟩:=bw h
 obtain ⟨_,_,h⟩:=bw h
 obtain ⟨_,_,h⟩:=bw h
 obtain ⟨_,_,h⟩:=bw h
 split at h
 ·obtain ⟨c,hc,h⟩:=bw h
  injection h with h
  subst h
  show c.ac.length≤_
  rw [tt hc]
  exact Nat.le_succ _
 ·obtain ⟨_,_,h⟩:=bw h
  obtain ⟨_,_,h⟩:=bw h
  obtain ⟨_,_,h⟩:=bw h
  split at h
  ·injection h with h
   subst h
   exact Nat.le_succ _
  ·obtain ⟨c,hc,h⟩:=bw h
   obtain ⟨g,hg,h⟩:=bw h
   injection h with h
   subst h
   have:=uH hg
   rw [tt hc] at this
   exact this
theorem IP {s:aa} {id:Int} {r:aa×Int×ao} (h:wU s id=some r) : r.1.ac.length≤s.ac.length + 3:=by
 unfold wU at h
 dsimp only at h
 obtain ⟨nd,_,h⟩:=bw h
 obtain ⟨_,_,h⟩:=bw h
 obtain ⟨_,_,h⟩:=bw h
 obtain ⟨_,_,h⟩:=bw h
 have two:∀ {t:aa} {n:aZ},(Option.bind (ez t n true) fun c7=>if (c7.2.1 != 0)=true then some (c7.1,c7.2.1,c7.2.2) else Option.bind (ez c7.1 n false) fun c8=>some c8)=some r→r.1.ac.length≤t.ac.length + 2:=by
  intro t n h
  obtain ⟨c,hc,h⟩:=bw h
  have k1:=uG hc
  split at h
  ·injection h with h
   subst h
   exact Nat.le_succ_of_le k1
  ·obtain ⟨d,hd,h⟩:=bw h
   injection h with h
   subst h
   have k2:=uG hd
   omega
 split at h
 ·injection h with h
  subst h
  exact Nat.le_add_right _ _
 obtain ⟨c,hc,h⟩:=bw h
 split at h
 ·obtain ⟨k,hk,h⟩:=bw h
  have k1:=Hp hk
  split at h
  ·injection h with h
   subst h
   exact Nat.le_trans k1 (by omega)
  ·have:=two h
   omega
 ·have:=two h
  omega
theorem Hs {s:aa} {id:Int} {r:aa×List ao} (h:qT s id=some r) : r.1.ac.length≤s.ac.length + 9:=by
 unfold qT at h
 dsimp only at h
 obtain ⟨m,hm,h⟩:=bw h
 injection h with h
 subst h
 refine nh (f:=jr id) (fun st=>∃ k:Nat,st.2.2=(k:Int)∧k≤3∧st.1.ac.length≤s.ac.length + 3 * k) (fun q=>q.1.ac.length≤s.ac.length + 9) (fun st r ⟨k,h1,h2,h3⟩ h=>?_) _ (s,[],0) m ⟨0,rfl,by omega,by simp⟩ hm
 unfold jr at h
 dsimp only at h
 split at h
 ·rename_i hlt
  rw [h1] at hlt
  have hlt:k < 3:=by have:=zd hlt; omega
  obtain ⟨c,hc,h⟩:=bw h
  have k1:=IP hc
  split at h
  ·injection h with h
   subst h
   show c.1.ac.length≤_
   omega
  ·obtain ⟨l,hl,h⟩:=bw h
   injection h with h
   subst h
   refine ⟨k + 1,?_,hlt,?_⟩
   ·show i64.wrap (st.2.2 + 1) = _
    rw [h1,aR hlt (show 3≤1000000 by omega)]
   ·show c.1.ac.length≤_
    omega
 ·injection h with h
  subst h
  show st.1.ac.length≤_
  omega
def SzM (M:Nat) (s:aa) : Prop:=∃ B,SzS B s∧B + s.ac.length≤M
theorem SzM.mono {M N:Nat} {s:aa} (h:SzM M s) (hn:M≤N) : SzM N s:=by
 obtain ⟨B,h1,h2⟩:=h
 exact ⟨B,h1,by omega⟩
theorem SzM.sz {M:Nat} {s:aa} (h:SzM M s) : SzS M s:=by
 obtain ⟨B,h1,h2⟩:=h
 exact h1.mono (by omega)
theorem abA {s:aa} {id:Int} (h:NB s id=true) : mN s id∈s.ac∧(mN s id).fId=id:=by
 unfold NB at h
 rw [List.any_eq_true] at h
 obtain ⟨x,hx,e⟩:=h
 unfold mN
 cases hf:s.ac.find? fun c=>c.fId==id with
 | none=>have:=List.find?_eq_none.1 hf x hx; exact absurd e (by simpa using this)
 | some a=>exact ⟨List.mem_of_find?_eq_some hf,by simpa using List.find?_some hf⟩
theorem CZ {α : Type} {p : α→Bool} {l:List α} {x : α} (hx:x∈l) (hp:p x=false) : (l.filter p).length < l.length :=
 List.length_filter_lt_length_iff_exists.2 ⟨x,hx,by rw [hp]; simp⟩
theorem SzS.putE {B:Nat} {s:aa} (h:SzS B s) {a:ak} (ha:SzA (B + 1) a) {c:List ao} {l:List bA} (hc:c.length≤B + 1) (hl:l.length≤B + 1) : SzS (B + 1) { s with ah:=cE ak.fId s.ah a,ac:=c,aU:=l } := by
 have k:=h.put ha
 exact ⟨k.conf,k.nodes,k.apps,hc,hl,k.plans,k.app⟩
theorem HB {M:Nat} {s:aa} (h:SzM M s) (hs:jZ ak.fId s.ah) (ids:List Int) (hI:ids.length≤1000000) (hM:M + 1≤1000000) : ∃ r,jx s ids=some r∧SzM M r∧jZ ak.fId r.ah∧r.ac.length≤s.ac.length:=by
 unfold jx
 dsimp only
 rw [A4 ids s hI]
 obtain ⟨r,h1,h2⟩:=aV (g:=gR ids) (fin:=fun b=>(b,(ids.length:Int))) (fun _ b=>SzM M b∧jZ ak.fId b.ah∧b.ac.length≤s.ac.length) (fun r=>SzM M r.1∧jZ ak.fId r.1.ah∧r.1.ac.length≤s.ac.length) ids 0 s (fun j t x hx ⟨ht,hsr,hle⟩=>by
  obtain ⟨B,ht0,hB⟩:=ht
  have k1:=ht0.apps; have k2:=ht0.conts; have k3:=ht0.slots
  have stay:SzM M t∧jZ ak.fId t.ah∧t.ac.length≤s.ac.length:=⟨⟨B,ht0,hB⟩,hsr,hle⟩
  unfold gR
  dsimp only
  rw [ld t x (by omega)]
  simp only [zb]
  split
  ·exact ⟨_,rfl,fun a' e=>by injection e with e; subst e; exact stay,fun r e=>by cases e⟩
  rename_i hnot
  have hct:NB t x=true:=by simpa using hnot
  obtain ⟨hm,hid⟩:=abA hct
  rw [dp t _ (by omega)]
  simp only [zb]
  have hB1:B + 1≤1000000:=by omega
  have ha:=(ht0.get (mN t x).bE).mono (Nat.le_succ _)
  split
  ·rw [ux]
   simp only [zb]
   rw [fL t _ (by omega)]
   simp only [zb]
   rw [Dl _ _ (by show t.ac.length≤_; omega) (by show t.aU.length≤_; omega)]
   simp only [zb]
   refine ⟨_,rfl,fun a' e=>?_,fun r e=>by cases e⟩
   injection e with e
   subst e
   have hlt:=CZ (p:=fun c:ao=>!(c.bE==(mN t x).bE)) hm (by simp)
   refine ⟨⟨B + 1,ht0.putE ?_ (Nat.le_trans (List.length_filter_le _ _) (by show t.ac.length≤_; omega)) (Nat.le_trans (List.length_filter_le _ _) (by show t.aU.length≤_; omega)),?_⟩,jd _ _ _ hsr,?_⟩
   ·exact ⟨⟨ha.queue.1,ht0.nodes.2.2.1.1,ht0.nodes.2.2.1.2,ha.queue.2.2.2⟩,by simp,Nat.zero_le _,Nat.zero_le _,Nat.zero_le _,Nat.zero_le _⟩
   ·show B + 1 + (List.filter _ t.ac).length≤M
    omega
   ·show (List.filter _ t.ac).length≤_
    omega
  ·rw [Dp t _ (by omega)]
   have hg:=ht0.get (mN t x).bE
   have h5:=hg.grants; have h6:=hg.kills
   simp only [zb]
   rw [v7 _ _ (by omega)]
   simp only [zb]
   have hlt:=CZ (p:=fun c:ao=>c.fId != (mN t x).fId) hm (by simp)
   have hf:=List.length_filter_le (fun c=>c != (mN t x).fId) (bU t (mN t x).bE).bP
   have fin:∀ a:ak,SzA (B + 1) a→∃ r,Option.bind (eo { t with ac:=t.ac.filter fun c=>c.fId != (mN t x).fId } a) (fun c=>some (Sum.inl c:aa⊕(aa×Int)))=some r∧(∀ a',r = .inl a'→SzM M a'∧jZ ak.fId a'.ah∧a'.ac.length≤s.ac.length)∧∀ q,r = .inr q→SzM M q.1∧jZ ak.fId q.1.ah∧q.1.ac.length≤s.ac.length:=by
    intro a hsa
    rw [fL _ _ (by show t.ah.length + 1≤_; omega)]
    refine ⟨_,rfl,fun a' e=>?_,fun r e=>by cases e⟩
    injection e with e
    subst e
    refine ⟨⟨B + 1,ht0.putE (c:=t.ac.filter fun c=>c.fId != (mN t x).fId) (l:=t.aU) hsa (Nat.le_trans (List.length_filter_le _ _) (by omega)) (by omega),?_⟩,jd _ _ _ hsr,?_⟩
    ·show B + 1 + (List.filter _ t.ac).length≤M
     omega
    ·show (List.filter _ t.ac).length≤_
     omega
   split
   ·rw [aF (by simp; omega)]
    simp only [zb,List.nil_append]
    rw [aF (by simp; omega)]
    simp only [zb]
    refine fin _ ?_
    exact ⟨ha.queue,ha.asks,by show (List.filter _ _).length≤_; omega,by show (_ ++ [_]).length≤_; simp; omega,ha.told,ha.lost⟩
   ·simp only [zb]
    refine fin _ ?_
    exact ⟨ha.queue,ha.asks,by show (List.filter _ _).length≤_; omega,ha.kills,ha.told,ha.lost⟩) (fun b hb=>hb) ⟨h,hs,Nat.le_refl _⟩
 rw [h1]
 exact ⟨_,rfl,h2⟩
def fu (v_s:aa) (aw:ByteArray) (af:Int) (ce:Int) (mR:Int) (st:Unit) (x_:ak) : Option ((Unit)⊕((Int)⊕(Int))) :=
 let v_a:ak:=x_
 let v_k:Int:=0
 (ai (kx v_a aw v_s af ce mR) ab v_k).bind fun r15=>match r15 with
 | .inr m16=>some (.inr (.inr m16))
 | .inl m16 =>
 let v_k:=m16
 some (.inl ())
theorem yD (v_s:aa) (aw:ByteArray) (af:Int) (ce:Int) (mR:Int) (a_:Unit) (hl:v_s.ah.length≤1000000) : ai (ky v_s aw af ce mR) ab (0)=bh (fu v_s aw af ce mR) (fun a_=>(.inl ((v_s.ah.length:Int)))) a_ v_s.ah :=
 ay v_s.ah (S:=Int) (fun a_ k_=>(k_)) (fu v_s aw af ce mR) (fun a_=>(.inl ((v_s.ah.length:Int)))) (an hl) (fun k a x hx=>by
  unfold ky fu; exact bN)
  (fun a=>by unfold ky; exact cL) a_
def l9 (v_l:(List Int)) (v_n:Int) (st:Unit) (x_:Int) : Option ((Unit)⊕((Int)⊕(Bool))) :=
 if (x_ == v_n)=true then
 some (.inr (.inr true))
 else
 some (.inl ())
theorem DF (v_l:(List Int)) (v_n:Int) (a_:Unit) (hl:v_l.length≤1000000) : ai (pI v_l v_n) ab (0)=bh (l9 v_l v_n) (fun a_=>(.inl ((v_l.length:Int)))) a_ v_l :=
 ay v_l (S:=Int) (fun a_ k_=>(k_)) (l9 v_l v_n) (fun a_=>(.inl ((v_l.length:Int)))) (an hl) (fun k a x hx=>by
  unfold pI l9; exact bN)
  (fun a=>by unfold pI; exact cL) a_
def eP (v_s:aa) (af:Int) (aw:ByteArray) (v_l:(List Int)) (st:Int) (x_:ao) : Option ((Int)⊕((Int×Int))) :=
 let v_n:=st
 let v_c:ao:=x_
 (if (v_c.a6==af)=true then (if (aw.toList==(⟨#[]⟩ : ByteArray).toList)=true then some true else (jp v_s v_c).bind fun c8=>some (c8.toList==aw.toList)).bind fun q9=>some q9 else some false).bind fun q10=>(if q10=true then (if (v_c.jB != 0)=true then some true else (yF v_l v_c.fId).bind fun c11=>some c11).bind fun q12=>some q12 else some false).bind fun q13=>if q13=true then
 let v_n:Int:=(i64.wrap (v_n + v_c.cJ.bH))
 some (.inl v_n)
 else
 some (.inl v_n)
theorem xe (v_s:aa) (af:Int) (aw:ByteArray) (v_l:(List Int)) (a_:Int) (hl:v_s.ac.length≤1000000) : ai (jJ v_s af aw v_l) ab (a_,(0))=bh (eP v_s af aw v_l) (fun a_=>(a_,((v_s.ac.length:Int)))) a_ v_s.ac :=
 ay v_s.ac (S:=Int×Int) (fun a_ k_=>(a_,(k_))) (eP v_s af aw v_l) (fun a_=>(a_,((v_s.ac.length:Int)))) (an hl) (fun k a x hx=>by
  unfold jJ eP; exact bN)
  (fun a=>by unfold jJ; exact cL) a_
def eO (v_s:aa) (af:Int) (aw:ByteArray) (v_l:(List Int)) (st:ao×Bool) (x_:ao) : Option ((ao×Bool)⊕((ao×Bool×Int))) :=
 let cS:=st.1
 let bW:=st.2
 let v_c:ao:=x_
 (if (v_c.a6 != af)=true then some true else (jp v_s v_c).bind fun c15=>some (!(c15.toList==aw.toList))).bind fun q16=>(if q16=true then some true else some (v_c.jB != 0)).bind fun q17=>(if q17=true then some true else (yF v_l v_c.fId).bind fun c18=>some c18).bind fun q19=>if q19=true then
 some (.inl (cS,bW))
 else
 (if (!bW)=true then some true else (if cS.bb=true then some (!v_c.bb) else some false).bind fun q20=>some q20).bind fun q21=>(if q21=true then some true else (if (cS.bb==v_c.bb)=true then some (decide (v_c.fId > cS.fId)) else some false).bind fun q22=>some q22).bind fun q23=>if q23=true then
 let t24:ao:=v_c
 let t25:Bool:=true
 let cS:ao:=t24
 let bW:Bool:=t25
 some (.inl (cS,bW))
 else
 some (.inl (cS,bW))
theorem xd (v_s:aa) (af:Int) (aw:ByteArray) (v_l:(List Int)) (a_:ao×Bool) (hl:v_s.ac.length≤1000000) : ai (jI v_s af aw v_l) ab (a_.1,a_.2,(0))=bh (eO v_s af aw v_l) (fun a_=>(a_.1,a_.2,((v_s.ac.length:Int)))) a_ v_s.ac :=
 ay v_s.ac (S:=ao×Bool×Int) (fun a_ k_=>(a_.1,a_.2,(k_))) (eO v_s af aw v_l) (fun a_=>(a_.1,a_.2,((v_s.ac.length:Int)))) (an hl) (fun k a x hx=>by
  unfold jI eO; exact bN)
  (fun a=>by unfold jI; exact cL) a_
def gA (bS:(List aj)) (v_s:aa) (af:Int) (st:Int) (x_:aj) : Option ((Int)⊕((Int×Int))) :=
 let lw:=st
 (tn v_s x_.aB af).bind fun c6=>let lw:Int:=(i64.wrap (lw + c6))
 some (.inl lw)
theorem Au (bS:(List aj)) (v_s:aa) (af:Int) (a_:Int) (hl:bS.length≤1000000) : ai (me bS v_s af) ab (a_,(0))=bh (gA bS v_s af) (fun a_=>(a_,((bS.length:Int)))) a_ bS :=
 ay bS (S:=Int×Int) (fun a_ k_=>(a_,(k_))) (gA bS v_s af) (fun a_=>(a_,((bS.length:Int)))) (an hl) (fun k a x hx=>by
  unfold me gA; exact bN)
  (fun a=>by unfold me; exact cL) a_
def gz (bS:(List aj)) (v_s:aa) (af:Int) (v_l:(List Int)) (st:Int×ao) (x_:aj) : Option ((Int×ao)⊕((Int×ao×Int))) :=
 let cr:=st.1
 let v_x:=st.2
 let v_p:ByteArray:=x_.aB
 (eT v_s v_p af).bind fun c18=>(ny v_s v_p af v_l).bind fun c19=>let EF:Int:=(i64.wrap ((i64.wrap (c18.bH - x_.bH)) - c19))
 (qN v_s v_p af v_l).bind fun c20=>let v_c:ao:=c20.1
 let bW:Bool:=c20.2
 (if bW=true then some (decide (EF > cr)) else some false).bind fun q21=>if q21=true then
 let t22:Int:=EF
 let t23:ao:=v_c
 let cr:Int:=t22
 let v_x:ao:=t23
 some (.inl (cr,v_x))
 else
 some (.inl (cr,v_x))
theorem Ar (bS:(List aj)) (v_s:aa) (af:Int) (v_l:(List Int)) (a_:Int×ao) (hl:bS.length≤1000000) : ai (mc bS v_s af v_l) ab (a_.1,a_.2,(0))=bh (gz bS v_s af v_l) (fun a_=>(a_.1,a_.2,((bS.length:Int)))) a_ bS :=
 ay bS (S:=Int×ao×Int) (fun a_ k_=>(a_.1,a_.2,(k_))) (gz bS v_s af v_l) (fun a_=>(a_.1,a_.2,((bS.length:Int)))) (an hl) (fun k a x hx=>by
  unfold mc gz; exact bN)
  (fun a=>by unfold mc; exact cL) a_
def gB (lu:aa) (yU:aa) (st:(List Int)) (x_:ao) : Option (((List Int))⊕(((List Int)×Int))) :=
 let v_l:=st
 (eV yU x_.fId).bind fun c5=>let bW:Bool:=c5.2
 if (!bW)=true then
 (aP v_l [x_.fId]).bind fun b6=>let v_l:(List Int):=b6
 some (.inl v_l)
 else
 some (.inl v_l)
theorem Ax (lu:aa) (yU:aa) (a_:(List Int)) (hl:lu.ac.length≤1000000) : ai (mf lu yU) ab (a_,(0))=bh (gB lu yU) (fun a_=>(a_,((lu.ac.length:Int)))) a_ lu.ac :=
 ay lu.ac (S:=(List Int)×Int) (fun a_ k_=>(a_,(k_))) (gB lu yU) (fun a_=>(a_,((lu.ac.length:Int)))) (an hl) (fun k a x hx=>by
  unfold mf gB; exact bN)
  (fun a=>by unfold mf; exact cL) a_
def gy (v_l:(List ao)) (af:Int) (st:aa) (x_:ao) : Option ((aa)⊕((aa×Int))) :=
 let v_s:=st
 (eV v_s x_.fId).bind fun c15=>let xL:ao:=c15.1
 let bW:Bool:=c15.2
 if (!bW)=true then
 some (.inl v_s)
 else
 (jp v_s xL).bind fun c16=>(eT v_s c16 af).bind fun c17=>(qL v_s xL).bind fun c18=>(jp v_s xL).bind fun c19=>(Ay v_s af c19).bind fun c20=>if (decide ((i64.wrap (c17.bH - c18)) > c20))=true then
 (jx v_s ([xL.fId] : (List Int))).bind fun c21=>let v_s:aa:=c21
 some (.inl v_s)
 else
 (oE v_s xL.fId 0).bind fun c22=>let v_s:aa:=c22
 some (.inl v_s)
theorem Ao (v_l:(List ao)) (af:Int) (a_:aa) (hl:v_l.length≤1000000) : ai (l8 v_l af) ab (a_,(0))=bh (gy v_l af) (fun a_=>(a_,((v_l.length:Int)))) a_ v_l :=
 ay v_l (S:=aa×Int) (fun a_ k_=>(a_,(k_))) (gy v_l af) (fun a_=>(a_,((v_l.length:Int)))) (an hl) (fun k a x hx=>by
  unfold l8 gy; exact bN)
  (fun a=>by unfold l8; exact cL) a_
def fv (v_l:(List Int)) (st:aa) (x_:Int) : Option ((aa)⊕((aa×Int))) :=
 let v_s:=st
 (oE v_s x_ (if 1 > v_s.bZ then 1 else v_s.bZ)).bind fun c5=>let v_s:aa:=c5
 some (.inl v_s)
theorem yG (v_l:(List Int)) (a_:aa) (hl:v_l.length≤1000000) : ai (kz v_l) ab (a_,(0))=bh (fv v_l) (fun a_=>(a_,((v_l.length:Int)))) a_ v_l :=
 ay v_l (S:=aa×Int) (fun a_ k_=>(a_,(k_))) (fv v_l) (fun a_=>(a_,((v_l.length:Int)))) (an hl) (fun k a x hx=>by
  unfold kz fv; exact bN)
  (fun a=>by unfold kz; exact cL) a_
def eR (v_l:(List aj)) (st:(List aj)) (v_i:Int) (x_:aj) : Option (((List aj))⊕(((List aj)×Int))) :=
 let am:=st
 let v_k:Int:=0
 (ai (gD am v_i v_l) ab v_k).bind fun r13 =>
 let v_k:=r13
 (hiO am v_k).bind fun b14=>(aP ([] : (List aj)) b14).bind fun b15=>let v_x:(List aj):=b15
 (aP v_x [x_]).bind fun b16=>let v_x:(List aj):=b16
 (loO am v_k).bind fun b17=>(aP v_x b17).bind fun b18=>let am:(List aj):=b18
 some (.inl am)
theorem xf (v_l:(List aj)) (a_:(List aj)) (hl:v_l.length≤1000000) : ai (jK v_l) ab (a_,(0))=oe (eR v_l) (fun a_=>(a_,((v_l.length:Int)))) a_ 0 v_l :=
 fo v_l (S:=(List aj)×Int) (fun a_ k_=>(a_,(k_))) (eR v_l) (fun a_=>(a_,((v_l.length:Int)))) (an hl) (fun k a x hx=>by
  unfold jK eR; exact bN)
  (fun a=>by unfold jK; exact cL) a_
def kA (v_l:(List aj)) (aw:ByteArray) (st:Unit) (x_:aj) : Option ((Unit)⊕((Int)⊕(Int))) :=
 if (x_.aB.toList==aw.toList)=true then
 some (.inr (.inr x_.bH))
 else
 some (.inl ())
theorem Cm (v_l:(List aj)) (aw:ByteArray) (a_:Unit) (hl:v_l.length≤1000000) : ai (n6 v_l aw) ab (0)=bh (kA v_l aw) (fun a_=>(.inl ((v_l.length:Int)))) a_ v_l :=
 ay v_l (S:=Int) (fun a_ k_=>(k_)) (kA v_l aw) (fun a_=>(.inl ((v_l.length:Int)))) (an hl) (fun k a x hx=>by
  unfold n6 kA; exact bN)
  (fun a=>by unfold n6; exact cL) a_
def X3 (n:Int) : Int:=if (decide (n < 0)||decide (n > 1125899906842624))=true then 0 else n
theorem vP (n:Int) : mg n=some (X3 n):=by
 unfold mg X3
 simp only [orB,zb]
 split <;> rfl
theorem Mg (t:Int) (a b c:List Int) (hN:a.length≤1000) (hb:b.length=a.length) (hc:c.length=a.length) : ∃ r,wQ t a b c=some r∧r.length=a.length:=by
 have hn:(if (c.length:Int) < (if (b.length:Int) < (a.length:Int) then (b.length:Int) else (a.length:Int)) then (c.length:Int) else (if (b.length:Int) < (a.length:Int) then (b.length:Int) else (a.length:Int)))=(a.length:Int):=by
  rw [hb,hc]
  simp
 unfold wQ
 simp only [hn,vP,zb]
 obtain ⟨r,e1,e2⟩:=aL (f:=oW (a.length:Int) a b c) (fun st=>∃ k:Nat,st.2.2=(k:Int)∧k≤a.length∧st.1.length=k) (fun st=>a.length - st.2.2.toNat) (fun r=>r.1.length=a.length) (fun st ⟨k,h1,h2,h3⟩=>by
  unfold oW
  simp only [h1]
  by_cases hlt:k < a.length
  ·have g1:a[k]? = some a[k]:=zq hlt
   have g2:b[k]? = some (b[k]'(by omega)):=zq (by omega)
   have g3:c[k]? = some (c[k]'(by omega)):=zq (by omega)
   simp only [bG g1,if_true,aD g1,aD g2,aD g3,vP,zb,aR hlt (show a.length≤1000000 by omega)]
   rw [aF (by simp; omega)]
   exact .inl ⟨_,rfl,⟨k + 1,rfl,hlt,by simp; omega⟩,by simp only [zt]; omega⟩
  ·have:k=a.length:=by omega
   subst this
   simp only [bv,zf,if_false]
   exact .inr ⟨_,rfl,h3⟩) ab ([],X3 t,0) ⟨0,rfl,Nat.zero_le _,rfl⟩ (by have:=an (show a.length≤1000000 by omega); omega)
 rw [e1]
 simp only [zb]
 obtain ⟨q,f1,f2⟩:=aL (f:=oV (a.length:Int) b c) (fun st=>∃ k:Nat,st.2.2=(k:Int)∧k≤a.length∧st.1.length=a.length) (fun st=>a.length - st.2.2.toNat) (fun r=>r.1.length=a.length) (fun st ⟨k,h1,h2,h3⟩=>by
  unfold oV
  simp only [h1]
  by_cases hlt:k < a.length
  ·have g1:a[k]? = some a[k]:=zq hlt
   have g2:b[k]? = some (b[k]'(by omega)):=zq (by omega)
   have g3:c[k]? = some (c[k]'(by omega)):=zq (by omega)
   have g4:st.1[k]? = some (st.1[k]'(by omega)):=zq (by omega)
   simp only [bG g1,if_true,aD g2,aD g3,aD g4,vP,zb,aR hlt (show a.length≤1000000 by omega),zt]
   exact .inl ⟨_,rfl,⟨k + 1,rfl,hlt,by simp; omega⟩,by simp only [zt]; omega⟩
  ·have:k=a.length:=by omega
   subst this
   simp only [bv,zf,if_false]
   exact .inr ⟨_,rfl,h3⟩) ab (r.1,r.2.1,0) ⟨0,rfl,Nat.zero_le _,e2⟩ (by have:=an (show a.length≤1000000 by omega); omega)
 rw [f1]
 exact ⟨_,rfl,f2⟩
theorem Dd {B:Nat} {s:aa} (h:SzS B s) (hD:Deep s.bB) (hB:B≤1000000) (k:Int) : ∀ (d n:Nat) (p:ByteArray) (v:Int),4 - dG 6 p≤d→d < n→d≤4→∃ r,mh n s p k v=some r∧r.length≤16 ^ d
 | d,0,p,_,_,hn,_=>absurd hn (Nat.not_lt_zero _)
 | d,n + 1,p,v,hp,hn,hd=>by
  obtain ⟨m,h2,h3,h4⟩:=ul s.bB p h.conf.sz
  have hq:=hD.few
  have k2:=h.nodes.1
  unfold mh
  simp only [h2,zb]
  split
  ·exact ⟨_,rfl,by show 1≤16 ^ d; exact Nat.one_le_pow _ _ (by omega)⟩
  ·rename_i hne
   have hm : 0 < m.length:=by
    rcases Nat.eq_zero_or_pos m.length with h0 | h0
    ·rw [h0] at hne; exact absurd rfl hne
    ·exact h0
   have kid:=C8 s.bB p h.conf.sz h2
   have kd:∀ x∈m,dG 6 p + 1=dG 6 x∧dG 6 x≤4:=fun x hx=>by
    obtain ⟨⟨q,hq1,hq2⟩,a1,a2⟩:=kid x hx
    subst hq2
    exact ⟨JQ a1 a2 (h.conf.sz.paths q hq1) (hD.deep q hq1),hD.deep q hq1⟩
   have hd0 : 0 < d:=by
    obtain ⟨a1,a2⟩:=kd m[0] (List.getElem_mem hm)
    omega
   obtain ⟨d',rfl⟩ : ∃ d',d=d' + 1:=⟨d - 1,by omega⟩
   have hpow : 16 ^ d'≤16 ^ 3:=Nat.pow_le_pow_right (by omega) (by omega)
   have hm1:m.length≤1000000:=by omega
   obtain ⟨r,e1,e2⟩:=aL (f:=qR (mh n) m s k) (fun st=>∃ i:Nat,st.2.2.2=(i:Int)∧i≤m.length∧st.1.length=i∧st.2.1.length=i∧st.2.2.1.length=i) (fun st=>m.length - st.2.2.2.toNat) (fun r=>r.1.length=m.length∧r.2.1.length=m.length∧r.2.2.1.length=m.length) (fun st ⟨i,i1,i2,i3,i4,i5⟩=>by
    unfold qR
    simp only [i1]
    by_cases hlt:i < m.length
    ·have g1:m[i]? = some m[i]:=zq hlt
     obtain ⟨u,hu⟩:=fx h hB m[i] k
     obtain ⟨w,hw⟩:=vX h hB m[i] k
     simp only [bG g1,if_true,aD g1,oA s _ k h.conf (Nat.le_trans k2 hB),G9 s _ k h.conf (Nat.le_trans k2 hB),hu,hw,zb,aR hlt hm1]
     rw [aF (by simp; omega)]
     simp only [zb]
     rw [aF (by simp; omega)]
     simp only [zb]
     rw [aF (by simp; omega)]
     exact .inl ⟨_,rfl,⟨i + 1,rfl,hlt,by simp; omega,by simp; omega,by simp; omega⟩,by simp only [zt]; omega⟩
    ·have:i=m.length:=by omega
     subst this
     simp only [bv,zf,if_false]
     exact .inr ⟨_,rfl,i3,i4,i5⟩) ab ([],[],[],0) ⟨0,rfl,Nat.zero_le _,rfl,rfl,rfl⟩ (by have:=an hm1; omega)
   rw [e1]
   simp only [zb]
   obtain ⟨x,x1,x2⟩:=Mg v r.1 r.2.2.1 r.2.1 (by omega) (by omega) (by omega)
   rw [x1]
   simp only [zb]
   obtain ⟨q,f1,f2⟩:=aL (f:=qQ (mh n) m s k x) (fun st=>∃ i:Nat,st.2=(i:Int)∧i≤m.length∧st.1.length≤i * 16 ^ d') (fun st=>m.length - st.2.toNat) (fun r=>r.1.length≤m.length * 16 ^ d') (fun st ⟨i,i1,i2,i3⟩=>by
    unfold qQ
    simp only [i1]
    by_cases hlt:i < m.length
    ·have g1:m[i]? = some m[i]:=zq hlt
     have g2:x[i]? = some (x[i]'(by omega)):=zq (by omega)
     obtain ⟨a1,a2⟩:=kd m[i] (List.getElem_mem hlt)
     obtain ⟨c,c1,c2⟩:=Dd h hD hB k d' n m[i] (x[i]'(by omega)) (by omega) (by omega) (by omega)
     have hj2:i * 16 ^ d'≤16 * 16 ^ 3:=Nat.mul_le_mul (by omega) hpow
     simp only [bG g1,if_true,aD g1,aD g2,c1,zb,aR hlt hm1]
     rw [aF (by omega)]
     refine .inl ⟨_,rfl,⟨i + 1,rfl,hlt,?_⟩,by simp only [zt]; omega⟩
     show (st.1++c).length≤_
     rw [List.length_append,Nat.succ_mul]
     omega
    ·have:i=m.length:=by omega
     subst this
     simp only [bv,zf,if_false]
     exact .inr ⟨_,rfl,i3⟩) ab ([],0) ⟨0,rfl,Nat.zero_le _,by simp⟩ (by have:=an hm1; omega)
   rw [f1]
   refine ⟨_,rfl,Nat.le_trans f2 ?_⟩
   rw [Nat.pow_succ,Nat.mul_comm]
   exact Nat.mul_le_mul_left _ (by omega)
theorem xw {B:Nat} {s:aa} (h:SzS B s) (hD:Deep s.bB) (hB:B≤1000000) (k:Int) : ∃ r,qS s k=some r∧r.length≤65536:=by
 obtain ⟨l,h1,h2⟩:=Dd h hD hB k 4 ab ⟨#[114,111,111,116]⟩ (vF s k).bH (by omega) (by unfold ab; omega) (by omega)
 have h2:l.length≤65536:=h2
 have k2:=h.nodes.1
 unfold qS
 simp only [oz s k (Nat.le_trans k2 hB),h1,zb]
 rw [xf l [] (by omega)]
 obtain ⟨r,e1,e2⟩:=mZ (g:=eR l) (fin:=fun b=>(b,(l.length:Int))) (fun j b=>b.length≤j) (fun r=>r.1.length≤l.length) l 0 [] (fun j out x hx ho=>by
  have hj:=(zg.1 hx).1
  obtain ⟨K,hK1,hK2⟩:=ol out (by omega) (f:=gD out ((0 + j:Nat) : Int) l) (fun i y hy=>by
   have hi:=(zg.1 hy).1
   refine ⟨Op.bytesLess y.aB.toList x.aB.toList,?_⟩
   unfold gD
   simp only [bG hy,if_true,aD hy,aD (show l[0 + j]? = some x by rwa [Nat.zero_add]),zb,aR hi (show out.length≤1000000 by omega)]) (by unfold gD; simp only [bv,zf,if_false,zb])
  unfold eR
  dsimp only
  rw [hK1]
  simp only [zb]
  rw [nn hK2]
  simp only [zb]
  rw [aF (by simp; omega)]
  simp only [zb]
  rw [aF (by simp; omega)]
  simp only [zb]
  rw [jX hK2]
  simp only [zb]
  rw [aF (by simp; omega)]
  refine ⟨_,rfl,fun a' e=>?_,fun r e=>by cases e⟩
  injection e with e
  subst e
  simp; omega) (fun b hb=>by simpa using hb) (by simp)
 rw [e1]
 exact ⟨_,rfl,by show r.1.length≤_; omega⟩
theorem R6 {B:Nat} {s:aa} (h:SzS B s) (hD:Deep s.bB) (hB:B≤1000000) (k:Int) (p:ByteArray) : ∃ r,Ay s k p=some r:=by
 obtain ⟨l,h1,h2⟩:=xw h hD hB k
 unfold Ay
 rw [h1]
 dsimp only [zb]
 rw [Cm l p () (by omega),show kA l p=fun (_:Unit) x=>if (x.aB.toList==p.toList)=true then some (.inr (.inr x.bH)) else some (.inl ()) from rfl,
  kX (fun x:aj=>x.aB.toList==p.toList) (fun x=>(Sum.inr x.bH:Int⊕Int)) (.inl (l.length:Int)) l]
 simp only [zb]
 cases l.find? fun x=>x.aB.toList==p.toList <;> exact ⟨_,rfl⟩
theorem vN (s:aa) (c:ao) (hl:s.ah.length≤1000000) : jp s c=some (bU s c.bE).bD:=by
 unfold jp
 simp only [dp s c.bE hl,zb]
def inL (l:List Int) (n:Int) : Bool:=l.any fun x=>x==n
theorem Kk (l:List Int) (n:Int) (hl:l.length≤1000000) : yF l n=some (inL l n):=by
 unfold yF inL
 dsimp only
 rw [DF l n () hl,show l9 l n=fun (_:Unit) x=>if (x==n)=true then some (.inr (.inr true)) else some (.inl ()) from rfl,
  kX (fun x:Int=>x==n) (fun _=>(Sum.inr true:Int⊕Bool)) (.inl (l.length:Int)) l]
 simp only [zb]
 cases hf:l.find? fun x=>x==n with
 | none =>
  have:(l.any fun x=>x==n)=false:=by
   rw [List.any_eq_false]; intro x hx; have:=List.find?_eq_none.1 hf x hx; simpa using this
  rw [this]
 | some q =>
  have:(l.any fun x=>x==n)=true:=by rw [List.any_eq_true]; exact ⟨q,List.mem_of_find?_eq_some hf,List.find?_some (p:=fun x:Int=>x==n) hf⟩
  rw [this]
theorem JD {α : Type} {p q : α→Bool} (hpq:∀ x,q x=true→p x=true) : ∀ l:List α,(∃ x∈l,p x=true∧q x=false)→(l.filter q).length < (l.filter p).length
 | [],⟨x,hx,_⟩=>by cases hx
 | y::l,⟨x,hx,h1,h2⟩=>by
  have le:∀ l:List α,(l.filter q).length≤(l.filter p).length:=fun l=>by
   induction l with
   | nil=>exact Nat.le_refl _
   | cons z l ih =>
    simp only [List.filter_cons]
    cases hq:q z with
    | true=>rw [hpq z hq]; simpa using ih
    | false =>
     cases p z with
     | true=>simp; omega
     | false=>simpa using ih
  simp only [List.filter_cons]
  rcases List.mem_cons.1 hx with rfl | hx
  ·rw [h1,h2]
   have:=le l
   simp; omega
  ·have ih:=JD hpq l ⟨x,hx,h1,h2⟩
   cases hq:q y with
   | true=>rw [hpq y hq]; simpa using ih
   | false =>
    cases p y with
    | true=>simp; omega
    | false=>simpa using ih
theorem Mc {B:Nat} {s:aa} (h:SzS B s) (hB:B≤1000000) (p:ByteArray) (k:Int) : ∃ r,tn s p k=some r:=by
 obtain ⟨u,hu⟩:=fx h hB p k
 obtain ⟨v,hv⟩:=vX h hB p k
 have k1:=h.apps; have k2:=h.nodes.1
 unfold tn
 simp only [hu,oA s p k h.conf (Nat.le_trans k2 hB),zb]
 rw [yD s p k (Cw s p k).bH u.bH () (by omega)]
 obtain ⟨r,e1,_⟩:=aV (g:=fu s p k (Cw s p k).bH u.bH) (fin:=fun _=>(.inl (s.ah.length:Int))) (fun _ _=>True) (fun _=>True) s.ah 0 () (fun j b x hx _=>by
  have hm:=h.app x (List.mem_of_getElem? hx)
  have ha:=hm.asks
  have ha2:x.bL.length≤1000000:=by omega
  obtain ⟨r,r1,_⟩:=aL (f:=kx x p s k (Cw s p k).bH u.bH) (fun st=>∃ i:Nat,st=(i:Int)∧i≤x.bL.length) (fun st=>x.bL.length - st.toNat) (fun _=>True) (fun st ⟨i,h1,h2⟩=>by
   subst h1
   unfold kx
   by_cases hlt:i < x.bL.length
   ·have g1:x.bL[i]? = some x.bL[i]:=zq hlt
    simp only [bG g1,if_true,aD g1,dn,hv,dy,zb,aR hlt ha2]
    split
    ·split
     ·exact .inr ⟨_,rfl,trivial⟩
     ·exact .inl ⟨_,rfl,⟨i + 1,rfl,hlt⟩,by simp only [zt]; omega⟩
    ·exact .inr ⟨_,rfl,trivial⟩
   ·have:i=x.bL.length:=by omega
    subst this
    simp only [bv,zf,if_false,zb]
    exact .inr ⟨_,rfl,trivial⟩) ab 0 ⟨0,rfl,Nat.zero_le _⟩ (by have:=an ha2; omega)
  unfold fu
  dsimp only
  rw [r1]
  simp only [zb]
  cases r <;> exact ⟨_,rfl,fun _ _=>trivial,fun _ _=>trivial⟩) (fun _ _=>trivial) trivial
 rw [e1]
 simp only [zb]
 cases r <;> exact ⟨_,rfl⟩
theorem xu {B:Nat} {s:aa} (h:SzS B s) (hB:B≤1000000) (p:ByteArray) (k:Int) (l:List Int) (hl:l.length≤1000000) : ∃ r,ny s p k l=some r:=by
 have k1:=h.apps; have k2:=h.conts
 unfold ny
 dsimp only
 rw [xe s k p l 0 (by omega)]
 obtain ⟨r,e1,_⟩:=aV (g:=eP s k p l) (fin:=fun b=>(b,(s.ac.length:Int))) (fun _ _=>True) (fun _=>True) s.ac 0 0 (fun j b x hx _=>by
  unfold eP
  simp only [vN s x (show s.ah.length≤1000000 by omega),Kk l x.fId hl,dy,orB,zb]
  split <;> exact ⟨_,rfl,fun _ _=>trivial,fun _ _=>trivial⟩) (fun _ _=>trivial) trivial
 rw [e1]
 exact ⟨_,rfl⟩
theorem IL {B:Nat} {s:aa} (h:SzS B s) (hB:B≤1000000) (p:ByteArray) (k:Int) (l:List Int) (hl:l.length≤1000000) : ∃ r,qN s p k l=some r∧(r.2=true→r.1∈s.ac∧inL l r.1.fId=false):=by
 have k1:=h.apps; have k2:=h.conts
 unfold qN
 dsimp only
 rw [xd s k p l ((⟨0,0,0,az.zero,0,0,false,0⟩ : ao),false) (by omega)]
 obtain ⟨r,e1,e2⟩:=aV (g:=eO s k p l) (fin:=fun b=>(b.1,b.2,(s.ac.length:Int))) (fun _ b=>b.2=true→b.1∈s.ac∧inL l b.1.fId=false) (fun r=>r.2.1=true→r.1∈s.ac∧inL l r.1.fId=false) s.ac 0 ((⟨0,0,0,az.zero,0,0,false,0⟩ : ao),false) (fun j b x hx hb=>by
  unfold eO
  simp only [vN s x (show s.ah.length≤1000000 by omega),Kk l x.fId hl,dy,orB,zb]
  split
  ·exact ⟨_,rfl,fun a e=>(by injection e with e; subst e; exact hb),fun r e=>(by cases e)⟩
  ·rename_i hn
   split
   ·refine ⟨_,rfl,fun a e=>?_,fun r e=>(by cases e)⟩
    injection e with e
    subst e
    refine fun _=>⟨List.mem_of_getElem? hx,?_⟩
    simp only [Bool.or_eq_true,not_or,Bool.not_eq_true] at hn
    exact hn.2
   ·exact ⟨_,rfl,fun a e=>(by injection e with e; subst e; exact hb),fun r e=>(by cases e)⟩) (fun b hb=>hb) (fun e=>by cases e)
 rw [e1]
 exact ⟨_,rfl,e2⟩
def ZR (s:aa) (l:List Int) : Nat:=(s.ac.filter fun c=>!inL l c.fId).length
theorem O6 {B:Nat} {s:aa} (h:SzS B s) (hB:B≤1000000) (k:Int) : ∃ r,Aw s k=some r∧r.length≤s.ac.length:=by
 have k1:=h.apps; have k2:=h.conts; have k3:=h.nodes.1
 obtain ⟨sh,h1,h2⟩:=xw h h.conf.deep hB k
 obtain ⟨u,hu⟩:=fx h hB ⟨#[114,111,111,116]⟩ k
 unfold Aw
 simp only [h1,oz s k (Nat.le_trans k3 hB),hu,zb]
 rw [Au sh s k _ (by omega)]
 obtain ⟨r,e1,_⟩:=aV (g:=gA sh s k) (fin:=fun b=>(b,(sh.length:Int))) (fun _ _=>True) (fun _=>True) sh 0 (i64.wrap (0 - (if 0 > (i64.wrap ((vF s k).bH - u.bH)) then 0 else (i64.wrap ((vF s k).bH - u.bH))))) (fun j b x hx _=>by
  obtain ⟨n,hn⟩:=Mc h hB x.aB k
  unfold gA
  simp only [hn,zb]
  exact ⟨_,rfl,fun _ _=>trivial,fun _ _=>trivial⟩) (fun _ _=>trivial) trivial
 rw [e1]
 simp only [zb]
 obtain ⟨q,f1,f2⟩:=aL (f:=qP s k r.1 sh) (fun l=>l.length + ZR s l≤s.ac.length) (fun l=>ZR s l) (fun r=>match r with | .inl m=>m.length≤s.ac.length | .inr m=>m.length≤s.ac.length) (fun l hl=>by
  have hl2:l.length≤s.ac.length:=by omega
  obtain ⟨m,hm⟩:=xu h hB ⟨#[]⟩ k l (by omega)
  unfold qP
  simp only [hm,zb]
  split
  ·rw [Ar sh s k l (0,(⟨0,0,0,az.zero,0,0,false,0⟩ : ao)) (by omega)]
   obtain ⟨t,t1,t2⟩:=aV (g:=gz sh s k l) (fin:=fun b=>(b.1,b.2,(sh.length:Int))) (fun _ b=>b.1≠0→b.2∈s.ac∧inL l b.2.fId=false) (fun r=>r.1≠0→r.2.1∈s.ac∧inL l r.2.1.fId=false) sh 0 (0,(⟨0,0,0,az.zero,0,0,false,0⟩ : ao)) (fun j b x hx hb=>by
    obtain ⟨u,hu⟩:=fx h hB x.aB k
    obtain ⟨m,hm⟩:=xu h hB x.aB k l (by omega)
    obtain ⟨n,hn,hn2⟩:=IL h hB x.aB k l (by omega)
    unfold gz
    simp only [hu,hm,hn,dy,zb]
    split
    ·rename_i hc
     rw [Bool.and_eq_true] at hc
     exact ⟨_,rfl,fun a e=>(by injection e with e; subst e; exact fun _=>hn2 hc.1),fun r e=>(by cases e)⟩
    ·exact ⟨_,rfl,fun a e=>(by injection e with e; subst e; exact hb),fun r e=>(by cases e)⟩) (fun b hb=>hb) (fun e=>absurd rfl e)
   rw [t1]
   simp only [zb]
   split
   ·exact .inr ⟨_,rfl,hl2⟩
   ·rename_i hne
    obtain ⟨c1,c2⟩:=t2 (by simpa using hne)
    have hlt:ZR s (l ++ [t.2.1.fId]) < ZR s l:=JD (fun x hx=>by
     unfold inL at hx ⊢
     simp only [List.any_append,Bool.not_or,Bool.and_eq_true] at hx
     exact hx.1) s.ac ⟨t.2.1,c1,by rw [c2]; rfl,by unfold inL; simp⟩
    rw [aF (by simp; omega)]
    exact .inl ⟨_,rfl,by rw [List.length_append,List.length_singleton]; omega,hlt⟩
  ·exact .inr ⟨_,rfl,hl2⟩) ab [] (by show 0 + (List.filter _ _).length≤_; rw [Nat.zero_add]; exact List.length_filter_le _ _) (by have:=List.length_filter_le (fun c:ao=>!inL [] c.fId) s.ac; have h3:=an (show s.ac.length≤1000000 by omega); show (s.ac.filter fun c=>!inL [] c.fId).length < ab; omega)
 rw [f1]
 simp only [zb]
 cases q with
 | inl m=>exact ⟨_,rfl,f2⟩
 | inr m=>exact ⟨_,rfl,f2⟩
theorem Dc (s t:aa) (hl:s.ac.length≤1000000) (ht:t.ac.length≤1000000) : vO s t=some ((s.ac.filter fun c=>!NB t c.fId).map ao.fId):=by
 unfold vO
 dsimp only
 have e:gB s t=fun acc x=>if (!NB t x.fId)=true then (aP acc [x.fId]).map (fun a=>(.inl a:List Int⊕(List Int×Int))) else some (.inl acc):=by
  funext acc x
  unfold gB
  simp only [ld t x.fId ht,zb]
  split
  ·cases aP acc [x.fId] <;> rfl
  ·rfl
 rw [Ax s t [] hl,e,bV (fun c:ao=>!NB t c.fId) ao.fId _ s.ac [] (by simpa using hl)]
 simp
theorem OZ {B:Nat} {s:aa} (h:SzS B s) (hB:B≤1000000) (id t:Int) : ∃ r,oE s id t=some r∧SzS B r∧r.ah=s.ah∧r.ac.length=s.ac.length:=by
 have k2:=h.conts
 have hl:s.ac.length≤1000000:=by omega
 unfold oE
 rw [aF (by simp; omega)]
 simp only [zb,List.nil_append]
 obtain ⟨r,r1,r2⟩:=aL (f:=qM t id) (fun st=>∃ i:Nat,st.2=(i:Int)∧i≤s.ac.length∧st.1.length=s.ac.length) (fun st=>s.ac.length - st.2.toNat) (fun r=>r.1.length=s.ac.length) (fun st ⟨i,h1,h2,h3⟩=>by
  unfold qM
  simp only [h1]
  by_cases hlt:i < st.1.length
  ·have g1:st.1[i]? = some st.1[i]:=zq hlt
   simp only [bG g1,if_true,aD g1,zt,zb,aR hlt (show st.1.length≤1000000 by omega)]
   split
   ·exact .inl ⟨_,rfl,⟨i + 1,rfl,by omega,by simp; omega⟩,by simp only [zt]; omega⟩
   ·exact .inl ⟨_,rfl,⟨i + 1,rfl,by omega,h3⟩,by simp only [zt]; omega⟩
  ·have:i=st.1.length:=by omega
   subst this
   simp only [bv,zf,if_false]
   exact .inr ⟨_,rfl,h3⟩) ab (s.ac,0) ⟨0,rfl,Nat.zero_le _,rfl⟩ (by have:=an hl; omega)
 rw [r1]
 exact ⟨_,rfl,h.cont (by omega),rfl,r2⟩
structure OkS (M:Nat) (s:aa) : Prop where
 m:SzM M s
 srt:jZ ak.fId s.ah
theorem OkS.mono {M N:Nat} {s:aa} (h:OkS M s) (hn:M≤N) : OkS N s:=⟨h.m.mono hn,h.srt⟩
theorem OkS.sz {M:Nat} {s:aa} (h:OkS M s) : SzS M s:=h.m.sz
theorem IK (s:aa) (c:ao) (hl:s.ac.length≤1000000) : ∃ r,qL s c=some r:=by
 unfold qL
 dsimp only
 obtain ⟨r,r1,_⟩:=aL (f:=nx s c) (fun st=>∃ i:Nat,st.2=(i:Int)∧i≤s.ac.length) (fun st=>s.ac.length - st.2.toNat) (fun _=>True) (fun st ⟨i,h1,h2⟩=>by
  unfold nx
  simp only [h1]
  by_cases hlt:i < s.ac.length
  ·have g1:s.ac[i]? = some s.ac[i]:=zq hlt
   simp only [bG g1,if_true,aD g1,dy,zb,aR hlt hl]
   split
   ·split
    ·exact .inl ⟨_,rfl,⟨i + 1,rfl,hlt⟩,by simp only [zt]; omega⟩
    ·exact .inl ⟨_,rfl,⟨i + 1,rfl,hlt⟩,by simp only [zt]; omega⟩
   ·exact .inr ⟨_,rfl,trivial⟩
  ·have:i=s.ac.length:=by omega
   subst this
   simp only [bv,zf,if_false,zb]
   exact .inr ⟨_,rfl,trivial⟩) ab (0,0) ⟨0,rfl,Nat.zero_le _⟩ (by have:=an hl; show s.ac.length - (0:Int).toNat < ab; omega)
 rw [r1]
 exact ⟨_,rfl⟩
theorem Ku {k:Nat} (hk:k≤1000000) : i64.wrap ((k:Int) - 1)=(k:Int) - 1:=by rw [IntKind.wrap_i64]; omega
theorem OkS.note {M:Nat} {s:aa} (h:OkS M s) (hM:M≤1000000) (id t:Int) : ∃ r,oE s id t=some r∧OkS M r∧r.ac.length=s.ac.length:=by
 obtain ⟨⟨B,h1,h2⟩,h3⟩:=h
 obtain ⟨r,r1,r2,r3,r4⟩:=OZ h1 (by omega) id t
 exact ⟨r,r1,⟨⟨B,r2,by rw [r4]; exact h2⟩,by rw [r3]; exact h3⟩,r4⟩
theorem O2 {M:Nat} {s:aa} (h:OkS M s) (hM:M + 1≤1000000) (k:Int) : ∃ r,Ap s k=some r∧OkS M r∧r.ac.length≤s.ac.length:=by
 have hc:=h.sz.conts
 have hl:s.ac.length≤1000000:=by omega
 unfold Ap
 dsimp only
 rw [Ku hl]
 obtain ⟨r,r1,r2⟩:=aL (f:=qO s k) (fun st=>∃ i:Nat,st.2=(i:Int) - 1∧i≤s.ac.length∧st.1.length + i≤s.ac.length) (fun st=>(st.2 + 1).toNat) (fun r=>r.1.length≤s.ac.length) (fun st ⟨i,h1,h2,h3⟩=>by
  unfold qO
  simp only [h1]
  by_cases hlt : 0 < i
  ·obtain ⟨j,rfl⟩ : ∃ j,i=j + 1:=⟨i - 1,by omega⟩
   have hj:((j + 1:Nat) : Int) - 1=(j:Int):=by omega
   have g1:s.ac[j]? = some s.ac[j]:=zq (by omega)
   have hd:decide ((j:Int)≥0)=true:=by simp
   simp only [hj,hd,if_true,aD g1,dy,zb,Ku (show j≤1000000 by omega)]
   split
   ·rw [aF (by simp; omega)]
    exact .inl ⟨_,rfl,⟨j,rfl,by omega,by simp; omega⟩,by show ((j:Int) - 1 + 1).toNat < ((j:Int) + 1).toNat; omega⟩
   ·exact .inl ⟨_,rfl,⟨j,rfl,by omega,by show st.1.length + j≤_; omega⟩,by show ((j:Int) - 1 + 1).toNat < ((j:Int) + 1).toNat; omega⟩
  ·have:i=0:=by omega
   subst this
   have hd:decide (((0:Nat) : Int) - 1≥0)=false:=by simp
   simp only [hd,zf,if_false]
   exact .inr ⟨_,rfl,by show st.1.length≤_; omega⟩) ab ([],(s.ac.length:Int) - 1) ⟨s.ac.length,rfl,Nat.le_refl _,by simp⟩ (by have:=an hl; show ((s.ac.length:Int) - 1 + 1).toNat < ab; omega)
 rw [r1]
 simp only [zb]
 rw [Ao r.1 k s (by omega)]
 obtain ⟨q,q1,q2⟩:=aV (g:=gy r.1 k) (fin:=fun b=>(b,(r.1.length:Int))) (fun _ b=>OkS M b∧b.ac.length≤s.ac.length) (fun r=>OkS M r.1∧r.1.ac.length≤s.ac.length) r.1 0 s (fun j t x hx ⟨ht,hle⟩=>by
  have hz:=ht.sz
  have k1:=hz.apps; have k2:=hz.conts
  unfold gy
  dsimp only
  rw [ld t _ (by omega)]
  simp only [zb]
  split
  ·exact ⟨_,rfl,fun a' e=>(by injection e with e; subst e; exact ⟨ht,hle⟩),fun r e=>(by cases e)⟩
  obtain ⟨u,hu⟩:=fx hz (by omega) (bU t (mN t x.fId).bE).bD k
  obtain ⟨o,ho⟩:=IK t (mN t x.fId) (by omega)
  obtain ⟨mm,hmm⟩:=R6 hz hz.conf.deep (by omega) k (bU t (mN t x.fId).bE).bD
  obtain ⟨ls,l1,l2,l3,l4⟩:=HB ht.m ht.srt [(mN t x.fId).fId] (by simp) (by omega)
  obtain ⟨nt,n1,n2,n3⟩:=ht.note (by omega) (mN t x.fId).fId 0
  simp only [vN t _ (show t.ah.length≤1000000 by omega),hu,ho,hmm,l1,n1,zb]
  split
  ·exact ⟨_,rfl,fun a' e=>(by injection e with e; subst e; exact ⟨⟨l2,l3⟩,by omega⟩),fun r e=>(by cases e)⟩
  ·exact ⟨_,rfl,fun a' e=>(by injection e with e; subst e; exact ⟨n2,by omega⟩),fun r e=>(by cases e)⟩) (fun b hb=>hb) ⟨h,Nat.le_refl _⟩
 rw [q1]
 exact ⟨_,rfl,q2⟩
theorem Mf {M:Nat} {s:aa} (h:OkS M s) (hM:M + 1≤1000000) : ∃ r,wP s=some r∧OkS M r.1∧r.1.ac.length≤s.ac.length:=by
 have hc:=h.sz.conts
 unfold wP
 dsimp only
 obtain ⟨r,r1,r2⟩:=aL (f:=oU) (fun st=>∃ i:Nat,st.2=(i:Int)∧i≤1000∧OkS M st.1∧st.1.ac.length≤s.ac.length) (fun st=>1000 - st.2.toNat) (fun r=>OkS M r.1∧r.1.ac.length≤s.ac.length) (fun st ⟨i,h1,h2,h3,h4⟩=>by
  unfold oU
  simp only [h1]
  split
  ·rename_i hlt
   have hlab:=h3.sz.conf.sz.labels
   have hlt:i < st.1.bB.al.length:=by have:=zd hlt; omega
   obtain ⟨a,a1,a2,a3⟩:=O2 h3 hM (i:Int)
   have hac:=a2.sz.conts
   obtain ⟨p,p1,p2⟩:=O6 a2.sz (by omega) (i:Int)
   have hp:p.length≤1000000:=by omega
   simp only [a1,p1,zb]
   rw [yG p a hp]
   obtain ⟨q,q1,q2⟩:=aV (g:=fv p) (fin:=fun b=>(b,(p.length:Int))) (fun _ b=>OkS M b∧b.ac.length≤s.ac.length) (fun r=>OkS M r.1∧r.1.ac.length≤s.ac.length) p 0 a (fun j t x hx ⟨ht,hle⟩=>by
    obtain ⟨nt,n1,n2,n3⟩:=ht.note (by omega) x (if 1 > t.bZ then 1 else t.bZ)
    unfold fv
    simp only [n1,zb]
    exact ⟨_,rfl,fun a' e=>(by injection e with e; subst e; exact ⟨n2,by omega⟩),fun r e=>(by cases e)⟩) (fun b hb=>hb) ⟨a2,by omega⟩
   rw [q1]
   simp only [zb,aR (show i < 1000 by omega) (show 1000≤1000000 by omega)]
   exact .inl ⟨_,rfl,⟨i + 1,rfl,by omega,q2.1,q2.2⟩,by simp only [zt]; omega⟩
  ·exact .inr ⟨_,rfl,h3,h4⟩) ab (s,0) ⟨0,rfl,by omega,h,Nat.le_refl _⟩ (by show 1000 - (0:Int).toNat < ab; unfold ab; omega)
 rw [r1]
 simp only [zb]
 have hrc:=r2.1.sz.conts
 rw [Dc s r.1 (by omega) (by omega)]
 exact ⟨_,rfl,r2⟩
theorem SX {s:ByteArray} {a b:Nat} (h1:a≤b) (h2:b≤s.size) : KL s (a:Int) (b:Int)=some (s.extract a b):=by
 unfold KL
 rw [if_pos ⟨by omega,by omega,by simpa using h1,by simpa using h2⟩]
 simp
theorem SW {s:ByteArray} {a:Nat} (h1:a≤s.size) : Uk s (a:Int)=some (s.extract a s.size):=by
 unfold Uk
 rw [if_pos ⟨by omega,by simpa using h1⟩]
 simp
theorem SY {s:ByteArray} {a:Nat} (h1:a≤s.size) : Ij s (a:Int)=some (s.extract 0 a):=by
 unfold Ij
 rw [if_pos ⟨by omega,by simpa using h1⟩]
 simp
theorem zB (s:ByteArray) (a b:Nat) : (s.extract a b).size≤s.size:=by simp only [ByteArray.size_extract]; omega
theorem xj {k:Nat} (hk:k≤1000000) : i64.wrap ((k:Int) + 1)=((k + 1:Nat) : Int):=by rw [IntKind.wrap_i64]; omega
theorem ltS {k n:Nat} (h:k < n) : decide ((k:Int) < (n:Int))=true:=by simpa using h
theorem geS {k:Nat} : decide ((k:Int) < (k:Int))=false:=by simp
theorem Kg (s:ByteArray) (c:Int) (hs:s.size≤100000) : ∃ r,He s c=some r∧r.length≤s.size + 1∧∀ x∈r,x.size≤s.size:=by
 unfold He
 dsimp only
 obtain ⟨r,r1,r2⟩:=aL (f:=un s c) (fun st=>∃ i a:Nat,st.2.2=(i:Int)∧st.2.1=(a:Int)∧i≤s.size∧a≤i∧st.1.length≤i∧∀ x∈st.1,x.size≤s.size) (fun st=>s.size - st.2.2.toNat) (fun r=>∃ a:Nat,r.2.1=(a:Int)∧a≤s.size∧r.1.length≤s.size∧∀ x∈r.1,x.size≤s.size) (fun st ⟨i,a,h1,h2,h3,h4,h5,h6⟩=>by
  unfold un
  simp only [h1,h2]
  by_cases hlt:i < s.size
  ·obtain ⟨b,hb⟩:=p9 (s:=s) (k:=(i:Int)) (by omega) (by simpa using hlt)
   simp only [ltS hlt,if_true,hb,zb,xj (show i≤1000000 by omega)]
   split
   ·rw [SX h4 h3]
    simp only [zb]
    rw [aF (by simp; omega)]
    refine .inl ⟨_,rfl,⟨i + 1,i + 1,rfl,rfl,hlt,Nat.le_refl _,by simp; omega,fun x hx=>?_⟩,by simp only [zt]; omega⟩
    simp only [List.mem_append,List.mem_singleton] at hx
    rcases hx with hx | rfl
    ·exact h6 x hx
    ·exact zB _ _ _
   ·exact .inl ⟨_,rfl,⟨i + 1,a,rfl,rfl,hlt,by omega,by show st.1.length≤i + 1; omega,h6⟩,by simp only [zt]; omega⟩
  ·have:i=s.size:=by omega
   subst this
   simp only [geS,zf,if_false]
   exact .inr ⟨_,rfl,a,rfl,h4,h5,h6⟩) ab ([],0,0) ⟨0,0,rfl,rfl,Nat.zero_le _,Nat.le_refl _,Nat.le_refl _,fun x hx=>by cases hx⟩ (by show s.size - (0:Int).toNat < ab; unfold ab; omega)
 rw [r1]
 obtain ⟨a,k1,k2,k3,k4⟩:=r2
 simp only [zb,k1]
 split
 ·rw [SW k2]
  simp only [zb]
  rw [aF (by simp; omega)]
  refine ⟨_,rfl,by simp; omega,fun x hx=>?_⟩
  simp only [List.mem_append,List.mem_singleton] at hx
  rcases hx with hx | rfl
  ·exact k4 x hx
  ·exact zB _ _ _
 ·exact ⟨_,rfl,by show r.1.length≤_; omega,k4⟩
theorem OK (s:ByteArray) (hs:s.size≤100000) : ∃ r,zS s=some r∧r.length≤s.size + 1∧∀ x∈r,x.size≤s.size:=by
 obtain ⟨l,l1,l2,l3⟩:=Kg s 32 hs
 have hl:l.length≤1000000:=by omega
 unfold zS
 simp only [l1,zb]
 obtain ⟨r,r1,r2⟩:=aL (f:=qx l) (fun st=>∃ i:Nat,st.2=(i:Int)∧i≤l.length∧st.1.length≤i∧∀ x∈st.1,x.size≤s.size) (fun st=>l.length - st.2.toNat) (fun r=>r.1.length≤s.size + 1∧∀ x∈r.1,x.size≤s.size) (fun st ⟨i,h1,h2,h3,h4⟩=>by
  unfold qx
  simp only [h1]
  by_cases hlt:i < l.length
  ·have g1:l[i]? = some l[i]:=zq hlt
   simp only [bG g1,if_true,aD g1,zb,aR hlt hl]
   split
   ·rw [aF (by simp; omega)]
    refine .inl ⟨_,rfl,⟨i + 1,rfl,hlt,by simp; omega,fun x hx=>?_⟩,by simp only [zt]; omega⟩
    simp only [List.mem_append,List.mem_singleton] at hx
    rcases hx with hx | rfl
    ·exact h4 x hx
    ·exact l3 _ (List.getElem_mem _)
   ·exact .inl ⟨_,rfl,⟨i + 1,rfl,hlt,by show st.1.length≤i + 1; omega,h4⟩,by simp only [zt]; omega⟩
  ·have:i=l.length:=by omega
   subst this
   simp only [bv,zf,if_false]
   exact .inr ⟨_,rfl,by show st.1.length≤_; omega,h4⟩) ab ([],0) ⟨0,rfl,Nat.zero_le _,Nat.le_refl _,fun x hx=>by cases hx⟩ (by have:=an hl; show l.length - (0:Int).toNat < ab; omega)
 rw [r1]
 exact ⟨_,rfl,r2⟩
theorem um (s:ByteArray) (hs:s.size≤100000) : ∃ r,pV s=some r:=by
 unfold pV
 simp only [orB,zb]
 by_cases h0:s.size < 1∨s.size > 7
 ·have:(decide ((s.size:Int) < 1)||decide ((s.size:Int) > 7))=true:=by
   rcases h0 with h | h
   ·have:decide ((s.size:Int) < 1)=true:=by simp; omega
    rw [this]; rfl
   ·have:decide ((s.size:Int) > 7)=true:=by simp; omega
    rw [this]; simp
  simp only [this,if_true,zb]
  exact ⟨_,rfl⟩
 ·have:(decide ((s.size:Int) < 1)||decide ((s.size:Int) > 7))=false:=by
   have h1:decide ((s.size:Int) < 1)=false:=by simp; omega
   have h2:decide ((s.size:Int) > 7)=false:=by simp; omega
   rw [h1,h2]; rfl
  obtain ⟨b,hb⟩:=p9 (s:=s) (k:=0) (by omega) (by simp; omega)
  simp only [this,zf,if_false,hb,dy,zb]
  split
  ·exact ⟨_,rfl⟩
  ·obtain ⟨r,r1,_⟩:=aL (f:=oT s) (fun st=>∃ i:Nat,st.2=(i:Int)∧i≤s.size) (fun st=>s.size - st.2.toNat) (fun _=>True) (fun st ⟨i,h1,h2⟩=>by
    unfold oT
    simp only [h1]
    by_cases hlt:i < s.size
    ·obtain ⟨b,hb⟩:=p9 (s:=s) (k:=(i:Int)) (by omega) (by simpa using hlt)
     simp only [ltS hlt,if_true,hb,orB,zb,xj (show i≤1000000 by omega)]
     split
     ·exact .inr ⟨_,rfl,trivial⟩
     ·exact .inl ⟨_,rfl,⟨i + 1,rfl,hlt⟩,by simp only [zt]; omega⟩
    ·have:i=s.size:=by omega
     subst this
     simp only [geS,zf,if_false]
     exact .inr ⟨_,rfl,trivial⟩) ab (0,0) ⟨0,rfl,Nat.zero_le _⟩ (by show s.size - (0:Int).toNat < ab; unfold ab; omega)
   rw [r1]
   simp only [zb]
   cases r <;> exact ⟨_,rfl⟩
theorem OL (s:ByteArray) (hs:s.size≤100000) : ∃ r,zT s=some r:=by
 unfold zT
 dsimp only
 obtain ⟨r,r1,i,r2,r3⟩:=aL (f:=qy s) (fun st=>∃ i:Nat,st=(i:Int)∧i≤s.size) (fun st=>s.size - st.toNat) (fun st=>∃ i:Nat,st=(i:Int)∧i≤s.size) (fun st ⟨i,h1,h2⟩=>by
  unfold qy
  simp only [h1]
  by_cases hlt:i < s.size
  ·obtain ⟨b,hb⟩:=p9 (s:=s) (k:=(i:Int)) (by omega) (by simpa using hlt)
   simp only [ltS hlt,if_true,hb,zb,xj (show i≤1000000 by omega)]
   split
   ·exact .inl ⟨_,rfl,⟨i + 1,rfl,hlt⟩,by simp only [zt]; omega⟩
   ·exact .inr ⟨_,rfl,i,rfl,h2⟩
  ·have:i=s.size:=by omega
   subst this
   simp only [geS,zf,if_false,zb]
   exact .inr ⟨_,rfl,_,rfl,Nat.le_refl _⟩) ab 0 ⟨0,rfl,Nat.zero_le _⟩ (by show s.size - (0:Int).toNat < ab; unfold ab; omega)
 rw [r1]
 subst r2
 simp only [zb]
 split
 ·exact ⟨_,rfl⟩
 ·rename_i hne
  have hlt:i < s.size:=by
   have:i≠s.size:=fun e=>hne (by rw [e]; simp)
   omega
  obtain ⟨a,ha⟩:=um (s.extract 0 i) (Nat.le_trans (zB _ _ _) hs)
  obtain ⟨b,hb⟩:=um (s.extract (i + 1) s.size) (Nat.le_trans (zB _ _ _) hs)
  rw [SY (Nat.le_of_lt hlt)]
  simp only [zb,ha,xj (show i≤1000000 by omega)]
  rw [SW hlt]
  simp only [zb,hb,dy]
  exact ⟨_,rfl⟩
theorem OM (w:List ByteArray) (n:Nat) (hn:n≤1000) (hw:w.length≤100001) (hs:∀ x∈w,x.size≤100000) : ∃ r,zU w (n:Int)=some r∧r.1.bu.length≤100001∧r.1.aB.size≤100000:=by
 have hwr:i64.wrap (3 + (n:Int))=((3 + n:Nat) : Int):=by rw [IntKind.wrap_i64]; omega
 unfold zU
 simp only [hwr]
 by_cases hl:w.length=3 + n
 ·have hl':((w.length:Int) != ((3 + n:Nat) : Int))=false:=by rw [hl]; simp
  have g0:w[0]? = some w[0]:=zq (by omega)
  have g1:w[1]? = some w[1]:=zq (by omega)
  have g2:w[2]? = some w[2]:=zq (by omega)
  have i0:=aD g0
  have i1:=aD g1
  have i2:=aD g2
  obtain ⟨m,hm⟩:=um w[2] (hs _ (List.getElem_mem _))
  have i0':ar w 0=some w[0]:=i0
  have i1':ar w 1=some w[1]:=i1
  have i2':ar w 2=some w[2]:=i2
  simp only [hl',zf,if_false,i0',zb]
  split
  ·exact ⟨_,rfl,by simp,Nat.zero_le _⟩
  ·simp only [i2',hm,i1',zb]
   obtain ⟨r,r1,r2⟩:=aL (f:=qz w) (fun st=>∃ i:Nat,st.2.2=(i:Int)∧i≤w.length∧st.2.1.bu.length≤i∧st.2.1.aB.size≤100000) (fun st=>w.length - st.2.2.toNat) (fun r=>r.2.1.bu.length≤100001∧r.2.1.aB.size≤100000) (fun st ⟨i,h1,h2,h3,h4⟩=>by
    unfold qz
    simp only [h1]
    by_cases hlt:i < w.length
    ·have g1:w[i]? = some w[i]:=zq hlt
     obtain ⟨c,hc⟩:=OL w[i] (hs _ (List.getElem_mem _))
     simp only [bG g1,if_true,aD g1,hc,zb,aR hlt (show w.length≤1000000 by omega)]
     split
     ·rw [aF (by simp; omega)]
      exact .inl ⟨_,rfl,⟨i + 1,rfl,hlt,by simp; omega,h4⟩,by simp only [zt]; omega⟩
     ·exact .inr ⟨_,rfl,by show st.2.1.bu.length≤_; omega,h4⟩
    ·have:i=w.length:=by omega
     subst this
     simp only [bv,zf,if_false,zb]
     exact .inr ⟨_,rfl,by show st.2.1.bu.length≤_; omega,h4⟩) ab (m.2,(⟨w[1],[],m.1⟩ : av),3) ⟨3,rfl,by omega,by simp,hs _ (List.getElem_mem _)⟩ (by show w.length - (3:Int).toNat < ab; unfold ab; omega)
   rw [r1]
   exact ⟨_,rfl,r2⟩
 ·have hl':((w.length:Int) != ((3 + n:Nat) : Int))=true:=by simp; omega
  simp only [hl',if_true,zb]
  exact ⟨_,rfl,by simp,Nat.zero_le _⟩
structure nG (c:ax) : Prop where
 labels:c.al.length≤3
 label:∀ x∈c.al,x.size≤100000
 queues:c.ae.length≤2001
 paths:∀ q∈c.ae,q.aB.size≤100000
 caps:∀ q∈c.ae,q.bu.length≤100001
theorem nG.nil:nG ⟨[],[]⟩:=⟨by simp,fun x hx=>(by cases hx),by simp,fun x hx=>(by cases hx),fun x hx=>(by cases hx)⟩
theorem OP (s:ByteArray) : ∃ r,zW s=some r∧nG r.1:=by
 unfold zW
 by_cases h0:s.size > 2000
 ·have:decide ((s.size:Int) > 2000)=true:=by simp; omega
  simp only [this,if_true]
  exact ⟨_,rfl,.nil⟩
 have hd:decide ((s.size:Int) > 2000)=false:=by simp; omega
 simp only [hd,zf,if_false]
 obtain ⟨l,l1,l2,l3⟩:=Kg s 10 (by omega)
 have hl:l.length≤1000000:=by omega
 simp only [l1,zb]
 obtain ⟨r,r1,r2⟩:=aL (f:=qB l) (fun st=>∃ i:Nat,st.2.2=(i:Int)∧i≤l.length∧st.1.ae.length≤i∧nG st.1) (fun st=>l.length - st.2.2.toNat) (fun r=>match r with | .inl m=>nG m.1 | .inr m=>nG m.1) (fun st ⟨i,h1,h2,hq,hp⟩=>by
  unfold qB
  simp only [h1]
  by_cases hlt:i < l.length
  ·have g1:l[i]? = some l[i]:=zq hlt
   have hls:=l3 _ (List.getElem_mem hlt)
   obtain ⟨w,w1,w2,w3⟩:=OK l[i] (by omega)
   simp only [bG g1,if_true,aD g1,w1,zb,aR hlt hl]
   split
   ·exact .inl ⟨_,rfl,⟨i + 1,rfl,hlt,by show st.1.ae.length≤i + 1; omega,hp⟩,by simp only [zt]; omega⟩
   rename_i hw0
   have hw : 0 < w.length:=by
    rcases Nat.eq_zero_or_pos w.length with e | e
    ·rw [e] at hw0; simp at hw0
    ·exact e
   have i0':ar w 0=some w[0]:=aD (zq hw)
   split
   ·simp only [i0',zb]
    split
    ·exact .inr ⟨_,rfl,.nil⟩
    split
    ·exact .inr ⟨_,rfl,.nil⟩
    rename_i h3
    have h3:w.length≤3:=by have : ¬ ((w.length:Int) > 3):=fun e=>h3 (by simpa using e); omega
    have hlo:loO w 1=some (w.drop 1):=jX (l:=w) (k:=1) hw
    simp only [hlo,zb]
    rw [aF (by simp; omega)]
    simp only [zb]
    refine .inl ⟨_,rfl,⟨i + 1,rfl,hlt,by show st.1.ae.length≤i + 1; omega,⟨by simp; omega,fun x hx=>?_,hp.queues,hp.paths,hp.caps⟩⟩,by simp only [zt]; omega⟩
    simp only [List.singleton_append,List.mem_cons] at hx
    rcases hx with rfl | hx
    ·exact Nat.zero_le _
    ·have:=w3 x (List.mem_of_mem_drop hx); omega
   ·simp only [i0',dy,zb]
    split
    ·exact .inr ⟨_,rfl,.nil⟩
    obtain ⟨q,q1,q2,q3⟩:=OM w st.1.al.length (by have:=hp.labels; omega) (by omega) (fun x hx=>by have:=w3 x hx; omega)
    simp only [q1,zb]
    split
    ·exact .inr ⟨_,rfl,.nil⟩
    obtain ⟨K,k1,k2,k3,k4⟩:=aL (f:=qA st.1 q.1) (fun st2=>∃ j:Nat,st2=(j:Int)∧j≤st.1.ae.length) (fun st2=>st.1.ae.length - st2.toNat) (fun st2=>∃ j:Nat,st2=(j:Int)∧j≤st.1.ae.length) (fun st2 ⟨j,e1,e2⟩=>by
     unfold qA
     simp only [e1]
     by_cases hj:j < st.1.ae.length
     ·have g2:st.1.ae[j]? = some st.1.ae[j]:=zq hj
      simp only [bG g2,if_true,aD g2,zb,aR hj (show st.1.ae.length≤1000000 by omega)]
      split
      ·exact .inl ⟨_,rfl,⟨j + 1,rfl,hj⟩,by simp only [zt]; omega⟩
      ·exact .inr ⟨_,rfl,j,rfl,e2⟩
     ·have:j=st.1.ae.length:=by omega
      subst this
      simp only [bv,zf,if_false,zb]
      exact .inr ⟨_,rfl,_,rfl,Nat.le_refl _⟩) ab 0 ⟨0,rfl,Nat.zero_le _⟩ (by have:=an (show st.1.ae.length≤1000000 by omega); show st.1.ae.length - (0:Int).toNat < ab; omega)
    subst k3
    have fin:∀ tw:Bool,(∃ s',(Option.bind (hiO st.1.ae ((k2:Nat) : Int)) fun b16=>Option.bind (aP ([] : (List av)) b16) fun b17=>Option.bind (aP b17 [q.1]) fun b18=>Option.bind (loO st.1.ae ((k2:Nat) : Int)) fun b19=>Option.bind (aP b18 b19) fun b20=>some (Sum.inl ({ st.1 with ae:=b20 },tw,((i + 1:Nat) : Int)) : (ax×Bool×Int)⊕((ax×Bool×Int)⊕(ax×Int))))=some (.inl s')∧(∃ i:Nat,s'.2.2=(i:Int)∧i≤l.length∧s'.1.ae.length≤i∧nG s'.1)∧l.length - s'.2.2.toNat < l.length - ((i:Nat) : Int).toNat):=by
     intro tw
     rw [nn k4]
     simp only [zb]
     rw [aF (by simp; omega)]
     simp only [zb]
     rw [aF (by simp; omega)]
     simp only [zb]
     rw [jX k4]
     simp only [zb]
     rw [aF (by simp; omega)]
     simp only [zb]
     have mem:∀ x∈([] ++ st.1.ae.take k2 ++ [q.1])++st.1.ae.drop k2,x∈st.1.ae∨x=q.1:=by
      intro x hx
      simp only [List.nil_append,List.mem_append,List.mem_singleton] at hx
      rcases hx with (hx | hx) | hx
      ·exact .inl (List.mem_of_mem_take hx)
      ·exact .inr hx
      ·exact .inl (List.mem_of_mem_drop hx)
     refine ⟨_,rfl,⟨i + 1,rfl,hlt,by simp; omega,⟨hp.labels,hp.label,by simp; omega,fun x hx=>?_,fun x hx=>?_⟩⟩,by simp only [zt]; omega⟩
     ·rcases mem x hx with hx | rfl
      ·exact hp.paths x hx
      ·exact q3
     ·rcases mem x hx with hx | rfl
      ·exact hp.caps x hx
      ·exact q2
    simp only [k1,orB,zb]
    by_cases hj:k2 < st.1.ae.length
    ·have g2:st.1.ae[k2]? = some st.1.ae[k2]:=zq hj
     simp only [bG g2,if_true,aD g2,zb]
     by_cases ht:st.2.1=true
     ·simp only [ht,if_true,zb]
      exact .inl (fin _)
     ·simp only [ht,zf,if_false,zb]
      exact .inl (fin _)
    ·have:k2=st.1.ae.length:=by omega
     subst this
     simp only [bv,zf,if_false,zb]
     by_cases ht:st.2.1=true
     ·simp only [ht,if_true,zb]
      exact .inl (fin _)
     ·simp only [ht,zf,if_false,zb]
      exact .inl (fin _)
  ·have:i=l.length:=by omega
   subst this
   simp only [bv,zf,if_false]
   exact .inr ⟨_,rfl,hp⟩) ab ((⟨[],[]⟩ : ax),false,0) ⟨0,rfl,Nat.zero_le _,by simp,.nil⟩ (by have:=an hl; show l.length - (0:Int).toNat < ab; omega)
 rw [r1]
 simp only [zb]
 cases r with
 | inr m=>exact ⟨_,rfl,r2⟩
 | inl m =>
  dsimp only
  split
  ·exact ⟨_,rfl,.nil⟩
  split
  ·exact ⟨_,rfl,.nil⟩
  ·exact ⟨_,rfl,r2⟩
def inI (n:Int) : Prop:=-9223372036854775808≤n∧n≤9223372036854775807
theorem fh {s t:ByteArray} (h:s.size + t.size≤9223372036854775807) : mM s t=some (s++t):=by unfold mM; rw [if_pos h]
theorem W7 (n:Int) : ∃ r,ZD [n] = some r∧r.size=1:=⟨_,rfl,by simp [ByteArray.size_push]⟩
theorem QQ:∀ (d:Nat) (n:Int),0≤n→n < 10 ^ (d + 1)→d≤30→n≤9223372036854775807→∀ f,d < f→∃ r,dB f n=some r∧r.size≤d + 1
 | d,n,h0,h1,hd,h2,0,hf=>by omega
 | d,n,h0,h1,hd,h2,f + 1,hf=>by
  unfold dB
  have e1:decide (n < 0)=false:=by simp; omega
  simp only [e1,zf,if_false]
  by_cases hn:n≥10
  ·have e2:decide (n≥10)=true:=by simpa using hn
   match d,h1,hd,hf with
   | 0,h1,_,_=>simp at h1; omega
   | d + 1,h1,hd,hf =>
   have hq:n.tdiv 10=n / 10:=Int.tdiv_eq_ediv_of_nonneg h0
   have hm:n.tmod 10=n % 10:=Int.tmod_eq_emod_of_nonneg h0
   have hw:i64.wrap (n / 10)=n / 10:=by rw [IntKind.wrap_i64]; omega
   have hlt:n / 10 < 10 ^ (d + 1):=by
    have e:(10:Int) ^ (d + 1 + 1)=10 ^ (d + 1) * 10:=by rw [Int.pow_succ]
    rw [e] at h1
    generalize (10:Int) ^ (d + 1)=P at h1 ⊢
    omega
   obtain ⟨a,a1,a2⟩:=QQ d (n / 10) (by omega) hlt (by omega) (by omega) f (by omega)
   obtain ⟨b,b1,b2⟩:=QQ 0 (n % 10) (by omega) (by simp; omega) (by omega) (by omega) f (by omega)
   simp only [e2,if_true,hq,hm,hw,a1,b1,zb]
   rw [fh (by omega)]
   exact ⟨_,rfl,by simp only [ByteArray.size_append]; omega⟩
  ·have e2:decide (n≥10)=false:=by simp; omega
   obtain ⟨r,r1,r2⟩:=W7 (IntKind.u8.wrap (i64.wrap (48 + n)))
   simp only [e2,zf,if_false,r1,zb]
   exact ⟨_,rfl,by omega⟩
theorem TS {n:Int} (h0 : 0≤n) (h:n≤9223372036854775807) {f:Nat} (hf : 18 < f) : ∃ r,dB f n=some r∧r.size≤19:=QQ 18 n h0 (Int.lt_of_le_of_lt h (by decide)) (by omega) h f hf
theorem sg {n:Int} (h:inI n) : ∃ r,dB ab n=some r∧r.size≤30:=by
 by_cases h0 : 0≤n
 ·obtain ⟨r,r1,r2⟩:=TS h0 h.2 (f:=ab) (by unfold ab; omega)
  exact ⟨r,r1,by omega⟩
 ·have hr:ab=999999999 + 1:=rfl
  rw [hr]
  have hneg:∀ f,18 < f→∃ r,dB (f + 1) n=some r∧r.size≤30:=fun f hf=>by
   unfold dB
   have e1:decide (n < 0)=true:=by simp; omega
   simp only [e1,if_true]
   split
   ·exact ⟨_,rfl,by decide⟩
   ·rename_i hne
    have hne:n≠-9223372036854775808:=by simpa using hne
    have hw:i64.wrap (0 - n)=0 - n:=by rw [IntKind.wrap_i64]; have:=h.1; omega
    obtain ⟨a,a1,a2⟩:=TS (n:=0 - n) (by omega) (by have:=h.1; omega) (f:=f) hf
    simp only [hw,a1,zb]
    have e3:(⟨#[45]⟩ : ByteArray).size=1:=rfl
    rw [fh (by rw [e3]; omega)]
    exact ⟨_,rfl,by simp only [ByteArray.size_append,e3]; omega⟩
  exact hneg 999999999 (by omega)
structure YS (c:ax) : Prop where
 labels:c.al.length≤1000
 label:∀ x∈c.al,x.size≤100000
 queues:c.ae.length≤1000
 paths:∀ q∈c.ae,q.aB.size≤100000
 caps:∀ q∈c.ae,q.bu.length≤1000
 user:∀ q∈c.ae,inI q.cD
 nums:∀ q∈c.ae,∀ x∈q.bu,inI x.kN∧inI x.sW
theorem Hf {c:ax} (h:YS c) : ∃ r,zV c=some r:=by
 have s1:(⟨#[32]⟩ : ByteArray).size=1:=rfl
 have s2:(⟨#[10]⟩ : ByteArray).size=1:=rfl
 have s3:(⟨#[47]⟩ : ByteArray).size=1:=rfl
 have s4:(⟨#[113,117,101,117,101,32]⟩ : ByteArray).size=6:=rfl
 have s5:(⟨#[108,97,98,101,108,115]⟩ : ByteArray).size=6:=rfl
 have hl:=h.labels
 have hq:=h.queues
 unfold zV
 dsimp only
 obtain ⟨r,r1,r2⟩:=aL (f:=sa c) (fun st=>∃ i:Nat,st.2=(i:Int)∧i≤1001∧st.1.size≤10 + i * 200000) (fun st=>c.al.length - st.2.toNat) (fun r=>r.1.size≤300000000) (fun st ⟨i,h1,h2,h3⟩=>by
  unfold sa
  simp only [h1]
  by_cases hlt:i < c.al.length
  ·have g1:c.al[i]? = some c.al[i]:=zq hlt
   have hs:=h.label _ (List.getElem_mem hlt)
   simp only [bG g1,if_true,aD g1,zb,aR hlt (show c.al.length≤1000000 by omega)]
   rw [fh (by rw [s1]; omega)]
   simp only [zb]
   rw [fh (by simp only [ByteArray.size_append,s1]; omega)]
   exact .inl ⟨_,rfl,⟨i + 1,rfl,by omega,by simp only [ByteArray.size_append,s1]; omega⟩,by simp only [zt]; omega⟩
  ·have:decide ((i:Int) < (c.al.length:Int))=false:=by simp; omega
   simp only [this,zf,if_false]
   exact .inr ⟨_,rfl,by show st.1.size≤_; omega⟩) ab ((⟨#[108,97,98,101,108,115]⟩ : ByteArray),1) ⟨1,rfl,by omega,by rw [s5]; omega⟩ (by show c.al.length - (1:Int).toNat < ab; unfold ab; omega)
 rw [r1]
 simp only [zb]
 rw [fh (by rw [s2]; omega)]
 simp only [zb]
 obtain ⟨q,q1,_⟩:=aL (f:=rZ c) (fun st=>∃ i:Nat,st.2=(i:Int)∧i≤c.ae.length∧st.1.size≤400000000 + i * 1000000) (fun st=>c.ae.length - st.2.toNat) (fun _=>True) (fun st ⟨i,h1,h2,h3⟩=>by
  unfold rZ
  simp only [h1]
  by_cases hlt:i < c.ae.length
  ·have g1:c.ae[i]? = some c.ae[i]:=zq hlt
   have hm:=List.getElem_mem hlt
   generalize c.ae[i] = Q at g1 hm
   have hp:=h.paths _ hm
   have hc:=h.caps _ hm
   have hn:=h.nums _ hm
   obtain ⟨u,u1,u2⟩:=sg (h.user _ hm)
   simp only [bG g1,if_true,aD g1,u1,zb,aR hlt (show c.ae.length≤1000000 by omega)]
   rw [fh (by rw [s4]; omega)]
   simp only [zb]
   rw [fh (by simp only [ByteArray.size_append,s4]; omega)]
   simp only [zb]
   rw [fh (by simp only [ByteArray.size_append,s4,s1]; omega)]
   simp only [zb]
   rw [fh (by simp only [ByteArray.size_append,s4,s1]; omega)]
   simp only [zb]
   generalize hX:st.1++(⟨#[113,117,101,117,101,32]⟩ : ByteArray)++Q.aB++(⟨#[32]⟩ : ByteArray)++u=X
   have hXs:X.size≤400000000 + i * 1000000 + 200000:=by rw [← hX]; simp only [ByteArray.size_append,s4,s1]; omega
   obtain ⟨w,w1,w2⟩:=aL (f:=rY Q) (fun st2=>∃ j:Nat,st2.2=(j:Int)∧j≤Q.bu.length∧st2.1.size≤X.size + j * 100) (fun st2=>Q.bu.length - st2.2.toNat) (fun r=>r.1.size≤X.size + 100000) (fun st2 ⟨j,e1,e2,e3⟩=>by
    unfold rY
    simp only [e1]
    by_cases hj:j < Q.bu.length
    ·have g2:Q.bu[j]? = some Q.bu[j]:=zq hj
     obtain ⟨n1,n2⟩:=hn _ (List.getElem_mem hj)
     obtain ⟨a,a1,a2⟩:=sg n1
     obtain ⟨b,b1,b2⟩:=sg n2
     simp only [bG g2,if_true,aD g2,a1,b1,zb,aR hj (show Q.bu.length≤1000000 by omega)]
     rw [fh (by rw [s1]; omega)]
     simp only [zb]
     rw [fh (by simp only [ByteArray.size_append,s1]; omega)]
     simp only [zb]
     rw [fh (by simp only [ByteArray.size_append,s1,s3]; omega)]
     simp only [zb]
     rw [fh (by simp only [ByteArray.size_append,s1,s3]; omega)]
     exact .inl ⟨_,rfl,⟨j + 1,rfl,hj,by simp only [ByteArray.size_append,s1,s3]; omega⟩,by simp only [zt]; omega⟩
    ·have:j=Q.bu.length:=by omega
     subst this
     simp only [bv,zf,if_false]
     exact .inr ⟨_,rfl,by show st2.1.size≤_; omega⟩) ab (X,0) ⟨0,rfl,Nat.zero_le _,by simp⟩ (by show Q.bu.length - (0:Int).toNat < ab; unfold ab; omega)
   rw [w1]
   simp only [zb]
   rw [fh (by rw [s2]; omega)]
   exact .inl ⟨_,rfl,⟨i + 1,rfl,hlt,by simp only [ByteArray.size_append,s2]; omega⟩,by simp only [zt]; omega⟩
  ·have:i=c.ae.length:=by omega
   subst this
   simp only [bv,zf,if_false]
   exact .inr ⟨_,rfl,trivial⟩) ab (r.1++(⟨#[10]⟩ : ByteArray),0) ⟨0,rfl,Nat.zero_le _,by simp only [ByteArray.size_append,s2]; omega⟩ (by show c.ae.length - (0:Int).toNat < ab; unfold ab; omega)
 rw [q1]
 exact ⟨_,rfl⟩
def cnt (s:ByteArray) (k:Nat) : Nat:=((s.data.toList.take k).filter (fun c=>c==46)).length
def dots (s:ByteArray) : Nat:=cnt s s.size
theorem I9 {s:ByteArray} {i:Nat} {b:Int} (h:ke s (i:Int)=some b) : ∃ c:UInt8,s.data.toList[i]? = some c∧b=(c.toNat:Int):=by
 unfold ke at h
 rw [if_pos (by omega)] at h
 rw [zt,zm] at h
 obtain ⟨c,h1,h2⟩:=h
 exact ⟨c,h1,h2.symm⟩
theorem GM {s:ByteArray} {i:Nat} {c:UInt8} (h:s.data.toList[i]? = some c) : cnt s (i + 1)=cnt s i + (if c=46 then 1 else 0):=by
 unfold cnt
 rw [List.take_add_one,h,List.filter_append,List.length_append]
 by_cases hc:c=46
 ·subst hc; simp
 ·have:(c==46)=false:=by simpa using hc
  simp [hc,this]
theorem Yz (s:ByteArray) {i j:Nat} (h:i≤j) : cnt s i≤cnt s j:=by
 unfold cnt
 exact (List.Sublist.filter _ ((List.take_prefix_take_left h).sublist)).length_le
theorem Yo {c:UInt8} (h:((c.toNat:Int) != 46)=false) : c=46:=by
 have h:(c.toNat:Int)=46:=by simpa using h
 have h:c.toNat=46:=by omega
 exact UInt8.toNat_inj.1 (by rw [h]; rfl)
theorem Xx {c:UInt8} (h:((c.toNat:Int) != 46)=true) : c≠46:=by
 intro e
 subst e
 simp at h
theorem Yn {s:ByteArray} {k:Nat} (hk:k≤s.size) : dots (s.extract 0 k)=cnt s k:=by
 unfold dots cnt
 have e1:(s.extract 0 k).data.toList=s.data.toList.take k:=by
  simp [ByteArray.data_extract]
 have e2:(s.extract 0 k).size=k:=by simp only [ByteArray.size_extract]; omega
 rw [e1,e2,List.take_take,Nat.min_self]
theorem Q3 {p r:ByteArray} (hp:p.size≤1000000) (h:dK p=some r) : r.size=0∨dots r + 1≤dots p:=by
 unfold dK at h
 dsimp only at h
 obtain ⟨k,hk,h⟩:=bw h
 have hq:k < 0∨ke p k=some 46:=by
  refine nh (f:=eH p) (fun _=>True) (fun k=>k < 0∨ke p k=some 46) (fun st r _ h=>?_) _ _ k trivial hk
  unfold eH at h
  dsimp only at h
  obtain ⟨q,hq,h⟩:=bw h
  split at h
  ·injection h with h; subst h; trivial
  ·rename_i hf
   injection h with h
   subst h
   show st < 0∨ke p st=some 46
   split at hq
   ·obtain ⟨b,hb,hq⟩:=bw hq
    injection hq with hq
    have:b=46:=by rw [← hq] at hf; simpa using hf
    exact .inr (by rw [hb,this])
   ·rename_i hge
    exact .inl (by have : ¬ (st≥0):=fun e=>hge (by simpa using e); omega)
 split at h
 ·injection h with h; subst h; exact .inl rfl
 ·rename_i hge
  have hge : ¬ k < 0:=fun e=>hge (by simpa using e)
  obtain ⟨b,hb,h⟩:=bw h
  injection h with h
  subst h
  rcases hq with hq | hq
  ·exact absurd hq hge
  ·obtain ⟨n,rfl⟩ : ∃ n:Nat,k=(n:Int):=⟨k.toNat,by omega⟩
   obtain ⟨c,hc,e⟩:=I9 hq
   have hlt:n < p.size:=by have:=(zg.1 hc).1; simpa using this
   rw [SY (Nat.le_of_lt hlt)] at hb
   injection hb with hb
   subst hb
   refine .inr ?_
   rw [Yn (Nat.le_of_lt hlt)]
   have hc46:c=46:=Yo (by rw [← e]; rfl)
   have h1:=GM hc
   rw [if_pos hc46] at h1
   have h2:=Yz p (i:=n + 1) (j:=p.size) hlt
   unfold dots
   omega
theorem nv {p:ByteArray} (hp:p.size≤1000000) : dK p=some (ej p)∧((ej p).size < p.size∨(ej p).size=0):=by
 obtain ⟨r,h1,h2⟩:=oB p hp
 unfold ej
 rw [h1]
 exact ⟨rfl,h2⟩
theorem GB:∀ (n:Nat) (p:ByteArray),p.size≤1000000→dG n p≤dots p + 1
 | 0,p,_=>Nat.zero_le _
 | n + 1,p,hp=>by
  unfold dG
  split
  ·exact Nat.zero_le _
  ·obtain ⟨h1,h2⟩:=nv hp
   have ih:=GB n (ej p) (by omega)
   rcases Q3 hp h1 with h | h
   ·have:dG n (ej p)=0:=by
     cases n with
     | zero=>rfl
     | succ n=>unfold dG; rw [if_pos h]
    omega
   ·omega
theorem Hc (s:ByteArray) : ∃ r,wK s=some r:=by
 unfold wK
 simp only [orB,zb]
 by_cases h0:s.size < 1∨s.size > 12
 ·have:(decide ((s.size:Int) < 1)||decide ((s.size:Int) > 12))=true:=by
   rcases h0 with h | h
   ·have:decide ((s.size:Int) < 1)=true:=by simp; omega
    rw [this]; rfl
   ·have:decide ((s.size:Int) > 12)=true:=by simp; omega
    rw [this]; simp
  simp only [this,if_true]
  exact ⟨_,rfl⟩
 ·have:(decide ((s.size:Int) < 1)||decide ((s.size:Int) > 12))=false:=by
   have h1:decide ((s.size:Int) < 1)=false:=by simp; omega
   have h2:decide ((s.size:Int) > 12)=false:=by simp; omega
   rw [h1,h2]; rfl
  simp only [this,zf,if_false]
  obtain ⟨r,r1,_⟩:=aL (f:=rX s) (fun st=>∃ i:Nat,st=(i:Int)∧i≤s.size) (fun st=>s.size - st.toNat) (fun _=>True) (fun st ⟨i,h1,h2⟩=>by
   unfold rX
   simp only [h1]
   by_cases hlt:i < s.size
   ·obtain ⟨b,hb⟩:=p9 (s:=s) (k:=(i:Int)) (by omega) (by simpa using hlt)
    simp only [ltS hlt,if_true,hb,orB,dy,zb,xj (show i≤1000000 by omega)]
    split
    ·exact .inr ⟨_,rfl,trivial⟩
    ·exact .inl ⟨_,rfl,⟨i + 1,rfl,hlt⟩,by simp only [zt]; omega⟩
   ·have:i=s.size:=by omega
    subst this
    simp only [geS,zf,if_false]
    exact .inr ⟨_,rfl,trivial⟩) ab 0 ⟨0,rfl,Nat.zero_le _⟩ (by show s.size - (0:Int).toNat < ab; unfold ab; omega)
  rw [r1]
  simp only [zb]
  cases r <;> exact ⟨_,rfl⟩
theorem L1 (s:ByteArray) (hs:s.size≤100000) : ∃ r,wJ s=some r∧(r=true→dots s≤3):=by
 unfold wJ
 dsimp only
 have hcn:∀ k,cnt s k≤100000:=fun k=>by
  unfold cnt
  refine Nat.le_trans (List.length_filter_le _ _) (Nat.le_trans (List.length_take_le' _ _) ?_)
  simpa using hs
 obtain ⟨r,r1,r2⟩:=aL (f:=oS s) (fun st=>∃ i a n:Nat,st.2.2=(i:Int)∧st.1=(a:Int)∧st.2.1=(n:Int)∧a≤i∧((i≤s.size∧n=cnt s i)∨(i=s.size + 1∧n=cnt s s.size + 1))) (fun st=>s.size + 1 - st.2.2.toNat) (fun r=>match r with | .inl m=>m.2.1=((cnt s s.size + 1:Nat) : Int) | .inr b=>b=false) (fun st ⟨i,a,n,h1,h2,h3,h4,h5⟩=>by
  unfold oS
  simp only [h1,h2,h3]
  rcases h5 with ⟨h5,h6⟩ | ⟨h5,h6⟩
  ·have hle:decide ((i:Int)≤(s.size:Int))=true:=by simp; omega
   have hn:n≤100000:=by rw [h6]; exact hcn i
   obtain ⟨nm,hnm⟩:=Hc (s.extract a i)
   simp only [hle,if_true]
   have body:∀ n',(n' = n + 1)→(i=s.size∨cnt s (i + 1)=n + 1)→∃ o,(Option.bind (KL s (a:Int) (i:Int)) fun b5=>Option.bind (wK b5) fun c6=>Option.bind (if (!c6)=true then some true else Option.bind (if ((n:Int)==0)=true then Option.bind (KL s (a:Int) (i:Int)) fun b7=>some (!(b7.toList==(⟨#[114,111,111,116]⟩ : ByteArray).toList)) else some false) fun q8=>some q8) fun q9=>if q9=true then some (Sum.inr (Sum.inr false) : (Int×Int×Int)⊕((Int×Int×Int)⊕Bool)) else some (.inl (i64.wrap ((i:Int) + 1),i64.wrap ((n:Int) + 1),i64.wrap ((i:Int) + 1))))=some o∧(o = .inr (.inr false)∨o = .inl (((i + 1:Nat) : Int),((n + 1:Nat) : Int),((i + 1:Nat) : Int))):=by
    intro n' _ _
    simp only [SX h4 h5,hnm,zb,xj (show i≤1000000 by omega),xj (show n≤1000000 by omega)]
    have:∀ q:Bool,∃ o,(if q=true then some (Sum.inr (Sum.inr false) : (Int×Int×Int)⊕((Int×Int×Int)⊕Bool)) else some (.inl (((i + 1:Nat) : Int),((n + 1:Nat) : Int),((i + 1:Nat) : Int))))=some o∧(o = .inr (.inr false)∨o = .inl (((i + 1:Nat) : Int),((n + 1:Nat) : Int),((i + 1:Nat) : Int))):=fun q=>by
     cases q
     ·exact ⟨_,rfl,.inr rfl⟩
     ·exact ⟨_,rfl,.inl rfl⟩
    cases nm with
    | false=>simp only [Bool.not_false,if_true,zb]; exact ⟨_,rfl,.inl rfl⟩
    | true =>
     simp only [Bool.not_true,zf,if_false]
     split
     ·simp only [zb]; exact this _
     ·simp only [zb]; exact this _
   by_cases hlt:i < s.size
   ·obtain ⟨b,hb⟩:=p9 (s:=s) (k:=(i:Int)) (by omega) (by simpa using hlt)
    obtain ⟨c,hc,e⟩:=I9 hb
    simp only [ltS hlt,if_true,hb,zb]
    cases hbd:(b != 46) with
    | true =>
     simp only [if_true,xj (show i≤1000000 by omega)]
     have hnd:=Xx (c:=c) (by rw [← e]; exact hbd)
     exact .inl ⟨_,rfl,⟨i + 1,a,n,rfl,rfl,rfl,by omega,.inl ⟨hlt,by rw [GM hc,if_neg hnd]; exact h6⟩⟩,by simp only [zt]; omega⟩
    | false =>
     simp only [zf,if_false]
     have hdt:=Yo (c:=c) (by rw [← e]; exact hbd)
     have hcs:cnt s (i + 1)=n + 1:=by rw [GM hc,if_pos hdt,h6]
     obtain ⟨o,o1,o2⟩:=body (n + 1) rfl (.inr hcs)
     rw [o1]
     rcases o2 with rfl | rfl
     ·exact .inr ⟨_,rfl,rfl⟩
     ·exact .inl ⟨_,rfl,⟨i + 1,i + 1,n + 1,rfl,rfl,rfl,Nat.le_refl _,.inl ⟨hlt,hcs.symm⟩⟩,by simp only [zt]; omega⟩
   ·have hi:i=s.size:=by omega
    subst hi
    simp only [geS,zf,if_false,zb]
    obtain ⟨o,o1,o2⟩:=body (n + 1) rfl (.inl rfl)
    rw [o1]
    rcases o2 with rfl | rfl
    ·exact .inr ⟨_,rfl,rfl⟩
    ·exact .inl ⟨_,rfl,⟨s.size + 1,s.size + 1,n + 1,rfl,rfl,rfl,Nat.le_refl _,.inr ⟨rfl,by rw [h6]⟩⟩,by simp only [zt]; omega⟩
  ·have hle:decide ((i:Int)≤(s.size:Int))=false:=by simp; omega
   simp only [hle,zf,if_false]
   exact .inr ⟨_,rfl,by show (n:Int) = _; rw [h6]⟩) ab (0,0,0) ⟨0,0,0,rfl,rfl,rfl,Nat.le_refl _,.inl ⟨Nat.zero_le _,by simp [cnt]⟩⟩ (by show s.size + 1 - (0:Int).toNat < ab; unfold ab; omega)
 rw [r1]
 simp only [zb]
 cases r with
 | inr m=>exact ⟨_,rfl,fun e=>by rw [show m=false from r2] at e; cases e⟩
 | inl m =>
  refine ⟨_,rfl,fun e=>?_⟩
  have r2:m.2.1=((cnt s s.size + 1:Nat) : Int):=r2
  rw [r2] at e
  have:=zd e
  unfold dots
  omega
theorem L0 {c:ax} (h:nG c) : ∃ r,tf c=some r∧(r=0→1≤c.al.length∧c.al.length≤3∧c.ae.length≤16):=by
 have hl:=h.labels
 have hq:=h.queues
 unfold tf
 simp only [orB,zb]
 cases hb:(decide ((c.al.length:Int) < 1)||decide ((c.al.length:Int) > 3)||decide ((c.ae.length:Int) > 16)) with
 | true=>simp only [if_true]; exact ⟨_,rfl,fun e=>by cases e⟩
 | false =>
  simp only [Bool.or_eq_false_iff,decide_eq_false_iff_not] at hb
  obtain ⟨⟨b1,b2⟩,b3⟩:=hb
  have good : 1≤c.al.length∧c.al.length≤3∧c.ae.length≤16:=⟨by omega,by omega,by omega⟩
  have hpos : 0 < c.al.length:=by omega
  have i0:ar c.al 0=some c.al[0]:=aD (zq hpos)
  simp only [zf,if_false,i0,zb]
  split
  ·exact ⟨_,rfl,fun _=>good⟩
  obtain ⟨r,r1,_⟩:=aL (f:=oQ c) (fun st=>∃ i:Nat,st=(i:Int)) (fun st=>c.al.length - st.toNat) (fun _=>True) (fun st ⟨i,h1⟩=>by
   unfold oQ
   simp only [h1]
   by_cases hlt:i < c.al.length
   ·have g1:c.al[i]? = some c.al[i]:=zq hlt
    obtain ⟨n,hn⟩:=Hc c.al[i]
    simp only [bG g1,if_true,aD g1,hn,zb,aR hlt (show c.al.length≤1000000 by omega)]
    split
    ·exact .inr ⟨_,rfl,trivial⟩
    ·exact .inl ⟨_,rfl,⟨i + 1,rfl⟩,by simp only [zt]; omega⟩
   ·have:decide ((i:Int) < (c.al.length:Int))=false:=by simp; omega
    simp only [this,zf,if_false]
    exact .inr ⟨_,rfl,trivial⟩) ab 1 ⟨1,rfl⟩ (by show c.al.length - (1:Int).toNat < ab; unfold ab; omega)
  rw [r1]
  simp only [zb]
  cases r with
  | inr m=>exact ⟨_,rfl,fun _=>good⟩
  | inl m =>
   dsimp only
   obtain ⟨q,q1,_⟩:=aL (f:=oP c) (fun st=>∃ i:Nat,st=(i:Int)) (fun st=>c.al.length - st.toNat) (fun _=>True) (fun st ⟨i,h1⟩=>by
    unfold oP
    simp only [h1]
    by_cases hlt:i < c.al.length
    ·have g1:c.al[i]? = some c.al[i]:=zq hlt
     obtain ⟨w,w1,_⟩:=aL (f:=oO (i:Int) c) (fun st=>∃ j:Nat,st=(j:Int)) (fun st=>i - st.toNat) (fun _=>True) (fun st ⟨j,e1⟩=>by
      unfold oO
      simp only [e1]
      by_cases hj:j < i
      ·have g2:c.al[j]? = some c.al[j]:=zq (by omega)
       have hd:decide ((j:Int) < (i:Int))=true:=by simpa using hj
       simp only [hd,if_true,aD g1,aD g2,zb,xj (show j≤1000000 by omega)]
       split
       ·exact .inr ⟨_,rfl,trivial⟩
       ·exact .inl ⟨_,rfl,⟨j + 1,rfl⟩,by simp only [zt]; omega⟩
      ·have hd:decide ((j:Int) < (i:Int))=false:=by simp; omega
       simp only [hd,zf,if_false]
       exact .inr ⟨_,rfl,trivial⟩) ab 1 ⟨1,rfl⟩ (by show i - (1:Int).toNat < ab; unfold ab; omega)
     simp only [bG g1,if_true,w1,zb]
     cases w with
     | inr m=>exact .inr ⟨_,rfl,trivial⟩
     | inl m =>
      simp only [aR hlt (show c.al.length≤1000000 by omega)]
      exact .inl ⟨_,rfl,⟨i + 1,rfl⟩,by simp only [zt]; omega⟩
    ·have:decide ((i:Int) < (c.al.length:Int))=false:=by simp; omega
     simp only [this,zf,if_false]
     exact .inr ⟨_,rfl,trivial⟩) ab 1 ⟨1,rfl⟩ (by show c.al.length - (1:Int).toNat < ab; unfold ab; omega)
   rw [q1]
   simp only [zb]
   cases q with
   | inr m=>exact ⟨_,rfl,fun _=>good⟩
   | inl m=>exact ⟨_,rfl,fun _=>good⟩
structure v8 (c:ax) (i:Nat) (q:av) : Prop where
 dots:dots q.aB≤3
 above : 0 < i→isQ c (ej q.aB)=true
 caps:q.bu.length=c.al.length
theorem nG.sz {c:ax} (h:nG c) (hc:∀ q∈c.ae,q.bu.length≤1000) (hq:c.ae.length≤16) : SzC c :=
 ⟨Nat.le_trans h.labels (by decide),Nat.le_trans hq (by decide),hc,fun q hq=>Nat.le_trans (h.paths q hq) (by decide)⟩
theorem V0 (c:ax) (p:ByteArray) (hq:c.ae.length≤1000000) (hc:∀ q∈c.ae,q.bu.length≤1000000) : jE c p=some (FW c p,isQ c p):=by
 unfold jE FW isQ
 dsimp only
 rw [tg c p () hq]
 have hg:dW c p=fun (_:Unit) q=>if (q.aB.toList==p.toList)=true then Option.bind (aP [] q.bu) fun b=>some (.inr (.inr ({ q with bu:=b },true))) else some (.inl ()):=rfl
 obtain ⟨r,h1,h2⟩ : ∃ r,bh (dW c p) (fun _=>(.inl (c.ae.length:Int) : Int⊕(av×Bool))) () c.ae=some r∧r=(match c.ae.find? fun q=>q.aB.toList==p.toList with | some q=>.inr (q,true) | none=>.inl (c.ae.length:Int)):=by
  rw [hg]
  have:∀ l:List av,(∀ q∈l,q.bu.length≤1000000)→bh (fun (_:Unit) q=>if (q.aB.toList==p.toList)=true then Option.bind (aP [] q.bu) fun b=>some (.inr (.inr ({ q with bu:=b },true))) else some (.inl ())) (fun _=>(.inl (c.ae.length:Int) : Int⊕(av×Bool))) () l=some (match l.find? fun q=>q.aB.toList==p.toList with | some q=>.inr (q,true) | none=>.inl (c.ae.length:Int)):=by
   intro l
   induction l with
   | nil=>intro _; rfl
   | cons q l ih =>
    intro hl
    simp only [bh,List.find?_cons]
    cases hb:(q.aB.toList==p.toList) with
    | true =>
     simp only [if_true]
     rw [aF (by have:=hl q List.mem_cons_self; simp; omega)]
     simp
    | false =>
     simp only [zf,if_false]
     exact ih (fun x hx=>hl x (List.mem_cons_of_mem _ hx))
  exact ⟨_,this _ hc,rfl⟩
 rw [h1,h2]
 cases hf:c.ae.find? fun q=>q.aB.toList==p.toList with
 | none =>
  have:(c.ae.any fun q=>q.aB.toList==p.toList)=false:=by
   rw [List.any_eq_false]; intro x hx; have:=List.find?_eq_none.1 hf x hx; simpa using this
  rw [this]; rfl
 | some q =>
  have:(c.ae.any fun q=>q.aB.toList==p.toList)=true:=by rw [List.any_eq_true]; exact ⟨q,List.mem_of_find?_eq_some hf,List.find?_some (p:=fun q:av=>q.aB.toList==p.toList) hf⟩
  rw [this]; rfl
theorem OD {c:ax} (h:nG c) (i:Nat) (hi:i < c.ae.length) : ∃ r,vG c (i:Int)=some r∧(r=0→v8 c i c.ae[i]):=by
 have hq:=h.queues
 have g1:c.ae[i]? = some c.ae[i]:=zq hi
 have hm:=List.getElem_mem hi
 have hps:=h.paths _ hm
 have hcs:=h.caps _ hm
 obtain ⟨b,b1,b2⟩:=L1 c.ae[i].aB hps
 obtain ⟨a1,a2⟩:=nv (p:=c.ae[i].aB) (by omega)
 have hfind:=V0 c (ej c.ae[i].aB) (by omega) (fun q hq=>Nat.le_trans (h.caps q hq) (by decide))
 unfold vG
 simp only [aD g1,b1,zb]
 cases b with
 | false=>simp only [Bool.not_false,if_true]; exact ⟨_,rfl,fun e=>by cases e⟩
 | true =>
  have hd:=b2 rfl
  simp only [Bool.not_true,zf,if_false]
  have step:∀ q4:Bool,∃ r,(if q4=true then some 7 else Option.bind (dK c.ae[i].aB) fun c5=>Option.bind (jE c c5) fun c6=>Option.bind (if decide ((i:Int) > 0)=true then some (!c6.2) else some false) fun q7=>if q7=true then some 12 else Option.bind (if decide (c.ae[i].cD < 1)=true then some true else some (decide (c.ae[i].cD > 1000000))) fun q8=>Option.bind (if q8=true then some true else some ((c.ae[i].bu.length:Int) != (c.al.length:Int))) fun q9=>if q9=true then some 1 else Option.bind (ai (lX c.ae[i]) ab 0) fun r15=>match r15 with | .inr m16=>some m16 | .inl m16=>some (0:Int))=some r∧(r=0→v8 c i c.ae[i]):=by
   intro q4
   cases q4 with
   | true=>simp only [if_true]; exact ⟨_,rfl,fun e=>by cases e⟩
   | false =>
    simp only [zf,if_false,a1,hfind,zb,orB,dy]
    split
    ·exact ⟨_,rfl,fun e=>by cases e⟩
    rename_i h7
    split
    ·exact ⟨_,rfl,fun e=>by cases e⟩
    rename_i h9
    have good:v8 c i c.ae[i]:=⟨hd,fun h0=>by
     have hdd:decide ((i:Int) > 0)=true:=by simpa using h0
     rw [hdd] at h7
     simpa using h7,by
     have : ¬ ((c.ae[i].bu.length:Int) != (c.al.length:Int))=true:=fun e=>h9 (by rw [e]; simp)
     have:(c.ae[i].bu.length:Int)=(c.al.length:Int):=by simpa using this
     omega⟩
    obtain ⟨w,w1,_⟩:=aL (f:=lX c.ae[i]) (fun st=>∃ j:Nat,st=(j:Int)) (fun st=>c.ae[i].bu.length - st.toNat) (fun _=>True) (fun st ⟨j,e1⟩=>by
     unfold lX
     simp only [e1]
     by_cases hj:j < c.ae[i].bu.length
     ·have g2:c.ae[i].bu[j]? = some c.ae[i].bu[j]:=zq hj
      simp only [bG g2,if_true,aD g2,orB,zb,aR hj (show c.ae[i].bu.length≤1000000 by omega)]
      split
      ·exact .inr ⟨_,rfl,trivial⟩
      ·exact .inl ⟨_,rfl,⟨j + 1,rfl⟩,by simp only [zt]; omega⟩
     ·have hd:decide ((j:Int) < (c.ae[i].bu.length:Int))=false:=by simp; omega
      simp only [hd,zf,if_false]
      exact .inr ⟨_,rfl,trivial⟩) ab 0 ⟨0,rfl⟩ (by show c.ae[i].bu.length - (0:Int).toNat < ab; unfold ab; omega)
    rw [w1]
    simp only [zb]
    cases w with
    | inr m=>exact ⟨_,rfl,fun _=>good⟩
    | inl m=>exact ⟨_,rfl,fun _=>good⟩
  by_cases h0 : 0 < i
  ·have hdd:decide ((i:Int) > 0)=true:=by simpa using h0
   obtain ⟨k,rfl⟩ : ∃ k,i=k + 1:=⟨i - 1,by omega⟩
   have hk:i64.wrap (((k + 1:Nat) : Int) - 1)=(k:Int):=by rw [Ku (by omega)]; omega
   have g2:c.ae[k]? = some c.ae[k]:=zq (by omega)
   simp only [hdd,if_true,hk,aD g2,zb]
   have:=step (Op.bytesLess c.ae[k + 1].aB.toList c.ae[k].aB.toList||c.ae[k + 1].aB.toList==c.ae[k].aB.toList)
   simp only [hdd,if_true] at this
   exact this
  ·have hdd:decide ((i:Int) > 0)=false:=by simp; omega
   simp only [hdd,zf,if_false,zb]
   have:=step false
   simp only [hdd,zf,if_false] at this
   exact this
theorem vH (c:ax) (p:ByteArray) (h:SzC c) : ∃ r,ek c p=some r∧r.length≤c.ae.length∧∀ x∈r,∃ q∈c.ae,q.aB=x∧(!(p.toList==(⟨#[]⟩ : ByteArray).toList))=true∧ej x=p:=by
 unfold ek
 have hs:=gp c p [] (by have:=h.queues; omega)
 dsimp only
 rw [hs]
 obtain ⟨r,h1,h2⟩:=aV (g:=cu c p) (fin:=fun a=>(a,(c.ae.length:Int))) (fun k a=>a.length≤k∧∀ x∈a,∃ q∈c.ae,q.aB=x∧(!(p.toList==(⟨#[]⟩ : ByteArray).toList))=true∧ej x=p) (fun r=>r.1.length≤c.ae.length∧∀ x∈r.1,∃ q∈c.ae,q.aB=x∧(!(p.toList==(⟨#[]⟩ : ByteArray).toList))=true∧ej x=p) c.ae 0 [] (fun j a x hx ⟨h1,h2⟩=>by
  have hm:=List.mem_of_getElem? hx
  have hj:=(zg.1 hx).1
  obtain ⟨hr,_⟩:=nv (h.paths x hm)
  have hqs:=h.queues
  unfold cu
  simp only [hr,zb,dy]
  split
  ·rename_i hc
   rw [Bool.and_eq_true] at hc
   rw [aF (by simp; omega)]
   refine ⟨_,rfl,fun a' e=>?_,fun r e=>by cases e⟩
   injection e with e
   subst e
   refine ⟨by simp; omega,fun y hy=>?_⟩
   simp only [List.mem_append,List.mem_singleton] at hy
   rcases hy with hy | rfl
   ·exact h2 y hy
   ·exact ⟨x,hm,rfl,hc.1,oy hc.2⟩
  ·refine ⟨_,rfl,fun a' e=>?_,fun r e=>by cases e⟩
   injection e with e
   subst e
   exact ⟨by omega,h2⟩) (fun a ⟨h1,h2⟩=>⟨by simpa using h1,h2⟩) ⟨by simp,by simp⟩
 rw [h1]
 exact ⟨_,rfl,h2⟩
theorem Ek {c:ax} {q:av} (h:q∈c.ae) : isQ c q.aB=true:=by
 unfold isQ
 rw [List.any_eq_true]
 exact ⟨q,h,by simp⟩
theorem Oz:ej ⟨#[114,111,111,116]⟩=⟨#[]⟩:=by kernel_rfl
theorem Rl {c:ax} (h:SzC c) (hc:∀ q∈c.ae,q.bu.length=c.al.length) : ∃ r,Ey c=some r:=by
 have hq:=h.queues
 have hl:=h.labels
 unfold Ey
 dsimp only
 rw [Ci c () (by omega)]
 obtain ⟨r,r1,_⟩:=aV (g:=iw c) (fin:=fun _=>(.inl (c.ae.length:Int) : Int⊕Bool)) (fun _ _=>True) (fun _=>True) c.ae 0 () (fun j a x hx _=>by
  obtain ⟨ks,k1,k2,k3⟩:=vH c x.aB h
  have hkl:ks.length≤1000000:=by omega
  unfold iw
  simp only [k1,zb]
  obtain ⟨w,w1,_⟩:=aL (f:=nX c ks) (fun st=>∃ i:Nat,st=(i:Int)) (fun st=>c.al.length - st.toNat) (fun _=>True) (fun st ⟨i,h1⟩=>by
   unfold nX
   simp only [h1,dy]
   by_cases hlt:i < c.al.length
   ·obtain ⟨v,v1,_⟩ : ∃ v,ai (ko ks c (i:Int)) ab (0,0)=some v∧True:=by
     rw [Ch ks c (i:Int) 0 hkl]
     exact aV (g:=iu ks c (i:Int)) (fin:=fun a=>(a,(ks.length:Int))) (fun _ _=>True) (fun _=>True) ks 0 0 (fun j2 a y hy _=>by
      obtain ⟨q,q1,q2,_⟩:=k3 y (List.mem_of_getElem? hy)
      have hqq:isQ c y=true:=by rw [← q2]; exact Ek q1
      have hcl:=hc _ (zy hqq).1
      have g2:(FW c y).bu[i]? = some (FW c y).bu[i]:=zq (by omega)
      unfold iu
      simp only [jn c y h,zb,aD g2]
      exact ⟨_,rfl,fun _ _=>trivial,fun _ _=>trivial⟩) (fun _ _=>trivial) trivial
    simp only [v1,zb,xj (show i≤1000000 by omega)]
    split
    ·split
     ·exact .inr ⟨_,rfl,trivial⟩
     ·exact .inl ⟨_,rfl,⟨i + 1,rfl⟩,by simp only [zt]; omega⟩
    ·exact .inr ⟨_,rfl,trivial⟩
   ·have hd:decide ((i:Int) < (c.al.length:Int))=false:=by simp; omega
    simp only [hd,Bool.false_and,zf,if_false]
    exact .inr ⟨_,rfl,trivial⟩) ab 0 ⟨0,rfl⟩ (by show c.al.length - (0:Int).toNat < ab; unfold ab; omega)
  rw [w1]
  simp only [zb]
  cases w <;> exact ⟨_,rfl,fun _ _=>trivial,fun _ _=>trivial⟩) (fun _ _=>trivial) trivial
 rw [r1]
 simp only [zb]
 cases r <;> exact ⟨_,rfl⟩
structure aa1 (c:ax) : Prop where
 form:wi c
 lab1 : 1≤c.al.length
 lab3:c.al.length≤3
 leaf:∃ q∈c.ae,jf c q.aB=true
theorem Gf {α : Type} (f : α→Nat) : ∀ (l:List α),l≠[]→∃ x∈l,∀ y∈l,f y≤f x
 | [],h=>absurd rfl h
 | [x],_=>⟨x,List.mem_cons_self,fun y hy=>by simp at hy; subst hy; exact Nat.le_refl _⟩
 | x::z::l,_=>by
  obtain ⟨m,hm,hmax⟩:=Gf f (z::l) (by simp)
  by_cases h:f m≤f x
  ·refine ⟨x,List.mem_cons_self,fun y hy=>?_⟩
   rcases List.mem_cons.1 hy with rfl | hy
   ·exact Nat.le_refl _
   ·exact Nat.le_trans (hmax y hy) h
  ·refine ⟨m,List.mem_cons_of_mem _ hm,fun y hy=>?_⟩
   rcases List.mem_cons.1 hy with rfl | hy
   ·omega
   ·exact hmax y hy
theorem Tq {c:ax} (h:SzC c) (hne:c.ae≠[]) : ∃ q∈c.ae,jf c q.aB=true:=by
 obtain ⟨q,hq,hmax⟩:=Gf (fun q:av=>q.aB.size) c.ae hne
 refine ⟨q,hq,?_⟩
 obtain ⟨ks,k1,k2,k3⟩:=vH c q.aB h
 have hnil:ks = []:=by
  cases ks with
  | nil=>rfl
  | cons x ks =>
   exfalso
   obtain ⟨q2,m1,m2,m3,m4⟩:=k3 x List.mem_cons_self
   have h0:=rA m3
   subst m2
   rcases (nv (h.paths q2 m1)).2 with e | e
   ·have:=hmax q2 m1
    rw [m4] at e
    omega
   ·rw [m4] at e; omega
 have:iY c q.aB=some true:=by
  unfold iY
  simp only [jn c _ h,Ek hq,if_true,k1,hnil,zb]
  rfl
 unfold jf
 rw [this]; rfl
theorem aaa {c:ax} (h:nG c) (hl : 1≤c.al.length∧c.al.length≤3∧c.ae.length≤16) (hroot:∃ q,c.ae[0]? = some q∧q.aB=⟨#[114,111,111,116]⟩) (hq:∀ i (hi:i < c.ae.length),v8 c i c.ae[i]) : aa1 c:=by
 have hmem:∀ q∈c.ae,∃ i,v8 c i q∧(i=0→q.aB=⟨#[114,111,111,116]⟩):=fun q hm=>by
  obtain ⟨i,hi,rfl⟩:=List.getElem_of_mem hm
  refine ⟨i,hq i hi,fun e=>?_⟩
  subst e
  obtain ⟨q0,e1,e2⟩:=hroot
  rw [zq hi] at e1
  injection e1 with e1
  rw [e1]; exact e2
 have hcap:∀ q∈c.ae,q.bu.length=c.al.length:=fun q hm=>by
  obtain ⟨i,hp,_⟩:=hmem q hm
  exact hp.caps
 have hsz:SzC c:=h.sz (fun q hm=>by rw [hcap q hm]; omega) hl.2.2
 have hne:c.ae≠[]:=by
  obtain ⟨q0,e1,_⟩:=hroot
  intro e
  rw [e] at e1
  cases e1
 refine ⟨⟨hsz,hcap,fun q hm r hr=>?_,⟨hl.2.2,fun q hm=>?_⟩,hl.1,Tq hsz hne,fun x hx=>Nat.le_trans (h.label x hx) (by decide)⟩,hl.1,hl.2.1,Tq hsz hne⟩
 ·unfold zR at hr
  dsimp only at hr
  obtain ⟨st,hst,hr⟩:=bw hr
  injection hr with hr
  subst hr
  refine nh (f:=oC) (fun st=>(∀ x∈st.1,isQ c x=true)∧(0 < st.2.size→isQ c st.2=true)) (fun t=>∀ x∈t.1,isQ c x=true) (fun st r ⟨i1,i2⟩ h1=>?_) _ ([],q.aB) st ⟨fun x hx=>(by cases hx),fun _=>Ek hm⟩ hst
  unfold oC at h1
  dsimp only at h1
  split at h1
  ·rename_i hne2
   have h0:=rA hne2
   have hq2:=i2 h0
   obtain ⟨b,hb,h1⟩:=bw h1
   obtain ⟨a,ha,h1⟩:=bw h1
   injection h1 with h1
   subst h1
   obtain ⟨g1,g2⟩:=zy hq2
   have ge:=oy g2
   obtain ⟨i,hp,hrt⟩:=hmem _ g1
   rw [ge] at hrt
   have hav:a=ej st.2:=by
    unfold ej
    rw [ha]; rfl
   refine ⟨fun x hx=>?_,fun ha0=>?_⟩
   ·have hb2:=(zL hb).2
    subst hb2
    simp only [List.mem_append,List.mem_singleton] at hx
    rcases hx with hx | rfl
    ·exact i1 x hx
    ·exact hq2
   ·show isQ c a=true
    rcases Nat.eq_zero_or_pos i with e | e
    ·have:=hrt e
     exfalso
     have:a=⟨#[]⟩:=by rw [hav,this]; exact Oz
     rw [show (((b,a) : List ByteArray×ByteArray).2)=a from rfl,this] at ha0
     exact absurd ha0 (by decide)
    ·have:=hp.above e
     rw [ge] at this
     rw [hav]; exact this
  ·injection h1 with h1
   subst h1
   exact i1
 ·obtain ⟨i,hp,_⟩:=hmem q hm
  have:=GB 6 q.aB (by have:=h.paths q hm; omega)
  have:=hp.dots
  omega
theorem OJ {c:ax} (h:nG c) : ∃ r,vI c=some r∧(r=0→aa1 c):=by
 obtain ⟨e,e1,e2⟩:=L0 h
 have hqs:=h.queues
 unfold vI
 simp only [e1,zb]
 by_cases he:e=0
 ·subst he
  have hl:=e2 rfl
  have n0:((0:Int) != 0)=false:=by decide
  simp only [n0,zf,if_false]
  by_cases hq0:c.ae.length=0
  ·have:((c.ae.length:Int)==0)=true:=by simp [hq0]
   simp only [this,if_true,zb]
   exact ⟨_,rfl,fun e=>by cases e⟩
  ·have hb:((c.ae.length:Int)==0)=false:=by simp; intro e; exact hq0 (by rw [e]; rfl)
   have hpos : 0 < c.ae.length:=by omega
   have i0:ar c.ae 0=some c.ae[0]:=aD (zq hpos)
   simp only [hb,zf,if_false,i0,zb]
   cases hr:(!(c.ae[0].aB.toList==(⟨#[114,111,111,116]⟩ : ByteArray).toList)) with
   | true=>simp only [if_true]; exact ⟨_,rfl,fun e=>by cases e⟩
   | false =>
    have hrt:c.ae[0].aB=⟨#[114,111,111,116]⟩:=oy (by simpa using hr)
    simp only [zf,if_false]
    obtain ⟨w,w1,w2⟩:=aL (f:=qw c) (fun st=>∃ i:Nat,st=(i:Int)∧i≤c.ae.length∧∀ j (hj:j < c.ae.length),j < i→v8 c j c.ae[j]) (fun st=>c.ae.length - st.toNat) (fun r=>match r with | .inl _=>∀ j (hj:j < c.ae.length),v8 c j c.ae[j] | .inr m=>m≠0) (fun st ⟨i,h1,h2,h3⟩=>by
     unfold qw
     simp only [h1]
     by_cases hlt:i < c.ae.length
     ·have g1:c.ae[i]? = some c.ae[i]:=zq hlt
      obtain ⟨b,b1,b2⟩:=OD h i hlt
      simp only [bG g1,if_true,b1,zb,aR hlt (show c.ae.length≤1000000 by omega)]
      split
      ·rename_i hne
       exact .inr ⟨_,rfl,by simpa using hne⟩
      ·rename_i hz
       have hz:b=0:=by simpa using hz
       refine .inl ⟨_,rfl,⟨i + 1,rfl,hlt,fun j hj hji=>?_⟩,by simp only [zt]; omega⟩
       rcases Nat.lt_or_ge j i with h4 | h4
       ·exact h3 j hj h4
       ·have:j=i:=by omega
        subst this
        exact b2 hz
     ·have:i=c.ae.length:=by omega
      subst this
      simp only [bv,zf,if_false]
      exact .inr ⟨_,rfl,fun j hj=>h3 j hj hj⟩) ab 0 ⟨0,rfl,Nat.zero_le _,fun j _ hj=>by omega⟩ (by show c.ae.length - (0:Int).toNat < ab; unfold ab; omega)
    rw [w1]
    simp only [zb]
    cases w with
    | inr m=>exact ⟨_,rfl,fun e=>absurd e w2⟩
    | inl m =>
     dsimp only
     have w2:∀ j (hj:j < c.ae.length),v8 c j c.ae[j]:=w2
     have hform:=aaa h hl ⟨_,zq hpos,hrt⟩ w2
     have hcap0:=(w2 0 hpos).caps
     obtain ⟨v,v1,v2⟩:=aL (f:=qu c) (fun st=>∃ i:Nat,st=(i:Int)) (fun st=>c.al.length - st.toNat) (fun _=>True) (fun st ⟨i,h1⟩=>by
      unfold qu
      simp only [h1]
      by_cases hlt:i < c.al.length
      ·have g1:c.al[i]? = some c.al[i]:=zq hlt
       have g2:c.ae[0].bu[i]? = some c.ae[0].bu[i]:=zq (by omega)
       simp only [bG g1,if_true,i0,aD g2,zb,aR hlt (show c.al.length≤1000000 by omega)]
       split
       ·exact .inr ⟨_,rfl,trivial⟩
       ·exact .inl ⟨_,rfl,⟨i + 1,rfl⟩,by simp only [zt]; omega⟩
      ·have hd:decide ((i:Int) < (c.al.length:Int))=false:=by simp; omega
       simp only [hd,zf,if_false]
       exact .inr ⟨_,rfl,trivial⟩) ab 0 ⟨0,rfl⟩ (by show c.al.length - (0:Int).toNat < ab; unfold ab; omega)
     rw [v1]
     simp only [zb]
     cases v with
     | inr m=>exact ⟨_,rfl,fun _=>hform⟩
     | inl m =>
      dsimp only
      obtain ⟨s,s1⟩:=Rl hform.form.sz hform.form.each
      rw [s1]
      simp only [zb]
      cases s <;> exact ⟨_,rfl,fun _=>hform⟩
 ·have:(e != 0)=true:=by simpa using he
  simp only [this,if_true]
  exact ⟨_,rfl,fun e0=>absurd e0 he⟩
def dm (pq:Int) (v_n:Int) : Option (Int) :=
 (Du pq v_n).bind fun b1=>let v_k:Int:=b1
 (if (decide (v_k < 0))=true then
 let v_k:Int:=(i64.wrap (v_k + v_n))
 some v_k
 else
 some v_k).bind fun j2=>let v_k:=j2
 some v_k
def kG (fQ:(List Int)) (v_i:Int) : Option (Int) :=
 if ((fQ.length:Int)==0)=true then
 some v_i
 else
 (Du v_i (fQ.length:Int)).bind fun b1=>(ar fQ b1).bind fun b2=>some b2
def eu (v_c:ax) (st:av×Int) : Option ((av×Int)⊕((av×Int))) :=
 let v_q:=st.1
 let v_k:=st.2
 if (decide (v_k < (v_c.al.length:Int)))=true then
 (aP v_q.bu [(⟨10000,10000⟩ : eB)]).bind fun b11=>let v_q:av:={ v_q with bu:=b11 }
 let v_k:Int:=(i64.wrap (v_k + 1))
 some (.inl (v_q,v_k))
 else
 some (.inr (v_q,v_k))
def dF (v_l:(List ByteArray)) (fQ:(List Int)) (st:ax×Int) : Option ((ax×Int)⊕((ax×Int))) :=
 let v_c:=st.1
 let v_i:=st.2
 if (decide (v_i < (v_l.length:Int)))=true then
 (ar v_l v_i).bind fun b5=>let v_q:av:=(⟨b5,[],1000000⟩ : av)
 (if (decide (v_i < (fQ.length:Int)))=true then (ar fQ v_i).bind fun b6=>some ((Int.tmod b6 3)==0) else some false).bind fun q7=>(if q7=true then
 (ar fQ v_i).bind fun b9=>(dm b9 20000).bind fun c10=>let v_q:av:={ v_q with cD:=(i64.wrap (1 + c10)) }
 some v_q
 else
 some v_q).bind fun j8=>let v_q:=j8
 let v_k:Int:=0
 (ai (eu v_c) ab (v_q,v_k)).bind fun r12 =>
 let v_q:=r12.1
 let v_k:=r12.2
 (aP v_c.ae [v_q]).bind fun b13=>let v_c:ax:={ v_c with ae:=b13 }
 let v_i:Int:=(i64.wrap (v_i + 1))
 some (.inl (v_c,v_i))
 else
 some (.inr (v_c,v_i))
def er (ly:Int) (v_n:Int) (cr:Int) (v_j:Int) (bF:(List ByteArray)) (st:ax×Int) : Option ((ax×Int)⊕((ax×Int))) :=
 let v_c:=st.1
 let v_m:=st.2
 if (decide (v_m < (v_c.ae.length:Int)))=true then
 (ar v_c.ae v_m).bind fun b28=>(ar bF v_j).bind fun b29=>if (b28.aB.toList==b29.toList)=true then
 (ar v_c.ae v_m).bind fun b30=>(ar b30.bu ly).bind fun b31=>(ar v_c.ae v_m).bind fun b32=>let v_c:ax:={ v_c with ae:=(List.set v_c.ae (Int.toNat v_m) ({ b32 with bu:=(List.set b30.bu (Int.toNat ly) (⟨v_n,cr⟩ : eB)) })) }
 let v_m:Int:=(i64.wrap (v_m + 1))
 some (.inl (v_c,v_m))
 else
 let v_m:Int:=(i64.wrap (v_m + 1))
 some (.inl (v_c,v_m))
 else
 some (.inr (v_c,v_m))
def de (bF:(List ByteArray)) (fQ:(List Int)) (aI:Int) (ly:Int) (st:Int×ax×Int) : Option ((Int×ax×Int)⊕((Int×ax×Int))) :=
 let ct:=st.1
 let v_c:=st.2.1
 let v_j:=st.2.2
 if (decide (v_j < (bF.length:Int)))=true then
 let v_n:Int:=ct
 (if (decide (v_j < (i64.wrap ((bF.length:Int) - 1))))=true then
 (kG fQ (i64.wrap ((i64.wrap (aI + v_j)) + ly))).bind fun c18=>(dm c18 (i64.wrap (ct + 1))).bind fun c19=>(kG fQ (i64.wrap ((i64.wrap (aI * v_j)) + ly))).bind fun c20=>(dm c20 4).bind fun c21=>(ar ([0,(i64.wrap (Int.tdiv ct 2)),ct,c19] : (List Int)) c21).bind fun b22=>let v_n:Int:=b22
 some v_n
 else
 some v_n).bind fun j17=>let v_n:=j17
 let ct:Int:=(i64.wrap (ct - v_n))
 (kG fQ (i64.wrap (v_j + ly))).bind fun c23=>(dm c23 (i64.wrap ((i64.wrap (10000 - v_n)) + 1))).bind fun c24=>(kG fQ (i64.wrap (aI + (i64.wrap (2 * v_j))))).bind fun c25=>(dm c25 3).bind fun c26=>(ar ([10000,v_n,(i64.wrap (v_n + c24))] : (List Int)) c26).bind fun b27=>let cr:Int:=b27
 let v_m:Int:=0
 (ai (er ly v_n cr v_j bF) ab (v_c,v_m)).bind fun r33 =>
 let v_c:=r33.1
 let v_m:=r33.2
 let v_j:Int:=(i64.wrap (v_j + 1))
 some (.inl (ct,v_c,v_j))
 else
 some (.inr (ct,v_c,v_j))
def dE (fQ:(List Int)) (aI:Int) (bF:(List ByteArray)) (st:ax×Int) : Option ((ax×Int)⊕((ax×Int))) :=
 let v_c:=st.1
 let ly:=st.2
 if (decide (ly < (v_c.al.length:Int)))=true then
 let ct:Int:=10000
 let v_j:Int:=0
 (ai (de bF fQ aI ly) ab (ct,v_c,v_j)).bind fun r34 =>
 let ct:=r34.1
 let v_c:=r34.2.1
 let v_j:=r34.2.2
 let ly:Int:=(i64.wrap (ly + 1))
 some (.inl (v_c,ly))
 else
 some (.inr (v_c,ly))
def cU (v_l:(List ByteArray)) (fQ:(List Int)) (st:ax×Int) : Option ((ax×Int)⊕((ax×Int))) :=
 let v_c:=st.1
 let aI:=st.2
 if (decide (aI < (v_l.length:Int)))=true then
 (ar v_l aI).bind fun b15=>(ek v_c b15).bind fun c16=>let bF:(List ByteArray):=c16
 let ly:Int:=0
 (ai (dE fQ aI bF) ab (v_c,ly)).bind fun r35 =>
 let v_c:=r35.1
 let ly:=r35.2
 let aI:Int:=(i64.wrap (aI + 1))
 some (.inl (v_c,aI))
 else
 some (.inr (v_c,aI))
def fW (SQ:Int) (fQ:(List Int)) : Option (ax) :=
 let Zx:(List (List ByteArray)):=([([(⟨#[114,111,111,116]⟩ : ByteArray)] : (List ByteArray)),([(⟨#[114,111,111,116]⟩ : ByteArray),(⟨#[114,111,111,116,46,97]⟩ : ByteArray),(⟨#[114,111,111,116,46,98]⟩ : ByteArray)] : (List ByteArray)),([(⟨#[114,111,111,116]⟩ : ByteArray),(⟨#[114,111,111,116,46,97]⟩ : ByteArray),(⟨#[114,111,111,116,46,97,46,120]⟩ : ByteArray),(⟨#[114,111,111,116,46,97,46,121]⟩ : ByteArray),(⟨#[114,111,111,116,46,98]⟩ : ByteArray)] : (List ByteArray)),([(⟨#[114,111,111,116]⟩ : ByteArray),(⟨#[114,111,111,116,46,97]⟩ : ByteArray),(⟨#[114,111,111,116,46,98]⟩ : ByteArray),(⟨#[114,111,111,116,46,98,46,120]⟩ : ByteArray),(⟨#[114,111,111,116,46,98,46,120,46,112]⟩ : ByteArray),(⟨#[114,111,111,116,46,98,46,120,46,113]⟩ : ByteArray),(⟨#[114,111,111,116,46,99]⟩ : ByteArray)] : (List ByteArray)),([(⟨#[114,111,111,116]⟩ : ByteArray),(⟨#[114,111,111,116,46,97]⟩ : ByteArray)] : (List ByteArray))] : (List (List ByteArray)))
 (dm (i64.wrap (Int.tdiv SQ 5)) 2).bind fun c2=>(hiO ([(⟨#[]⟩ : ByteArray),(⟨#[103,112,117]⟩ : ByteArray)] : (List ByteArray)) (i64.wrap (1 + c2))).bind fun b1=>let v_c:ax:=(⟨b1,[]⟩ : ax)
 (dm SQ 5).bind fun c3=>(ar Zx c3).bind fun b4=>let v_l:(List ByteArray):=b4
 let v_i:Int:=0
 (ai (dF v_l fQ) ab (v_c,v_i)).bind fun r14 =>
 let v_c:=r14.1
 let v_i:=r14.2
 let aI:Int:=0
 (ai (cU v_l fQ) ab (v_c,aI)).bind fun r36 =>
 let v_c:=r36.1
 let aI:=r36.2
 some v_c
def iH (v_c:ax) (st:av) (x_:ByteArray) : Option ((av)⊕((av×Int))) :=
 let v_q:=st
 (aP v_q.bu [(⟨10000,10000⟩ : eB)]).bind fun b12=>let v_q:av:={ v_q with bu:=b12 }
 some (.inl v_q)
theorem tv (v_c:ax) (a_:av) (hl:v_c.al.length≤1000000) : ai (eu v_c) ab (a_,(0))=bh (iH v_c) (fun a_=>(a_,((v_c.al.length:Int)))) a_ v_c.al :=
 ay v_c.al (S:=av×Int) (fun a_ k_=>(a_,(k_))) (iH v_c) (fun a_=>(a_,((v_c.al.length:Int)))) (an hl) (fun k a x hx=>by
  unfold eu iH; exact bN)
  (fun a=>by unfold eu; exact cL) a_
def iI (v_l:(List ByteArray)) (fQ:(List Int)) (st:ax) (v_i:Int) (x_:ByteArray) : Option ((ax)⊕((ax×Int))) :=
 let v_c:=st
 let v_q:av:=(⟨x_,[],1000000⟩ : av)
 (if (decide (v_i < (fQ.length:Int)))=true then (ar fQ v_i).bind fun b14=>some ((Int.tmod b14 3)==0) else some false).bind fun q15=>(if q15=true then
 (ar fQ v_i).bind fun b17=>(dm b17 20000).bind fun c18=>let v_q:av:={ v_q with cD:=(i64.wrap (1 + c18)) }
 some v_q
 else
 some v_q).bind fun j16=>let v_q:=j16
 let v_k:Int:=0
 (ai (eu v_c) ab (v_q,v_k)).bind fun r19 =>
 let v_q:=r19.1
 let v_k:=r19.2
 (aP v_c.ae [v_q]).bind fun b20=>let v_c:ax:={ v_c with ae:=b20 }
 some (.inl v_c)
theorem CA (v_l:(List ByteArray)) (fQ:(List Int)) (a_:ax) (hl:v_l.length≤1000000) : ai (dF v_l fQ) ab (a_,(0))=oe (iI v_l fQ) (fun a_=>(a_,((v_l.length:Int)))) a_ 0 v_l :=
 fo v_l (S:=ax×Int) (fun a_ k_=>(a_,(k_))) (iI v_l fQ) (fun a_=>(a_,((v_l.length:Int)))) (an hl) (fun k a x hx=>by
  unfold dF iI; exact bN)
  (fun a=>by unfold dF; exact cL) a_
def iE (bF:(List ByteArray)) (fQ:(List Int)) (aI:Int) (ly:Int) (st:Int×ax) (v_j:Int) (x_:ByteArray) : Option ((Int×ax)⊕((Int×ax×Int))) :=
 let ct:=st.1
 let v_c:=st.2
 let v_n:Int:=ct
 (if (decide (v_j < (i64.wrap ((bF.length:Int) - 1))))=true then
 (kG fQ (i64.wrap ((i64.wrap (aI + v_j)) + ly))).bind fun c35=>(dm c35 (i64.wrap (ct + 1))).bind fun c36=>(kG fQ (i64.wrap ((i64.wrap (aI * v_j)) + ly))).bind fun c37=>(dm c37 4).bind fun c38=>(ar ([0,(i64.wrap (Int.tdiv ct 2)),ct,c36] : (List Int)) c38).bind fun b39=>let v_n:Int:=b39
 some v_n
 else
 some v_n).bind fun j34=>let v_n:=j34
 let ct:Int:=(i64.wrap (ct - v_n))
 (kG fQ (i64.wrap (v_j + ly))).bind fun c40=>(dm c40 (i64.wrap ((i64.wrap (10000 - v_n)) + 1))).bind fun c41=>(kG fQ (i64.wrap (aI + (i64.wrap (2 * v_j))))).bind fun c42=>(dm c42 3).bind fun c43=>(ar ([10000,v_n,(i64.wrap (v_n + c41))] : (List Int)) c43).bind fun b44=>let cr:Int:=b44
 let v_m:Int:=0
 (ai (er ly v_n cr v_j bF) ab (v_c,v_m)).bind fun r45 =>
 let v_c:=r45.1
 let v_m:=r45.2
 some (.inl (ct,v_c))
theorem Cy (bF:(List ByteArray)) (fQ:(List Int)) (aI:Int) (ly:Int) (a_:Int×ax) (hl:bF.length≤1000000) : ai (de bF fQ aI ly) ab (a_.1,a_.2,(0))=oe (iE bF fQ aI ly) (fun a_=>(a_.1,a_.2,((bF.length:Int)))) a_ 0 bF :=
 fo bF (S:=Int×ax×Int) (fun a_ k_=>(a_.1,a_.2,(k_))) (iE bF fQ aI ly) (fun a_=>(a_.1,a_.2,((bF.length:Int)))) (an hl) (fun k a x hx=>by
  unfold de iE; exact bN)
  (fun a=>by unfold de; exact cL) a_
def iG (v_l:(List ByteArray)) (fQ:(List Int)) (st:ax) (aI:Int) (x_:ByteArray) : Option ((ax)⊕((ax×Int))) :=
 let v_c:=st
 (ek v_c x_).bind fun c36=>let bF:(List ByteArray):=c36
 let ly:Int:=0
 (ai (dE fQ aI bF) ab (v_c,ly)).bind fun r37 =>
 let v_c:=r37.1
 let ly:=r37.2
 some (.inl v_c)
theorem Cz (v_l:(List ByteArray)) (fQ:(List Int)) (a_:ax) (hl:v_l.length≤1000000) : ai (cU v_l fQ) ab (a_,(0))=oe (iG v_l fQ) (fun a_=>(a_,((v_l.length:Int)))) a_ 0 v_l :=
 fo v_l (S:=ax×Int) (fun a_ k_=>(a_,(k_))) (iG v_l fQ) (fun a_=>(a_,((v_l.length:Int)))) (an hl) (fun k a x hx=>by
  unfold cU iG; exact bN)
  (fun a=>by unfold cU; exact cL) a_
theorem ia (a:Int) {n:Int} (h0 : 0 < n) (h1:n≤1000000000) : Ok (dm a n) (fun k=>0≤k∧k < n):=by
 unfold dm Du
 rw [if_neg (by omega)]
 have h:=D8 (a:=a) h0
 simp only [zb]
 refine Ok.bind (P:=fun k=>0≤k∧k < n) (Ok.ite (fun hc=>?_) fun hc=>?_) fun r hr=>Ok.pure hr
 ·have:=zd hc
  refine Ok.pure ?_
  rw [IntKind.wrap_i64]; omega
 ·have:=of_decide_eq_false (by simpa using hc:decide (a.tmod n < 0)=false)
  exact Ok.pure (by omega)
theorem uA (ns:List Int) {i:Int} (h : 0≤i) : Ok (kG ns i) (fun _=>True):=by
 unfold kG
 refine Ok.ite (fun _=>Ok.pure trivial) fun hc=>?_
 have hn:(ns.length:Int)≠0:=fun e=>hc (by rw [e]; rfl)
 unfold Du
 rw [if_neg hn]
 simp only [zb]
 refine Ok.bind (iW (Int.tmod_nonneg _ h) (D8 (by omega)).2) fun r _=>Ok.pure trivial
structure QG (L:Nat) (q:av) : Prop where
 path:q.aB.size≤100
 caps:q.bu.length=L
 user:inI q.cD
 nums:∀ x∈q.bu,inI x.kN∧inI x.sW
structure CG (L:Nat) (c:ax) : Prop where
 labels:c.al.length=L
 label:∀ x∈c.al,x.size≤100
 queues:∀ q∈c.ae,QG L q
theorem CG.text {L:Nat} {c:ax} (h:CG L c) (hL:L≤10) (hn:c.ae.length≤10) : YS c :=
 ⟨by have:=h.labels; omega,fun x hx=>Nat.le_trans (h.label x hx) (by omega),by omega,fun q hq=>Nat.le_trans (h.queues q hq).path (by omega),fun q hq=>by have:=(h.queues q hq).caps; omega,fun q hq=>(h.queues q hq).user,fun q hq=>(h.queues q hq).nums⟩
theorem CG.sz {L:Nat} {c:ax} (h:CG L c) (hL:L≤10) (hn:c.ae.length≤10) : SzC c :=
 ⟨by have:=h.labels; omega,by omega,fun q hq=>by have:=(h.queues q hq).caps; omega,fun q hq=>Nat.le_trans (h.queues q hq).path (by omega)⟩
theorem pT {n:Int} (h : -1000000000≤n∧n≤1000000000) : inI n:=by unfold inI; omega
theorem Tj {α : Type} {l:List α} {i:Nat} {a x : α} (h:x∈l.set i a) : x∈l∨x=a:=List.mem_or_eq_of_mem_set h
theorem Ze {L:Nat} {k:Nat} (hk:k < L) {n most:Int} (hn:inI n) (hm:inI most) {kids:List ByteArray} {j:Nat} (hj:j < kids.length) {N:Nat} (hN:N≤10) {c:ax} (hc:CG L c) (hcn:c.ae.length=N) : Ok (ai (er (k:Int) n most (j:Int) kids) ab (c,0)) (fun r=>CG L r.1∧r.1.ae.length=N):=by
 refine aL (fun st=>∃ m:Nat,st.2=(m:Int)∧m≤N∧CG L st.1∧st.1.ae.length=N) (fun st=>N - st.2.toNat) _ (fun st ⟨m,h1,h2,h3,h4⟩=>?_) ab (c,0) ⟨0,rfl,Nat.zero_le _,hc,hcn⟩ (by show N - (0:Int).toNat < ab; unfold ab; omega)
 unfold er
 simp only [h1]
 split
 ·rename_i hlt
  have hlt:m < st.1.ae.length:=by have:=zd hlt; omega
  have e1:=zq hlt
  have e2:=zq hj
  have hq:=h3.queues _ (List.getElem_mem hlt)
  have hkk:k < st.1.ae[m].bu.length:=by rw [hq.caps]; exact hk
  have e3:=zq hkk
  simp only [aD e1,aD e2,aD e3,zb,aR (show m < 10 by omega) (show 10≤1000000 by omega),zt]
  left
  split
  ·refine ⟨_,rfl,⟨m + 1,rfl,by omega,⟨h3.labels,h3.label,fun q hq'=>?_⟩,by simpa using h4⟩,by simp only [zt]; omega⟩
   rcases Tj hq' with h | h
   ·exact h3.queues q h
   ·subst h
    refine ⟨hq.path,by simpa using hq.caps,hq.user,fun x hx=>?_⟩
    rcases Tj hx with h | h
    ·exact hq.nums x h
    ·subst h; exact ⟨hn,hm⟩
  ·exact ⟨_,rfl,⟨m + 1,rfl,by omega,h3,h4⟩,by simp only [zt]; omega⟩
 ·exact .inr ⟨_,rfl,h3,h4⟩
theorem w64 {n:Int} (h : -1000000000000≤n∧n≤1000000000000) : i64.wrap n=n:=by rw [IntKind.wrap_i64]; omega
theorem Zg {L:Nat} {k:Nat} (hk:k < L) (hL:L≤10) {kids:List ByteArray} (hkd:kids.length≤10) (ns:List Int) {i:Nat} (hi:i≤10) {N:Nat} (hN:N≤10) {c:ax} (hc:CG L c) (hcn:c.ae.length=N) : Ok (ai (de kids ns (i:Int) (k:Int)) ab (10000,c,0)) (fun r=>CG L r.2.1∧r.2.1.ae.length=N):=by
 have:=Cy kids ns (i:Int) (k:Int) (10000,c) (by omega)
 dsimp only at this
 rw [this]
 refine Ok.weak (uZ (g:=iE kids ns (i:Int) (k:Int)) (fin:=fun a_=>(a_.1,a_.2,((kids.length:Int)))) (fun _ st=>(0≤st.1∧st.1≤10000)∧CG L st.2∧st.2.ae.length=N) kids (10000,c) (fun j st x hx ⟨⟨l0,l1⟩,h2,h3⟩=>?_) ⟨⟨by omega,by omega⟩,hc,hcn⟩) (fun r ⟨a,e,h⟩=>by subst e; exact h.2)
 have hj:=(zg.1 hx).1
 obtain ⟨left,c⟩:=st
 dsimp only at l0 l1 h2 h3
 unfold iE
 dsimp only
 have hij:(i:Int) * (j:Int)≤100:=by
  have:i * j≤10 * 10:=Nat.mul_le_mul hi (by omega)
  exact_mod_cast this
 have hij0 : 0≤(i:Int) * (j:Int):=Int.mul_nonneg (by omega) (by omega)
 refine Ok.bind (P:=fun n=>0≤n∧n≤left) (Ok.ite (fun _=>?_) fun _=>Ok.pure ⟨l0,Int.le_refl _⟩) fun n hn=>?_
 ·have h2d:left.tdiv 2=left / 2:=Int.tdiv_eq_ediv_of_nonneg l0
  rw [h2d,w64 (n:=(i:Int) + j) (by omega),w64 (n:=(i:Int) + j + k) (by omega),w64 (n:=left + 1) (by omega),w64 (n:=(i:Int) * j) (by omega),w64 (n:=(i:Int) * j + k) (by omega),w64 (n:=left / 2) (by omega)]
  refine Ok.bind (uA ns (by omega)) fun p _=>Ok.bind (ia p (by omega) (by omega)) fun v hv=>Ok.bind (uA ns (by omega)) fun p2 _=>Ok.bind (ia p2 (by omega) (by omega)) fun u hu=>Ok.bind (iW hu.1 hu.2) fun b hb=>Ok.pure ?_
  simp only [List.mem_cons,List.not_mem_nil,or_false] at hb
  omega
 ·rw [w64 (n:=left - n) (by omega),w64 (n:=(j:Int) + k) (by omega),w64 (n:=10000 - n) (by omega),w64 (n:=10000 - n + 1) (by omega),w64 (n:=2 * (j:Int)) (by omega),w64 (n:=(i:Int) + 2 * j) (by omega)]
  refine Ok.bind (uA ns (by omega)) fun p _=>Ok.bind (ia p (by omega) (by omega)) fun v hv=>Ok.bind (uA ns (by omega)) fun p2 _=>Ok.bind (ia p2 (by omega) (by omega)) fun u hu=>Ok.bind (iW hu.1 hu.2) fun b hb=>?_
  rw [w64 (n:=n + v) (by omega)] at hb
  simp only [List.mem_cons,List.not_mem_nil,or_false] at hb
  refine Ok.bind (Ze hk (pT (n:=n) (by omega)) (pT (n:=b) (by omega)) hj hN h2 h3) fun r hr=>Ok.pure ⟨_,rfl,⟨by show 0≤left - n; omega,by show left - n≤10000; omega⟩,hr.1,hr.2⟩
theorem Zh {L:Nat} (hL:L≤10) {kids:List ByteArray} (hkd:kids.length≤10) (ns:List Int) {i:Nat} (hi:i≤10) {N:Nat} (hN:N≤10) {c:ax} (hc:CG L c) (hcn:c.ae.length=N) : Ok (ai (dE ns (i:Int) kids) ab (c,0)) (fun r=>CG L r.1∧r.1.ae.length=N):=by
 refine aL (fun st=>∃ m:Nat,st.2=(m:Int)∧m≤L∧CG L st.1∧st.1.ae.length=N) (fun st=>L - st.2.toNat) _ (fun st ⟨m,h1,h2,h3,h4⟩=>?_) ab (c,0) ⟨0,rfl,Nat.zero_le _,hc,hcn⟩ (by show L - (0:Int).toNat < ab; unfold ab; omega)
 unfold dE
 simp only [h1]
 split
 ·rename_i hlt
  have hlt:m < L:=by have:=zd hlt; have:=h3.labels; omega
  obtain ⟨r,r1,r2,r3⟩:=Zg hlt hL hkd ns hi hN h3 h4
  simp only [r1,zb,aR (show m < 10 by omega) (show 10≤1000000 by omega)]
  exact .inl ⟨_,rfl,⟨m + 1,rfl,by omega,r2,r3⟩,by simp only [zt]; omega⟩
 ·exact .inr ⟨_,rfl,h3,h4⟩
theorem Zj {L:Nat} {c:ax} (hl:c.al.length=L) (hL:L≤10) {q:av} (hp:q.aB.size≤100) (hu:inI q.cD) (hc:q.bu = []) : Ok (ai (eu c) ab (q,0)) (fun r=>QG L r.1):=by
 rw [tv c q (by omega)]
 refine Ok.weak (EX (g:=iH c) (fin:=fun a_=>(a_,((c.al.length:Int)))) (fun k b=>QG k b) c.al q (fun j b x hx hb=>?_) ⟨hp,by rw [hc]; rfl,hu,by rw [hc]; intro x hx; cases hx⟩) (fun r ⟨a,e,h⟩=>by subst e; rw [hl] at h; exact h)
 have hj:=(zg.1 hx).1
 have:=hb.caps
 unfold iH
 dsimp only
 rw [aF (by simp; omega)]
 refine Ok.pure ⟨_,rfl,hb.path,by simpa using this,hb.user,fun y hy=>?_⟩
 simp only [List.mem_append,List.mem_singleton] at hy
 rcases hy with h | h
 ·exact hb.nums y h
 ·subst h; exact ⟨pT (by decide),pT (by decide)⟩
theorem Zl {L:Nat} (hL:L≤10) {l:List ByteArray} (hl:l.length≤10) (hs:∀ x∈l,x.size≤100) (ns:List Int) {c:ax} (hc:CG L c) (hq:c.ae = []) : Ok (ai (dF l ns) ab (c,0)) (fun r=>CG L r.1∧r.1.ae.length=l.length):=by
 rw [CA l ns c (by omega)]
 refine Ok.weak (uZ (g:=iI l ns) (fin:=fun a_=>(a_,((l.length:Int)))) (fun k b=>CG L b∧b.ae.length=k) l c (fun j b x hx ⟨hb,hn⟩=>?_) ⟨hc,by rw [hq]; rfl⟩) (fun r ⟨a,e,h⟩=>by subst e; exact h)
 have hj:=(zg.1 hx).1
 unfold iI
 dsimp only
 refine Ok.bind (P:=fun t=>t=true→j < ns.length) (Ok.ite (fun hd=>?_) fun _=>Ok.pure (fun e=>by cases e)) fun t ht=>?_
 ·have hd:=zd hd
  exact Ok.bind (iW (by omega) hd) fun b _=>Ok.pure (fun _=>by omega)
 refine Ok.bind (P:=fun q:av=>q.aB=x∧q.bu = []∧inI q.cD) (Ok.ite (fun hd=>?_) fun _=>Ok.pure ⟨rfl,rfl,(by show inI 1000000; exact pT (by decide))⟩) fun q ⟨q1,q2,q3⟩=>?_
 ·have:=ht hd
  refine Ok.bind (iW (by omega) (by omega)) fun b _=>Ok.bind (ia b (by omega) (by omega)) fun v hv=>Ok.pure ⟨rfl,rfl,?_⟩
  show inI (i64.wrap (1 + v))
  rw [w64 (by omega)]
  exact pT (by omega)
 ·refine Ok.bind (Zj hb.labels hL (by rw [q1]; exact hs x (List.mem_of_getElem? hx)) q3 q2) fun r hr=>?_
  rw [aF (by simp; omega)]
  refine Ok.pure ⟨_,rfl,⟨hb.labels,hb.label,fun y hy=>?_⟩,by simp; omega⟩
  simp only [List.mem_append,List.mem_singleton] at hy
  rcases hy with h | h
  ·exact hb.queues y h
  ·subst h; exact hr
theorem Zi {L:Nat} (hL:L≤10) {l:List ByteArray} (hl:l.length≤10) (ns:List Int) {N:Nat} (hN:N≤10) {c:ax} (hc:CG L c) (hq:c.ae.length=N) : Ok (ai (cU l ns) ab (c,0)) (fun r=>CG L r.1∧r.1.ae.length=N):=by
 rw [Cz l ns c (by omega)]
 refine Ok.weak (uZ (g:=iG l ns) (fin:=fun a_=>(a_,((l.length:Int)))) (fun k b=>CG L b∧b.ae.length=N) l c (fun j b x hx ⟨hb,hn⟩=>?_) ⟨hc,hq⟩) (fun r ⟨a,e,h⟩=>by subst e; exact h)
 have hj:=(zg.1 hx).1
 unfold iG
 dsimp only
 obtain ⟨kd,k1,k2,_⟩:=vH b x (hb.sz hL (by omega))
 refine Ok.bind (P:=fun kd=>kd.length≤10) ⟨kd,k1,by omega⟩ fun kd hkd=>Ok.bind (Zh hL hkd ns (by omega) hN hb hn) fun r hr=>Ok.pure ⟨_,rfl,hr.1,hr.2⟩
theorem Ib (shape:Int) (ns:List Int) : Ok (fW shape ns) YS:=by
 unfold fW
 dsimp only
 refine Ok.bind (ia _ (by omega) (by omega)) fun w hw=>?_
 rw [w64 (n:=1 + w) (by omega)]
 obtain ⟨W,rfl⟩ : ∃ W:Nat,w=(W:Int):=⟨w.toNat,by omega⟩
 rw [show (1 + (W:Int))=((1 + W:Nat) : Int) by omega,nn (by simp; omega)]
 simp only [zb]
 refine Ok.bind (ia _ (by omega) (by omega)) fun t ht=>Ok.bind (iW ht.1 ht.2) fun l hl=>?_
 have key:l.length≤7∧∀ x∈l,x.size≤100:=by
  simp only [List.mem_cons,List.not_mem_nil,or_false] at hl
  rcases hl with h | h | h | h | h <;> subst h <;> decide
 have hL:(List.take (1 + W) [(⟨#[]⟩ : ByteArray),⟨#[103,112,117]⟩]).length≤10:=Nat.le_trans (List.length_take_le' _ _) (by decide)
 refine Ok.bind (Zl hL (by omega) key.2 ns ⟨rfl,fun x hx=>?_,fun q hq=>by cases hq⟩ rfl) fun r hr=>Ok.bind (Zi hL (by omega) ns (by omega) hr.1 hr.2) fun q hq=>Ok.pure (hq.1.text hL (by have:=hq.2; omega))
 have:=List.mem_of_mem_take hx
 simp only [List.mem_cons,List.not_mem_nil,or_false] at this
 rcases this with h | h <;> subst h <;> decide
end Go.Proofs.YtmjkjaahbgikjaaGreat
